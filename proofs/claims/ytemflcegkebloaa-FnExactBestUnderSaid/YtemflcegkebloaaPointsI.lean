/- The points of sets: the program's side. Condition: the Field reads as such. -/
import Derived.Test.YtemflcegkebloaaObjImpl
import Derived.Deep.RegionHeld3
import Derived.RangeFuncBox
import Derived.Laws.EntriesVeiled
namespace Go.Proofs.Ytemflcegkebloaa
open Go.RowKit

def IsFn (f : Value) : Prop := (∃ id lb, f = .func (.func id) #[] lb) ∨ f = .nilFunc

/-- What objectiveFor leaves. -/
def ObjPost2 (F : Fld) (k : Int) (w : World) (e : Ending) (w' : World) : Prop :=
  ∃ f, IsFn f ∧ e = .returned (.tuple #[f, .bool (F.good && isObj k)]) ∧ ((F.good && isObj k) = true → ObjFn k w.heap.size f) ∧ Box2 w' w.heap.size F.o.val F.t.val 29 ∧ Below w.heap.size w w'

set_option maxRecDepth 16000 in
set_option maxHeartbeats 1500000 in
theorem objectiveFor2_any (F : Fld) (k : Int) (w : World) (hF : F.At w) :
    Calls Try.prog 53 #[F.val, .int .i64 k] w (ObjPost2 F k w) := by
  obtain ⟨wA, hA, hbA, bx, hFA, hszA⟩ := laid_fld F w 29 hF
  obtain ⟨g, hg⟩ : ∃ g, g = F.good := ⟨_, rfl⟩
  have CG := Lib.hid (by have := implIsField_any F wA hFA; rw [← hg] at this; exact this)
  obtain ⟨u, hu⟩ : ∃ u, u = isObj k := ⟨_, rfl⟩
  have y0 := bx.c0
  have y1 := bx.c1
  rw [hA] at y0 y1
  have HA := Lib.hid hA
  have HBX := Lib.hid bx
  have HU := Lib.hid hu
  unfold ObjPost2
  rw [← hg, ← hu]
  clear hF hA hFA bx hg hu
  show Calls _ _ #[.agg #[F.o.val, F.t.val], _] w _
  cases g with
  | false =>
    go_enter Try.func53, Try.ntmps53
    go_wp2_with fail
    rw [← HA.out]
    refine (show Calls _ _ _ _ _ from CG.out).mono ?_
    rintro e W ⟨rfl, hb⟩
    clear y0 y1
    go_wp2
    go_ret2
    exact ⟨_, (by first | exact .inl ⟨_, _, rfl⟩ | exact .inr rfl), rfl, (by intro h; simp at h), HBX.out.on hb, hbA.trans (hb.mono hbA.size)⟩
  | true =>
    cases u with
    | false =>
      obtain ⟨n1, n2, n3, n4, n5⟩ := isObj_no HU.out.symm
      go_enter Try.func53, Try.ntmps53
      go_wp2_with fail
      rw [← HA.out]
      refine (show Calls _ _ _ _ _ from CG.out).mono ?_
      rintro e W ⟨rfl, hb⟩
      clear y0 y1
      go_wp2
      go_ret2
      exact ⟨_, (by first | exact .inl ⟨_, _, rfl⟩ | exact .inr rfl), rfl, (by intro h; simp at h), HBX.out.on hb, hbA.trans (hb.mono hbA.size)⟩
    | true =>
      have hk := isObj_yes HU.out.symm
      rcases (by omega : k = 1 ∨ k = 2 ∨ k = 3 ∨ k = 4 ∨ k = 5) with h | h | h | h | h

      · subst h
        clear hk HU
        go_enter Try.func53, Try.ntmps53
        go_wp2_with fail
        rw [← HA.out]
        refine (show Calls _ _ _ _ _ from CG.out).mono ?_
        rintro e W ⟨rfl, hb⟩
        clear y0 y1
        go_wp2
        go_ret2
        exact ⟨_, (by first | exact .inl ⟨_, _, rfl⟩ | exact .inr rfl), rfl, fun _ => .inl ⟨rfl, rfl⟩, HBX.out.on hb, hbA.trans (hb.mono hbA.size)⟩

      · subst h
        clear hk HU
        go_enter Try.func53, Try.ntmps53
        go_wp2_with fail
        rw [← HA.out]
        refine (show Calls _ _ _ _ _ from CG.out).mono ?_
        rintro e W ⟨rfl, hb⟩
        clear y0 y1
        go_wp2
        go_ret2
        exact ⟨_, (by first | exact .inl ⟨_, _, rfl⟩ | exact .inr rfl), rfl, fun _ => .inr (.inl ⟨rfl, rfl⟩), HBX.out.on hb, hbA.trans (hb.mono hbA.size)⟩

      · subst h
        clear hk HU
        go_enter Try.func53, Try.ntmps53
        go_wp2_with fail
        rw [← HA.out]
        refine (show Calls _ _ _ _ _ from CG.out).mono ?_
        rintro e W ⟨rfl, hb⟩
        clear y0 y1
        go_wp2
        go_ret2
        exact ⟨_, (by first | exact .inl ⟨_, _, rfl⟩ | exact .inr rfl), rfl, fun _ => .inr (.inr (.inl ⟨rfl, rfl⟩)), HBX.out.on hb, hbA.trans (hb.mono hbA.size)⟩

      · subst h
        clear hk HU
        go_enter Try.func53, Try.ntmps53
        go_wp2_with fail
        rw [← HA.out]
        refine (show Calls _ _ _ _ _ from CG.out).mono ?_
        rintro e W ⟨rfl, hb⟩
        clear y0 y1
        go_wp2
        go_ret2
        exact ⟨_, (by first | exact .inl ⟨_, _, rfl⟩ | exact .inr rfl), rfl, fun _ => .inr (.inr (.inr (.inl ⟨rfl, rfl⟩))), HBX.out.on hb, hbA.trans (hb.mono hbA.size)⟩

      · subst h
        clear hk HU
        go_enter Try.func53, Try.ntmps53
        go_wp2_with fail
        rw [← HA.out]
        refine (show Calls _ _ _ _ _ from CG.out).mono ?_
        rintro e W ⟨rfl, hb⟩
        clear y0 y1
        go_wp2
        go_ret2
        exact ⟨_, (by first | exact .inl ⟨_, _, rfl⟩ | exact .inr rfl), rfl, fun _ => .inr (.inr (.inr (.inr ⟨rfl, rfl⟩))), HBX.out.on hb, hbA.trans (hb.mono hbA.size)⟩



/-- What pointsFor leaves. -/
def PtsPost (F : Fld) (a b : Int) (w : World) (e : Ending) (w' : World) : Prop :=
  ∃ (b1 b2 g1 g2 : Nat) (f1 f2 : Value), e = .returned (.tuple #[.func (.func 54) #[] #[.pointer (some ⟨b1, 0, none⟩), .pointer (some ⟨b2, 0, none⟩)], .bool ((F.good && isObj a) && (F.good && isObj b))]) ∧ w'.cell? ⟨b1, 0, none⟩ = some f1 ∧ w'.cell? ⟨b2, 0, none⟩ = some f2 ∧ ((F.good && isObj a) = true → ObjFn a g1 f1) ∧ ((F.good && isObj b) = true → ObjFn b g2 f2) ∧ Box2 w' g1 F.o.val F.t.val 29 ∧ Box2 w' g2 F.o.val F.t.val 29 ∧ Below w.heap.size w w'

set_option maxRecDepth 16000 in
set_option maxHeartbeats 2000000 in
theorem pointsFor_any (F : Fld) (a b : Int) (w : World) (hF : F.At w) :
    Calls Try.prog 32 #[F.val, .int .i64 a, .int .i64 b] w (PtsPost F a b w) := by
  obtain ⟨wA, hA, hbA, bx, hFA, hszA⟩ := laid_fld F w 29 hF
  obtain ⟨ga, hga⟩ : ∃ g, g = (F.good && isObj a) := ⟨_, rfl⟩
  obtain ⟨gb, hgb⟩ : ∃ g, g = (F.good && isObj b) := ⟨_, rfl⟩
  have C1 := Lib.hid (objectiveFor2_any F a wA hFA)
  have C2 := Lib.hid (fun u (hu : Below wA.heap.size wA u) => objectiveFor2_any F b u (hFA.on hu))
  have y0 := bx.c0
  have y1 := bx.c1
  rw [hA] at y0 y1
  have HA := Lib.hid hA
  have HBX := Lib.hid bx
  have HFN := Lib.hid hFA
  have HGA := Lib.hid hga
  have HGB := Lib.hid hgb
  clear hF hA hFA bx hga hgb
  show Calls _ _ #[.agg #[F.o.val, F.t.val], _, _] w _
  go_enter Try.func32, Try.ntmps32
  go_wp2_with fail
  rw [← HA.out]
  refine (show Calls _ _ _ _ _ from C1.out).mono ?_
  rintro e W1 ⟨f1, hf1, rfl, hO1, hx1, hb1⟩
  rw [← HGA.out] at hO1 ⊢
  have HO1 := Lib.hid hO1
  have HX1 := Lib.hid hx1
  have HB1 := Lib.hid hb1
  obtain ⟨U1, hU1⟩ : ∃ U : Value → World, ∀ v, U v = W1.alloc (.cells #[v] 61) := ⟨_, fun _ => rfl⟩
  have HU1 := Lib.hid hU1
  have HBU1 : Hid (∀ v, Boxed (U1 v) W1.heap.size 61 v) := Lib.hid fun v => by rw [hU1]; exact Boxed.new W1 61 v
  have HLU1 : Hid (∀ v, Below W1.heap.size W1 (U1 v)) := Lib.hid fun v => by rw [hU1]; exact below_alloc W1 _
  have HS1 : Hid (∀ v, (U1 v).heap.size = W1.heap.size + 1) := Lib.hid fun v => by rw [hU1]; simp
  have H2 : Hid (∀ v : Value, Below wA.heap.size wA (U1 v)) := Lib.hid fun v => hb1.trans ((HLU1.out v).mono hb1.size)
  have z0 : ∀ v : Value, (W1.alloc (.cells #[v] 61)).cell? ⟨w.heap.size, 0, none⟩ = some F.o.val := fun v => by rw [← hU1]; exact (HBX.out.on (H2.out v)).c0
  have z1 : ∀ v : Value, (W1.alloc (.cells #[v] 61)).cell? ⟨w.heap.size, 1, none⟩ = some F.t.val := fun v => by rw [← hU1]; exact (HBX.out.on (H2.out v)).c1
  have hs1 := hb1.size
  clear y0 y1 hO1 hx1 hb1 hU1
  have fin : ∀ (f1 f2 : Value) (W2 : World) (gg : Bool), (ga = true → ObjFn a wA.heap.size f1) → (F.good && isObj a) = ga → (F.good && isObj b) = gb → gg = (ga && gb) → (gb = true → ObjFn b (U1 f1).heap.size f2) → Box2 W2 (U1 f1).heap.size F.o.val F.t.val 29 → Below (U1 f1).heap.size (U1 f1) W2 →
      PtsPost F a b w (.returned (.tuple #[.func (.func 54) #[] #[.pointer (some ⟨W1.heap.size, 0, none⟩), .pointer (some ⟨W2.heap.size, 0, none⟩)], .bool gg])) (W2.alloc (.cells #[f2] 61)) := by
    intro f1 f2 W2 gg o1 e1 e2 e3 o2 bx2 hb2
    have hb3 : Below W2.heap.size W2 (W2.alloc (.cells #[f2] 61)) := below_alloc W2 _
    have hU := HS1.out f1
    have hz2 := hb2.size
    have h13 := hb2.trans (hb3.mono hz2)
    refine ⟨W1.heap.size, W2.heap.size, wA.heap.size, (U1 f1).heap.size, f1, f2, by rw [e1, e2, e3], ?_, (Boxed.new W2 61 f2).cell, by rw [e1]; exact o1, by rw [e2]; exact o2, (HX1.out.on ((HLU1.out f1).trans (h13.mono (by omega)))), bx2.on hb3, hbA.trans ((HB1.out.trans (((HLU1.out f1).trans (h13.mono (by omega))).mono hs1)).mono hbA.size)⟩
    exact (h13.cell (p := ⟨W1.heap.size, 0, none⟩) (by simp only; omega)).trans (HBU1.out f1).cell
  have HF := Lib.hid fin
  clear fin
  rcases hf1 with ⟨id1, lb1, rfl⟩ | rfl
  all_goals
    go_wp2_with fail
    rw [← HU1.out]
    refine (show Calls _ _ _ _ _ from C2.out _ (H2.out _)).mono ?_
    rintro e W2 ⟨f2, hf2, rfl, hO2, hx2, hb2⟩
    rw [← HGB.out] at hO2 ⊢
    have HFX := Lib.hid (fun gg h => HF.out _ f2 W2 gg HO1.out HGA.out.symm HGB.out.symm h hO2 hx2 hb2)
    clear z0 z1 hO2 hx2 hb2
    rcases hf2 with ⟨id2, lb2, rfl⟩ | rfl
    all_goals
      cases ga with
      | false =>
        go_wp2
        go_ret2
        exact HFX.out _ rfl
      | true =>
        go_wp2
        go_ret2
        exact HFX.out _ (by simp)
end Go.Proofs.Ytemflcegkebloaa
