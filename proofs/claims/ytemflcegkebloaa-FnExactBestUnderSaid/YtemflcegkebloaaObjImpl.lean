/- The functions that tell an objective: the program's side. Condition: the Field reads as such; for a value, a valid Field and a set of its sites. -/
import Derived.Test.YtemflcegkebloaaObjOf
namespace Go.Proofs.Ytemflcegkebloaa
open Go.RowKit

def isObj (k : Int) : Bool := decide (1 ≤ k) && decide (k ≤ 5)
theorem isObj_yes {k : Int} (h : isObj k = true) : 1 ≤ k ∧ k ≤ 5 := by unfold isObj at h; simpa using h
theorem isObj_no {k : Int} (h : isObj k = false) : (k == 1) = false ∧ (k == 2) = false ∧ (k == 3) = false ∧ (k == 4) = false ∧ (k == 5) = false := by
  unfold isObj at h
  have : ¬ (1 ≤ k ∧ k ≤ 5) := fun hc => by rw [decide_eq_true hc.1, decide_eq_true hc.2] at h; cases h
  refine ⟨?_, ?_, ?_, ?_, ?_⟩ <;> (rw [beq_eq_false_iff_ne]; omega)

/-- What objectiveFor leaves. -/
def ObjPost (F : Fld) (k : Int) (w : World) (e : Ending) (w' : World) : Prop :=
  ∃ f, e = .returned (.tuple #[f, .bool (F.good && isObj k)]) ∧ ((F.good && isObj k) = true → ObjFn k w.heap.size f) ∧ Box2 w' w.heap.size F.o.val F.t.val 29 ∧ Below w.heap.size w w'

set_option maxRecDepth 16000 in
set_option maxHeartbeats 1500000 in
theorem objectiveFor_any (F : Fld) (k : Int) (w : World) (hF : F.At w) :
    Calls Try.prog 53 #[F.val, .int .i64 k] w (ObjPost F k w) := by
  obtain ⟨wA, hA, hbA, bx, hFA, hszA⟩ := laid_fld F w 29 hF
  obtain ⟨g, hg⟩ : ∃ g, g = F.good := ⟨_, rfl⟩
  have CG := Lib.hid (by have := implIsField_any F wA hFA; rw [← hg] at this; exact this)
  obtain ⟨u, hu⟩ : ∃ u, u = isObj k := ⟨_, rfl⟩
  have y0 := bx.c0
  have y1 := bx.c1
  rw [hA] at y0 y1
  have HA := Lib.hid hA
  have HBX := Lib.hid bx
  have HU := Lib.hid hu
  unfold ObjPost
  rw [← hg, ← hu]
  clear hF hA hFA bx hg hu
  show Calls _ _ #[.agg #[F.o.val, F.t.val], _] w _
  cases g with
  | false =>
    go_enter Try.func53, Try.ntmps53
    go_wp2_with fail
    rw [← HA.out]
    refine (show Calls _ _ _ _ _ from CG.out).mono ?_
    rintro e W ⟨rfl, hb⟩
    clear y0 y1
    go_wp2
    go_ret2
    exact ⟨_, rfl, (by intro h; simp at h), HBX.out.on hb, hbA.trans (hb.mono hbA.size)⟩
  | true =>
    cases u with
    | false =>
      obtain ⟨n1, n2, n3, n4, n5⟩ := isObj_no HU.out.symm
      go_enter Try.func53, Try.ntmps53
      go_wp2_with fail
      rw [← HA.out]
      refine (show Calls _ _ _ _ _ from CG.out).mono ?_
      rintro e W ⟨rfl, hb⟩
      clear y0 y1
      go_wp2
      go_ret2
      exact ⟨_, rfl, (by intro h; simp at h), HBX.out.on hb, hbA.trans (hb.mono hbA.size)⟩
    | true =>
      have hk := isObj_yes HU.out.symm
      rcases (by omega : k = 1 ∨ k = 2 ∨ k = 3 ∨ k = 4 ∨ k = 5) with h | h | h | h | h

      · subst h
        clear hk HU
        go_enter Try.func53, Try.ntmps53
        go_wp2_with fail
        rw [← HA.out]
        refine (show Calls _ _ _ _ _ from CG.out).mono ?_
        rintro e W ⟨rfl, hb⟩
        clear y0 y1
        go_wp2
        go_ret2
        exact ⟨_, rfl, fun _ => .inl ⟨rfl, rfl⟩, HBX.out.on hb, hbA.trans (hb.mono hbA.size)⟩

      · subst h
        clear hk HU
        go_enter Try.func53, Try.ntmps53
        go_wp2_with fail
        rw [← HA.out]
        refine (show Calls _ _ _ _ _ from CG.out).mono ?_
        rintro e W ⟨rfl, hb⟩
        clear y0 y1
        go_wp2
        go_ret2
        exact ⟨_, rfl, fun _ => .inr (.inl ⟨rfl, rfl⟩), HBX.out.on hb, hbA.trans (hb.mono hbA.size)⟩

      · subst h
        clear hk HU
        go_enter Try.func53, Try.ntmps53
        go_wp2_with fail
        rw [← HA.out]
        refine (show Calls _ _ _ _ _ from CG.out).mono ?_
        rintro e W ⟨rfl, hb⟩
        clear y0 y1
        go_wp2
        go_ret2
        exact ⟨_, rfl, fun _ => .inr (.inr (.inl ⟨rfl, rfl⟩)), HBX.out.on hb, hbA.trans (hb.mono hbA.size)⟩

      · subst h
        clear hk HU
        go_enter Try.func53, Try.ntmps53
        go_wp2_with fail
        rw [← HA.out]
        refine (show Calls _ _ _ _ _ from CG.out).mono ?_
        rintro e W ⟨rfl, hb⟩
        clear y0 y1
        go_wp2
        go_ret2
        exact ⟨_, rfl, fun _ => .inr (.inr (.inr (.inl ⟨rfl, rfl⟩))), HBX.out.on hb, hbA.trans (hb.mono hbA.size)⟩

      · subst h
        clear hk HU
        go_enter Try.func53, Try.ntmps53
        go_wp2_with fail
        rw [← HA.out]
        refine (show Calls _ _ _ _ _ from CG.out).mono ?_
        rintro e W ⟨rfl, hb⟩
        clear y0 y1
        go_wp2
        go_ret2
        exact ⟨_, rfl, fun _ => .inr (.inr (.inr (.inr ⟨rfl, rfl⟩))), HBX.out.on hb, hbA.trans (hb.mono hbA.size)⟩


set_option maxHeartbeats 1000000 in
theorem objFn1_any (F : Fld) (s : Row) (T : List Nat) (g : Nat) (w : World) (hF : F.At w) (hs : s.At w) (hf : Fine F s T) (_ : Able F s T) (bx : Box2 w g F.o.val F.t.val 29) :
    Calls Try.prog 65 #[.slice s.a s.l.length s.c, .pointer (some ⟨g, 0, none⟩)] w fun e w' => e = .returned (.int .i64 (objV F T 1)) ∧ Below w.heap.size w w' := by
  rw [objV1]
  have C := Lib.hid (serviceFor_any F s T w hF hs hf)
  have y0 := bx.c0
  have y1 := bx.c1
  clear hF hs hf bx
  go_enter Try.func65, Try.ntmps65
  go_wp2_with fail
  refine (show Calls _ _ _ _ _ from C.out).mono ?_
  rintro e W ⟨rfl, hb⟩
  clear y0 y1
  go_wp2
  go_ret
  exact ⟨rfl, hb⟩


set_option maxHeartbeats 1000000 in
theorem objFn2_any (F : Fld) (s : Row) (T : List Nat) (g : Nat) (w : World) (hF : F.At w) (hs : s.At w) (_ : Fine F s T) (ha : Able F s T) (bx : Box2 w g F.o.val F.t.val 29) :
    Calls Try.prog 67 #[.slice s.a s.l.length s.c, .pointer (some ⟨g, 0, none⟩)] w fun e w' => e = .returned (.int .i64 (objV F T 2)) ∧ Below w.heap.size w w' := by
  rw [objV2]
  have C := Lib.hid (paymentFor_any F s T w hF hs ha)
  have y0 := bx.c0
  have y1 := bx.c1
  clear hF hs ha bx
  go_enter Try.func67, Try.ntmps67
  go_wp2_with fail
  refine (show Calls _ _ _ _ _ from C.out).mono ?_
  rintro e W ⟨rfl, hb⟩
  clear y0 y1
  go_wp2
  go_ret
  exact ⟨rfl, hb⟩


set_option maxHeartbeats 1000000 in
theorem objFn4_any (F : Fld) (s : Row) (T : List Nat) (g : Nat) (w : World) (hF : F.At w) (hs : s.At w) (hf : Fine F s T) (_ : Able F s T) (bx : Box2 w g F.o.val F.t.val 29) :
    Calls Try.prog 70 #[.slice s.a s.l.length s.c, .pointer (some ⟨g, 0, none⟩)] w fun e w' => e = .returned (.int .i64 (objV F T 4)) ∧ Below w.heap.size w w' := by
  rw [objV4]
  have C := Lib.hid (partialReach_any F s T 0 w hF hs hf (by omega))
  have y0 := bx.c0
  have y1 := bx.c1
  clear hF hs hf bx
  go_enter Try.func70, Try.ntmps70
  go_wp2_with fail
  refine (show Calls _ _ _ _ _ from C.out).mono ?_
  rintro e W ⟨rfl, hb⟩
  clear y0 y1
  go_wp2
  go_ret
  exact ⟨rfl, hb⟩


theorem objFn5_any (F : Fld) (s : Row) (T : List Nat) (w : World) (hs : s.At w) (hf : Fine F s T) :
    Calls Try.prog 72 #[.slice s.a s.l.length s.c] w fun e w' => e = .returned (.int .i64 (objV F T 5)) ∧ Below w.heap.size w w' := by
  have hlim := row_limO hs
  have hlen : s.l.length = T.length := by rw [hf.set, up_length]
  rw [objV5]
  rw [hlen] at hlim ⊢
  clear hs hf hlen
  go_enter Try.func72, Try.ntmps72
  go_wp2
  go_ret
  exact ⟨rfl, Below.refl _ _⟩

theorem pay_bound7 {F : Fld} {s : Row} {T : List Nat} (ha : Able F s T) : 0 ≤ (pays F.o.l T).sum ∧ (pays F.o.l T).sum ≤ 99 * 1048576 := by
  have h1 := sum_bound (pays_bound ha.good T)
  rw [pays_length] at h1
  have := ha.few
  omega

set_option maxRecDepth 16000 in
set_option maxHeartbeats 2000000 in
theorem objFn3_any (F : Fld) (s : Row) (T : List Nat) (g : Nat) (w : World) (hF : F.At w) (hs : s.At w) (hf : Fine F s T) (ha : Able F s T) (bx : Box2 w g F.o.val F.t.val 29) :
    Calls Try.prog 69 #[.slice s.a s.l.length s.c, .pointer (some ⟨g, 0, none⟩)] w fun e w' => e = .returned (.int .i64 (objV F T 3)) ∧ Below w.heap.size w w' := by
  rw [objV3]
  obtain ⟨x, hx⟩ : ∃ x, x = (lens F.t.con T).sum := ⟨_, rfl⟩
  obtain ⟨y, hy⟩ : ∃ y, y = (pays F.o.l T).sum := ⟨_, rfl⟩
  have C1 := Lib.hid (fun u (hu : Below w.heap.size w u) => (by have := serviceFor_any F s T u (hF.on hu) (hs.on hu) hf; rw [← hx] at this; exact this : Calls Try.prog 66 #[.agg #[F.o.val, F.t.val], .slice s.a s.l.length s.c] u fun e w' => e = .returned (.int .i64 x) ∧ Below u.heap.size u w'))
  have C2 := Lib.hid (fun u (hu : Below w.heap.size w u) => (by have := paymentFor_any F s T u (hF.on hu) (hs.on hu) ha; rw [← hy] at this; exact this : Calls Try.prog 68 #[.agg #[F.o.val, F.t.val], .slice s.a s.l.length s.c] u fun e w' => e = .returned (.int .i64 y) ∧ Below u.heap.size u w'))
  have bx1 := obj_bound hf.good T
  have by1 := pay_bound7 ha
  rw [← hx] at bx1 ⊢
  rw [← hy] at by1 ⊢
  have HS : Hid (∀ u, Below w.heap.size w u → ((u.cell? ⟨g, 0, none⟩ = some F.o.val ∧ u.cell? ⟨g, 1, none⟩ = some F.t.val) ∧ Below w.heap.size w u)) := Lib.hid fun u hu => ⟨⟨(bx.on hu).c0, (bx.on hu).c1⟩, hu⟩
  have s0 := HS.out w.drew (Below.refl _ _).drew
  have e1 : IntKind.i64.wrap (x + y) = x + y := IntWalk.i64_in _ (by omega)
  clear hF hs hf ha bx hx hy
  go_enter Try.func69, Try.ntmps69
  go_wp2
  go_region_held3 (fun u => ((u.cell? ⟨g, 0, none⟩ = some F.o.val ∧ u.cell? ⟨g, 1, none⟩ = some F.t.val) ∧ Below w.heap.size w u)) (first | exact s0 | exact keep_reg HS.out (by first | assumption | exact And.right (by assumption)) hb1) (first | (go_at_call 66; refine (show Calls _ _ _ _ _ from C1.out _ (by first | assumption | exact And.right (by assumption))).mono ?_; rintro e u1 ⟨rfl, hb1⟩) | (go_at_call 68; refine (show Calls _ _ _ _ _ from C2.out _ (by first | assumption | exact And.right (by assumption))).mono ?_; rintro e u1 ⟨rfl, hb1⟩))
  refine at_exit (W := w) (by first | assumption | exact And.right (by assumption)) ?_
  intro W1 hb
  clear HS s0 C1 C2
  go_wp2
  go_ret
  exact ⟨rfl, hb⟩

end Go.Proofs.Ytemflcegkebloaa
