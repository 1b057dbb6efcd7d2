/- The value of an objective: the contracts of both sides' functions. Condition: a valid Field and a set of its sites. -/
import Derived.Test.YtemflcegkebloaaFarPart
import Derived.Deep.RegionHeld3
namespace Go.Proofs.Ytemflcegkebloaa
open Go.RowKit

/-- The value of an objective. -/
def objV (F : Fld) (T : List Nat) (k : Int) : Int :=
  if k = 1 then (lens F.t.con T).sum else if k = 2 then (pays F.o.l T).sum else if k = 3 then (lens F.t.con T).sum + (pays F.o.l T).sum else if k = 4 then partT F 0 T else (T.length : Int)
theorem objV1 (F : Fld) (T : List Nat) : objV F T 1 = (lens F.t.con T).sum := by unfold objV; simp
theorem objV2 (F : Fld) (T : List Nat) : objV F T 2 = (pays F.o.l T).sum := by unfold objV; simp
theorem objV3 (F : Fld) (T : List Nat) : objV F T 3 = (lens F.t.con T).sum + (pays F.o.l T).sum := by unfold objV; simp
theorem objV4 (F : Fld) (T : List Nat) : objV F T 4 = partT F 0 T := by unfold objV; simp
theorem objV5 (F : Fld) (T : List Nat) : objV F T 5 = (T.length : Int) := by unfold objV; simp
theorem objV_like {F G : Fld} (h : F.Like G) (T : List Nat) (k : Int) : objV F T k = objV G T k := by unfold objV; rw [h.1, h.2, partT_like h]
theorem obj_bound {F : Fld} (h : F.good = true) (T : List Nat) : 0 ≤ (lens F.t.con T).sum ∧ (lens F.t.con T).sum ≤ 693 := by
  have h1 := sum_bound (lens_bound h T)
  have h2 := (good_sizes h).2.2
  rw [lens_length] at h1
  omega
theorem row_limO {r : Row} {w : World} (hr : r.At w) : (r.l.length : Int) ≤ 9223372036854775807 := by obtain ⟨q1, q2, _⟩ := hr; rw [iv_length] at q1; unfold maxLen at q2; omega
theorem l11Objective_any (k : Int) (w : World) :
    Calls Try.prog 46 #[.int .i64 k] w fun e w' => e = .returned (.bool (decide (1 ≤ k) && decide (k ≤ 5))) ∧ w' = w := by
  have C := Lib.hid (l1In_any k 1 5 w)
  go_enter Try.func46, Try.ntmps46
  go_wp2_with fail
  refine (show Calls _ _ _ _ _ from C.out).mono ?_
  rintro e W ⟨rfl, rfl⟩
  go_wp2
  go_ret
  exact ⟨rfl, rfl⟩

set_option maxRecDepth 16000 in
set_option maxHeartbeats 1500000 in
theorem l11Value_any (F : Fld) (s : Row) (T : List Nat) (k : Int) (w : World) (hF : F.At w) (hs : s.At w) (hf : Fine F s T) (ha : Able F s T) (hk : 1 ≤ k ∧ k ≤ 5) :
    Calls Try.prog 29 #[F.val, .slice s.a s.l.length s.c, .int .i64 k] w fun e w' => e = .returned (.int .i64 (objV F T k)) ∧ Below w.heap.size w w' := by
  obtain ⟨wA, hA, hbA, bx, hFA, hszA⟩ := laid_fld F w 29 hF
  have C1 := Lib.hid (l2Serve_any F s T wA hFA (hs.on hbA) hf)
  have C2 := Lib.hid (l2Pay_any F s T wA hFA (hs.on hbA) ha)
  have C3 := Lib.hid (l2Total_any F s T wA hFA (hs.on hbA) hf ha)
  have C4 := Lib.hid (far_part F s T wA hFA (hs.on hbA) hf)
  have HLEN : Hid (s.l.length = T.length) := Lib.hid (by rw [hf.set, up_length])
  have y0 := bx.c0
  have y1 := bx.c1
  rw [hA] at y0 y1
  have HA := Lib.hid hA
  have hlim := row_limO hs
  clear hF hs hA hFA bx hf ha
  show Calls _ _ #[.agg #[F.o.val, F.t.val], _, _] w _
  rcases (by omega : k = 1 ∨ k = 2 ∨ k = 3 ∨ k = 4 ∨ k = 5) with rfl | rfl | rfl | rfl | rfl
  · rw [objV1]
    go_enter Try.func29, Try.ntmps29
    go_wp2_with fail
    rw [← HA.out]
    refine (show Calls _ _ _ _ _ from C1.out).mono ?_
    rintro e W ⟨rfl, hb⟩
    clear y0 y1
    go_wp2
    go_ret
    exact ⟨rfl, hbA.trans (hb.mono hbA.size)⟩
  · rw [objV2]
    go_enter Try.func29, Try.ntmps29
    go_wp2_with fail
    rw [← HA.out]
    refine (show Calls _ _ _ _ _ from C2.out).mono ?_
    rintro e W ⟨rfl, hb⟩
    clear y0 y1
    go_wp2
    go_ret
    exact ⟨rfl, hbA.trans (hb.mono hbA.size)⟩
  · rw [objV3]
    go_enter Try.func29, Try.ntmps29
    go_wp2_with fail
    rw [← HA.out]
    refine (show Calls _ _ _ _ _ from C3.out).mono ?_
    rintro e W ⟨rfl, hb⟩
    clear y0 y1
    go_wp2
    go_ret
    exact ⟨rfl, hbA.trans (hb.mono hbA.size)⟩
  · rw [objV4]
    go_enter Try.func29, Try.ntmps29
    go_wp2_with fail
    rw [← HA.out]
    refine (show Calls _ _ _ _ _ from C4.out).mono ?_
    rintro e W ⟨rfl, hb⟩
    clear y0 y1
    go_wp2
    go_ret
    exact ⟨rfl, hbA.trans (hb.mono hbA.size)⟩
  · rw [objV5]
    rw [HLEN.out] at hlim ⊢
    clear C1 C2 C3 C4 HLEN
    go_enter Try.func29, Try.ntmps29
    go_wp2
    go_ret
    rw [← HA.out]
    exact ⟨rfl, hbA⟩

/-- Whether a function value is that of an objective, for a Field in a box. -/
def ObjFn (k : Int) (g : Nat) (f : Value) : Prop :=
  (k = 1 ∧ f = .func (.func 65) #[] #[.pointer (some ⟨g, 0, none⟩)]) ∨ (k = 2 ∧ f = .func (.func 67) #[] #[.pointer (some ⟨g, 0, none⟩)]) ∨ (k = 3 ∧ f = .func (.func 69) #[] #[.pointer (some ⟨g, 0, none⟩)]) ∨ (k = 4 ∧ f = .func (.func 70) #[] #[.pointer (some ⟨g, 0, none⟩)]) ∨ (k = 5 ∧ f = .func (.func 72) #[] #[])
end Go.Proofs.Ytemflcegkebloaa
