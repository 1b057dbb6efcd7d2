/- The best set under a rule: plain. No condition. -/
import Derived.Test.YtbochmpkjacnnaaChoiceTab
import Derived.Test.YtbochmpkjacnnaaPlainWorth
import Derived.Test.YtbochmpkjacnnaaEigSiteSeq
namespace Go.Proofs.Ytbochmpkjacnnaa
open Go.RowKit Go.Shelf

/-- One step of the search among sets. -/
def stepG (φ : List Nat → Int) (p : List Nat → Bool) (b T : List Nat) : List Nat := if φ b < φ T ∧ p T = true then T else b
/-- The first one of some sets that a rule allows with the greatest value, or the empty one. -/
def bestG (φ : List Nat → Int) (p : List Nat → Bool) (C : List (List Nat)) : List Nat := C.foldl (stepG φ p) []
theorem bestG_step (φ : List Nat → Int) (p : List Nat → Bool) (C : List (List Nat)) {k : Nat} (h : k < C.length) : bestG φ p (C.take (k + 1)) = stepG φ p (bestG φ p (C.take k)) C[k] := by
  unfold bestG; rw [List.take_succ_eq_append_getElem h, List.foldl_append]; rfl
theorem bestG_mem (φ : List Nat → Int) (p : List Nat → Bool) (C : List (List Nat)) : ∀ k, k ≤ C.length → bestG φ p (C.take k) = [] ∨ bestG φ p (C.take k) ∈ C
  | 0, _ => .inl rfl
  | k + 1, h => by
    rw [bestG_step φ p C (k := k) (by omega)]
    unfold stepG
    split
    · exact .inr (List.getElem_mem _)
    · exact bestG_mem φ p C k (by omega)
theorem bestG_cons (φ : List Nat → Int) (p : List Nat → Bool) (C : List (List Nat)) : bestG φ p ([] :: C) = bestG φ p C := by
  unfold bestG
  rw [List.foldl_cons]
  congr 1
  unfold stepG; split <;> rfl
theorem choL_all (n : Nat) : choL n n = [] :: E8.allSets n := by unfold choL; rw [E8.preS_all]
theorem sets_ok {n : Nat} (hn : n ≤ 8) {T : List Nat} (hT : T ∈ E8.allSets n) : setB n (up T) = true ∧ T.length ≤ 8 ∧ ∀ x ∈ T, x < n := cho_ok hn (by rw [choL_all]; exact List.mem_cons_of_mem _ hT)
theorem bestG_ok (φ : List Nat → Int) (p : List Nat → Bool) {n : Nat} (hn : n ≤ 8) : (bestG φ p (E8.allSets n)).length ≤ 8 := by
  rcases bestG_mem φ p (E8.allSets n) _ (Nat.le_refl _) with h | h
  · rw [List.take_length] at h; rw [h]; simp
  · rw [List.take_length] at h; exact (sets_ok hn h).2.1
set_option maxHeartbeats 1000000 in
theorem setsUpToB_any (n k : Nat) (w : World) :
    Calls Try.prog 92 #[.int .i64 n, .int .i64 k] w fun e w' => ∃ Bk Bs, e = .returned (.func (.func 109) #[] #[.pointer (some ⟨Bk, 0, none⟩), .pointer (some ⟨Bs, 0, none⟩)]) ∧ Hid (w.heap.size ≤ Bs ∧ w.heap.size ≤ Bk) ∧ Hid (w'.cell? ⟨Bk, 0, none⟩ = some (.int .i64 k)) ∧ Hid (w'.cell? ⟨Bs, 0, none⟩ = some (.int .i64 n)) ∧ Below w.heap.size w w' := by
  have HB := Lib.hid ((below_alloc w (.cells #[.int .i64 n] 3)).alloc (by simp) (.cells #[.int .i64 k] 3))
  have H0 := Lib.hid ((Boxed.new w 3 (.int .i64 n)).alloc (.cells #[.int .i64 k] 3)).cell
  have H1 := Lib.hid (Boxed.new (w.alloc (.cells #[.int .i64 n] 3)) 3 (.int .i64 k)).cell
  go_enter Try.func92, Try.ntmps92
  go_wp2
  go_ret
  exact ⟨w.heap.size + 1, w.heap.size, rfl, Lib.hid ⟨Nat.le_refl _, by omega⟩, Lib.hid (by have := H1.out; simp only [World.size_alloc] at this; exact this), Lib.hid H0.out, HB.out⟩
set_option maxHeartbeats 1000000 in
theorem siteSetsB_any (n : Nat) (w : World) :
    Calls Try.prog 73 #[.int .i64 n] w fun e w' => ∃ Bk Bs, e = .returned (.func (.func 109) #[] #[.pointer (some ⟨Bk, 0, none⟩), .pointer (some ⟨Bs, 0, none⟩)]) ∧ Hid (w.heap.size ≤ Bs ∧ w.heap.size ≤ Bk) ∧ Hid (w'.cell? ⟨Bk, 0, none⟩ = some (.int .i64 n)) ∧ Hid (w'.cell? ⟨Bs, 0, none⟩ = some (.int .i64 n)) ∧ Below w.heap.size w w' := by
  have CU := Lib.hid (setsUpToB_any n n w)
  go_enter Try.func73, Try.ntmps73
  go_wp2_with fail
  refine (show Calls _ _ _ _ _ from CU.out).mono ?_
  rintro e W1 ⟨Bk, Bs, rfl, H0, H1, H2, hb⟩
  go_wp2
  go_ret
  exact ⟨Bk, Bs, rfl, H0, H1, H2, hb⟩
end Go.Proofs.Ytbochmpkjacnnaa
