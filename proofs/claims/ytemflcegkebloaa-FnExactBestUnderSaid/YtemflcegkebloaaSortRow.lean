/- The sorting of a row of the call's own. Condition: at most 1048576 numbers. -/
import Derived.Test.YtemflcegkebloaaServe
import Derived.Test.YtemflcegkebloaaShelf
import Derived.Sort.OwnSortedInts
namespace Go.Proofs.Ytemflcegkebloaa
open Go.RowKit Go.Shelf

def sortA (l : List Int) : List Int := l.mergeSort fun x y => decide (x ≤ y)
theorem sortA_len (l : List Int) : (sortA l).length = l.length := by unfold sortA; rw [List.length_mergeSort]
theorem sortA_perm (l : List Int) : (sortA l).Perm l := List.mergeSort_perm _ _
theorem sortA_rises (l : List Int) : (sortA l).Pairwise (· ≤ ·) := by
  have := List.pairwise_mergeSort (le := fun x y : Int => decide (x ≤ y)) (fun a b c h1 h2 => by simp at *; omega) (fun a b => by simp; omega) l
  exact this.imp (fun h => by simpa using h)
theorem sortA_nil : sortA [] = [] := by have := sortA_len []; exact List.eq_nil_of_length_eq_zero this

theorem rowN_of_own {w : World} {B n : Nat} {e : TypeId} {v : Value} {l : List Int} (hn : n = l.length) (h : w.ownsRow B e 1 v n (iv l)) : ∃ t : Row, v = .slice t.a t.l.length t.c ∧ t.l = l ∧ t.Own e w ∧ t.In B w.heap.size w := by
  subst hn; exact row_of_own h

set_option maxHeartbeats 1000000 in
theorem sortRow_any (t : Row) (B : Nat) (w : World) (ho : t.Own 3 w) (hi : t.In B w.heap.size w) (hsm : t.l.length ≤ 1048576) (hBw : B ≤ w.heap.size) :
    Calls Try.prog 82 #[.slice t.a t.l.length t.c] w fun e w' => e = .returned (.tuple #[]) ∧ (Row.mk t.a t.c (sortA t.l)).Own 3 w' ∧ (Row.mk t.a t.c (sortA t.l)).In B w'.heap.size w' ∧ Below B w w' := by
  obtain ⟨a, c, l⟩ := t
  simp only at hsm ⊢
  by_cases hl : l = []
  · subst hl
    refine (Try.slices_Sort_int_none a c w).mono ?_
    rintro e w' ⟨rfl, rfl⟩
    refine ⟨rfl, .inl sortA_nil, ?_, Below.refl _ _⟩
    rw [sortA_nil]; exact hi
  · rcases ho with ho | ⟨g, ha, ho⟩
    · exact absurd ho hl
    simp only at ha ho
    subst ha
    have hBg : B ≤ g := by
      obtain ⟨_, _, q3⟩ := hi
      rcases q3 with q3 | ⟨b, o, e, q4, _⟩
      · exact absurd (iv_nil q3) hl
      · simp only [Option.some.injEq, Addr.mk.injEq] at e
        obtain ⟨rfl, _⟩ := e
        exact q4
    rcases id ho.2 with ⟨h, _⟩ | ⟨g', cap', cur, he, hB, hbk, hn1, hn2, hn3, hn4⟩
    · cases h
    simp only [Value.slice.injEq, Option.some.injEq, Addr.mk.injEq, and_true, true_and] at he
    obtain ⟨rfl, rfl⟩ := he
    have hH := holds_of_blockI (ss := l) hbk (by rw [Nat.mul_one] at hn4; exact hn4)
    have hgs : g < w.heap.size := (Array.getElem?_eq_some_iff.1 hbk).1
    have hc := Try.slices_Sort_int g 0 c l w hH hgs (by omega)
    refine hc.mono ?_
    rintro e w' ⟨rfl, n', os, rfl⟩
    have h0 := ownsRow_sortedI (n := n') (os := os) (ts := sortA l) (ss := l) (by rw [sortA_len]) (Nat.zero_le g) hbk hn1 hn2 hn3
    have h1 := ownsRow_sortedI (n := n') (os := os) (ts := sortA l) (ss := l) (by rw [sortA_len]) hBg hbk hn1 hn2 hn3
    refine ⟨rfl, .inr ⟨g, rfl, by simp only; rw [sortA_len]; exact h0⟩, ?_, (Below.refl B w).grown (grownBy_sortedI _) hBw (fun j hj => by cases hj; exact hBg)⟩
    obtain ⟨t', ht, htl, _, hti⟩ := rowN_of_own (sortA_len l).symm h1
    obtain ⟨ta, tc, tl⟩ := t'
    simp only at ht htl
    subst htl
    simp only [Value.slice.injEq] at ht
    obtain ⟨rfl, _, rfl⟩ := ht
    exact hti
end Go.Proofs.Ytemflcegkebloaa
