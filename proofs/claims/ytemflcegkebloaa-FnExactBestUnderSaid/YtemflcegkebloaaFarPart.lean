/- The reach of a set is its reach without any length left out. Condition: a valid Field and a set of its sites. -/
import Derived.Test.YtemflcegkebloaaPartial
import Derived.Test.YtemflcegkebloaaPairReachOf
namespace Go.Proofs.Ytemflcegkebloaa
open Go.RowKit

theorem maxOf_ge {l : List Int} : ∀ (b : Int), b ≤ l.foldl max b ∧ ∀ x ∈ l, x ≤ l.foldl max b := by
  induction l with
  | nil => intro b; simp
  | cons a t ih =>
    intro b
    have := ih (max b a)
    simp only [List.foldl_cons, List.mem_cons]
    refine ⟨by omega, fun x hx => ?_⟩
    rcases hx with rfl | hx
    · omega
    · exact this.2 x hx
theorem maxOf_mem {l : List Int} : ∀ (b : Int), l.foldl max b = b ∨ l.foldl max b ∈ l := by
  induction l with
  | nil => intro b; simp
  | cons a t ih =>
    intro b
    simp only [List.foldl_cons, List.mem_cons]
    rcases ih (max b a) with h | h
    · rw [h]
      by_cases hb : a ≤ b
      · left; omega
      · right; left; omega
    · exact .inr (.inr h)
/-- Without any left out, it is the reach. -/
theorem part_zero {L : List Int} (h0 : ∀ x ∈ L, 0 ≤ x) : partV L 0 = maxOf L := by
  unfold partV
  by_cases hL : L = []
  · subst hL; rfl
  · have hlen : 0 < L.length := List.length_pos_iff.2 hL
    rw [if_neg (by omega)]
    have hk : L.length - 1 - 0 < (sortA L).length := by rw [sortA_len]; omega
    rw [getD_at hk]
    have hm := (sortA_perm L).mem_iff.1 (List.getElem_mem hk)
    have h1 := (maxOf_ge (l := L) 0).2 _ hm
    have h2 : maxOf L ≤ (sortA L)[L.length - 1 - 0] := by
      have hall : ∀ y ∈ L, y ≤ (sortA L)[L.length - 1 - 0] := fun y hy => by
        obtain ⟨i, hi, rfl⟩ := List.mem_iff_getElem.1 ((sortA_perm L).mem_iff.2 hy)
        by_cases e : i = L.length - 1 - 0
        · subst e; exact Int.le_refl _
        · exact List.pairwise_iff_getElem.1 (sortA_rises L) _ _ hi hk (by rw [sortA_len] at hi; omega)
      rcases maxOf_mem (l := L) 0 with h | h
      · unfold maxOf; rw [h]; exact h0 _ hm
      · exact hall _ h
    have h3 : (sortA L)[L.length - 1 - 0] ≤ maxOf L := h1
    omega
theorem far_part (F : Fld) (s : Row) (T : List Nat) (w : World) (hF : F.At w) (hs : s.At w) (hf : Fine F s T) :
    Calls Try.prog 52 #[F.val, .slice s.a s.l.length s.c] w fun e w' => e = .returned (.int .i64 (partT F 0 T)) ∧ Below w.heap.size w w' := by
  have := l2Far_any F s T w hF hs hf
  rw [show partT F 0 T = maxOf (lens F.t.con T) from part_zero (fun x hx => (lens_bound hf.good T x hx).1)]
  exact this
end Go.Proofs.Ytemflcegkebloaa
