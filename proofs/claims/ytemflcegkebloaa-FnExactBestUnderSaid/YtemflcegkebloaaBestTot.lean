/- The contracts of the model's best set and of its total. Condition: a valid Field. -/
import Derived.Test.YtemflcegkebloaaBestK
import Derived.Test.YtemflcegkebloaaPairTotalOf
namespace Go.Proofs.Ytemflcegkebloaa
open Go.RowKit

/-- The total of a set of sites. -/
def totT (F : Fld) (T : List Nat) : Int := servT F T + (pays F.o.l T).sum
theorem totT_lt {F : Fld} (h : F.good = true) (T : List Nat) (hT : T.length ≤ 7) : totT F T < 9223372036854775807 := by
  have h1 := servT_bounds h T
  have h2 := sum_bound (pays_bound h T)
  have h3 : (pays F.o.l T).length = T.length := by unfold pays; simp
  unfold totT; omega
theorem totT_like {F G : Fld} (h : G.Like F) : totT G = totT F := by funext T; unfold totT servT; rw [h.1, h.2]
theorem sets_rise : ∀ n ≤ 7, (allSets n).all (fun T => setB n (up T) && decide (T.length ≤ 7)) = true := by decide +kernel
theorem sets_lead : ∀ n ≤ 7, (allSets n).all (fun T => decide (0 < T.length) && T.all (fun x => decide (x < n))) = true := fun n hn => (sets_good n hn).1
theorem all_ok {n : Nat} (hn : n ≤ 7) {T : List Nat} (hT : T ∈ allSets n) : T ≠ [] ∧ ((setB n (up T) = true ∧ ∀ m ∈ T, m < n) ∧ T.length ≤ 7) := by
  have h1 := List.all_eq_true.1 (sets_rise n hn) T hT
  have h2 := List.all_eq_true.1 (sets_lead n hn) T hT
  simp only [Bool.and_eq_true, decide_eq_true_eq, List.all_eq_true] at h1 h2
  exact ⟨List.length_pos_iff.1 h2.1, ⟨h1.1, h2.2⟩, h1.2⟩
theorem fine_all {F : Fld} {s : Row} {T : List Nat} (hg : F.good = true) (hs : s.l = up T) (h0 : T ≠ []) (hlt : ∀ m ∈ T, m < F.o.l.length) : Fine F s T := ⟨hg, hs, List.length_pos_iff.2 h0, hlt⟩
theorem totals_of {F : Fld} {s : Row} {T : List Nat} (hg : F.good = true) (hs : s.l = up T) (h0 : T ≠ []) (hr : setB F.o.l.length (up T) = true) (hlt : ∀ m ∈ T, m < F.o.l.length) (hlen : T.length ≤ 7) : Totals F s (totT F T) true :=
  .inr ⟨T, fine_all hg hs h0 hlt, ⟨hg, hs, hlt, by omega⟩, twoB_iff.2 ⟨hg, by rw [hs]; exact hr, by rw [hs, up_length]; exact List.length_pos_iff.2 h0⟩, rfl, rfl⟩
theorem l2Total_totT (F : Fld) (t : Row) (T : List Nat) (u : World) (hF : F.At u) (ht : t.At u) (hg : F.good = true) (htl : t.l = up T) (h0 : T ≠ []) (hlt : ∀ m ∈ T, m < F.o.l.length) (hlen : T.length ≤ 7) :
    Calls Try.prog 51 #[F.val, .slice t.a t.l.length t.c] u fun e w' => e = .returned (.int .i64 (totT F T)) ∧ Below u.heap.size u w' :=
  l2Total_any F t T u hF ht (fine_all hg htl h0 hlt) ⟨hg, htl, hlt, by omega⟩
theorem firstB_all {φ : List Nat → Int} {n : Nat} (hn : n ≤ 7) (h1 : 1 ≤ n) : firstB φ (allSets n) ∈ allSets n := by
  refine firstB_some (fun e => ?_) fun T hT => (all_ok hn hT).1
  have h2 := (combs_ok hn (Nat.le_refl 1) h1).2.1
  have : (combs n 1).head? ≠ none := by rw [h2]; simp
  cases hc : combs n 1 with
  | nil => rw [hc] at this; exact this rfl
  | cons T r =>
    have hT : T ∈ allSets n := by
      unfold allSets
      exact List.mem_flatMap.2 ⟨0, List.mem_range.2 (by omega), by rw [Nat.zero_add, hc]; exact List.mem_cons_self⟩
    rw [e] at hT; cases hT

end Go.Proofs.Ytemflcegkebloaa
