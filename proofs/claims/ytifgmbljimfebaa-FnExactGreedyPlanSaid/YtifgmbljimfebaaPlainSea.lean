/- Plain mathematics of Seasons: whether one is valid. No condition. -/
import Derived.Test.YtifgmbljimfebaaPlainField
namespace Go.Proofs.Ytifgmbljimfebaa

/-- The clients of a round, of n sites. -/
def roundB (n : Nat) (d : List (List Int)) : Bool := decide (d.length ≤ 5) && d.all (rowB n)
def seaB (o x k : List Int) (r : List (List (List Int))) : Bool :=
  (decide (1 ≤ o.length) && decide (o.length ≤ 5) && rowB o.length o && rowB o.length x && rowB o.length k && decide (r.length ≤ 5)) && r.all (roundB o.length)
theorem seaB_iff {o x k : List Int} {r : List (List (List Int))} : seaB o x k r = true ↔ 1 ≤ o.length ∧ o.length ≤ 5 ∧ rowB o.length o = true ∧ rowB o.length x = true ∧ rowB o.length k = true ∧ r.length ≤ 5 ∧ r.all (roundB o.length) = true := by
  unfold seaB; simp only [Bool.and_eq_true, decide_eq_true_eq, and_assoc]
theorem rowB_iff {n : Nat} {l : List Int} : rowB n l = true ↔ l.all (upTo 99) = true ∧ l.length = n := by unfold rowB; simp only [Bool.and_eq_true, decide_eq_true_eq]
theorem roundB_iff {n : Nat} {d : List (List Int)} : roundB n d = true ↔ d.length ≤ 5 ∧ d.all (rowB n) = true := by unfold roundB; simp only [Bool.and_eq_true, decide_eq_true_eq]
/-- A list of costs of n sites. -/
def costsB (n : Nat) (l : List Int) : Bool := decide (l.length = n) && goodB l []
/-- A round, as the Field with some costs. -/
def roundF (k : List Int) (d : List (List Int)) : Bool := decide (d.length ≤ 5) && goodB k d
theorem seaB_alt (o x k : List Int) (r : List (List (List Int))) :
    seaB o x k r = ((decide (o.length ≤ 5) && decide (r.length ≤ 5)) && ([o, x, k].all (costsB o.length) && r.all (roundF k))) := by
  rw [Bool.eq_iff_iff, seaB_iff]
  simp only [Bool.and_eq_true, decide_eq_true_eq, List.all_cons, List.all_nil, costsB, goodB_iff, List.length_nil]
  constructor
  · rintro ⟨h1, h2, h3, h4, h5, h6, h7⟩
    rw [rowB_iff] at h3 h4 h5
    refine ⟨⟨h2, h6⟩, ⟨⟨trivial, h1, by omega, h3.1, by omega, trivial⟩, ⟨h4.2, by omega, by omega, h4.1, by omega, trivial⟩, ⟨h5.2, by omega, by omega, h5.1, by omega, trivial⟩, trivial⟩, ?_⟩
    rw [List.all_eq_true] at h7 ⊢
    intro d hd
    have := roundB_iff.1 (h7 d hd)
    unfold roundF
    simp only [Bool.and_eq_true, decide_eq_true_eq, goodB_iff]
    exact ⟨this.1, by omega, by omega, h5.1, by omega, by rw [h5.2]; exact this.2⟩
  · rintro ⟨⟨h1, h2⟩, ⟨⟨_, a1, a2, a3, _, _⟩, ⟨b0, b1, b2, b3, _, _⟩, ⟨c0, c1, c2, c3, _, _⟩, _⟩, h7⟩
    refine ⟨a1, h1, rowB_iff.2 ⟨a3, rfl⟩, rowB_iff.2 ⟨b3, b0⟩, rowB_iff.2 ⟨c3, c0⟩, h2, ?_⟩
    rw [List.all_eq_true] at h7 ⊢
    intro d hd
    have := h7 d hd
    unfold roundF at this
    simp only [Bool.and_eq_true, decide_eq_true_eq, goodB_iff] at this
    exact roundB_iff.2 ⟨this.1, by have := this.2.2.2.2.2; rw [c0] at this; exact this⟩

end Go.Proofs.Ytifgmbljimfebaa
