/- Plain mathematics of prices, claims and rests. No condition. -/
import Derived.Test.YtfiijfgclfoeoaaPairIsMetric
import Derived.Test.YtfiijfgclfoeoaaWithin
namespace Go.Proofs.Ytfiijfgclfoeoaa

/-- What the first k clients claim of a site, where lengths count u times as much. -/
def clmTo (F : Fld) (u : Int) (p : List Int) (a : Nat) : Nat → Int
  | 0 => 0
  | k + 1 => clmTo F u p a k + max 0 (p.getD k 0 - u * F.len k a)
theorem clm_like {F G : Fld} (h : F.Like G) (u : Int) (p : List Int) (a : Nat) : ∀ k, clmTo F u p a k = clmTo G u p a k
  | 0 => rfl
  | k + 1 => by simp only [clmTo, clm_like h u p a k, len_like h]
/-- Numbers from 0 to B. -/
def Dues (B : Int) (p : List Int) : Prop := ∀ x ∈ p, 0 ≤ x ∧ x ≤ B
theorem due_at {B : Int} {p : List Int} (h : Dues B p) (hB : 0 ≤ B) (k : Nat) : 0 ≤ p.getD k 0 ∧ p.getD k 0 ≤ B := by
  by_cases hk : k < p.length
  · rw [getD_at hk]; exact h _ (List.getElem_mem hk)
  · rw [List.getD_eq_getElem?_getD, List.getElem?_eq_none (by omega), Option.getD_none]; omega
theorem clm_bound {F : Fld} (hg : F.good = true) {u B : Int} (hu : 0 ≤ u) {p : List Int} (h : Dues B p) (hB : 0 ≤ B) (a : Nat) : ∀ k, k ≤ F.t.R.length → 0 ≤ clmTo F u p a k ∧ clmTo F u p a k ≤ B * k
  | 0, _ => by simp [clmTo]
  | k + 1, hk => by
    have ih := clm_bound hg hu h hB a k (by omega)
    have h1 := due_at h hB k
    have h2 := (len_bound hg (by omega : k < F.t.R.length) a).1
    have h3 : 0 ≤ u * F.len k a := Int.mul_nonneg hu h2
    have h4 : B * ((k + 1 : Nat) : Int) = B * (k : Int) + B := by rw [Int.natCast_succ, Int.mul_add, Int.mul_one]
    simp only [clmTo]
    rw [h4]
    omega
/-- The claims of the first n sites. -/
def clmsTo (F : Fld) (u : Int) (p : List Int) (n : Nat) : List Int := (List.range n).map fun a => clmTo F u p a p.length
theorem clms_like {F G : Fld} (h : F.Like G) (u : Int) (p : List Int) (n : Nat) : clmsTo F u p n = clmsTo G u p n := by
  unfold clmsTo; congr 1; funext a; exact clm_like h u p a _
theorem clms_length (F : Fld) (u : Int) (p : List Int) (n : Nat) : (clmsTo F u p n).length = n := by simp [clmsTo]
theorem clms_at (F : Fld) (u : Int) (p : List Int) {n a : Nat} (h : a < n) : (clmsTo F u p n)[a]'(by rw [clms_length]; exact h) = clmTo F u p a p.length := by simp [clmsTo]
theorem clms_step (F : Fld) (u : Int) (p : List Int) (n : Nat) : clmsTo F u p (n + 1) = clmsTo F u p n ++ [clmTo F u p n p.length] := by simp [clmsTo, List.range_succ]
/-- The claims while client k puts its own to those of the first a sites. -/
def midway (F : Fld) (u : Int) (p : List Int) (n k a : Nat) : List Int := (List.range n).map fun i => if i < a then clmTo F u p i (k + 1) else clmTo F u p i k
theorem mid_length (F : Fld) (u : Int) (p : List Int) (n k a : Nat) : (midway F u p n k a).length = n := by simp [midway]
theorem mid_at (F : Fld) (u : Int) (p : List Int) {n k a : Nat} (h : a < n) : (midway F u p n k a)[a]'(by rw [mid_length]; exact h) = clmTo F u p a k := by simp [midway]
theorem mid_zero (F : Fld) (u : Int) (p : List Int) (n : Nat) : midway F u p n 0 0 = List.replicate n 0 := by
  apply List.ext_getElem
  · simp [midway]
  · intro i h1 h2; simp [midway, clmTo]
theorem mid_next (F : Fld) (u : Int) (p : List Int) (n k : Nat) : midway F u p n k n = midway F u p n (k + 1) 0 := by
  unfold midway
  apply List.map_congr_left
  intro i hi
  rw [if_pos (List.mem_range.1 hi), if_neg (by omega)]
theorem mid_set (F : Fld) (u : Int) (p : List Int) (n k a : Nat) : (midway F u p n k a).set a (clmTo F u p a (k + 1)) = midway F u p n k (a + 1) := by
  apply List.ext_getElem
  · simp [midway]
  · intro i h1 h2
    rw [List.getElem_set]
    simp only [midway, List.getElem_map, List.getElem_range]
    by_cases e : a = i
    · subst e; simp
    · rw [if_neg e]
      by_cases h3 : i < a
      · rw [if_pos h3, if_pos (by omega)]
      · rw [if_neg h3, if_neg (by omega)]
theorem mid_end (F : Fld) (u : Int) (p : List Int) (n : Nat) : midway F u p n p.length 0 = clmsTo F u p n := by
  unfold midway clmsTo
  apply List.map_congr_left
  intro i _
  rw [if_neg (by omega)]

/-- Prices of a valid Field. -/
def pricesB (F : Fld) (p : List Int) : Bool := p.all (upTo 500) && F.good && decide (p.length = F.t.R.length)
theorem con_len (F : Fld) : F.t.con.length = F.t.R.length := con_length F.t
theorem prices_like {F G : Fld} (h : G.Like F) (p : List Int) : pricesB G p = pricesB F p := by
  have h1 : G.t.R.length = F.t.R.length := by rw [← con_len, ← con_len, h.2]
  unfold pricesB; rw [h.good, h1]
structure Priced (F : Fld) (p : List Int) : Prop where
  good : F.good = true
  due : Dues 500 p
  len : p.length = F.t.R.length
theorem priced_iff {F : Fld} {p : List Int} : pricesB F p = true ↔ Priced F p := by
  unfold pricesB
  simp only [Bool.and_eq_true, decide_eq_true_eq]
  constructor
  · rintro ⟨⟨h1, h2⟩, h3⟩
    exact ⟨h2, fun x hx => by have := List.all_eq_true.1 h1 x hx; exact upTo_iff.1 this, h3⟩
  · rintro ⟨h1, h2, h3⟩
    exact ⟨⟨List.all_eq_true.2 fun x hx => upTo_iff.2 (h2 x hx), h1⟩, h3⟩
theorem priced_like {F G : Fld} {p : List Int} (h : Priced F p) (hl : G.Like F) : Priced G p := priced_iff.1 (by rw [prices_like hl]; exact priced_iff.2 h)

end Go.Proofs.Ytfiijfgclfoeoaa
