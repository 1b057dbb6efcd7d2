/- The first one of the longest lists of numbers that are good: by codes of sets, and by sizes. No condition. -/
import Derived.Test.YtjeodblaekdpkaaPlainSets
namespace Go.Proofs.Ytjeodblaekdpkaa

/-- A longer list, or one of the same length that comes before. -/
def moreT (T b : List Nat) : Bool := decide (b.length < T.length) || (decide (T.length = b.length) && lexB T b)
def stepM (p : List Nat → Bool) (b T : List Nat) : List Nat := if moreT T b = true ∧ p T = true then T else b
def mostT (p : List Nat → Bool) (n k : Nat) : List Nat := (List.range k).foldl (fun b c => stepM p b (bitsT n c)) []
theorem most_step (p : List Nat → Bool) (n k : Nat) : mostT p n (k + 1) = stepM p (mostT p n k) (bitsT n k) := by unfold mostT; rw [List.range_succ, List.foldl_append]; rfl
/-- The lists of the d greatest sizes. -/
def preD (n d : Nat) : List (List Nat) := (List.range d).flatMap fun i => combs n (n - i)
theorem preD_step (n d : Nat) : preD n (d + 1) = preD n d ++ combs n (n - d) := by unfold preD; rw [List.range_succ, List.flatMap_append]; simp
theorem preD_more (n d : Nat) : ∀ e, ∃ r, preD n (d + e) = preD n d ++ r
  | 0 => ⟨[], by simp⟩
  | e + 1 => by
    obtain ⟨r, hr⟩ := preD_more n d e
    exact ⟨r ++ combs n (n - (d + e)), by rw [← Nat.add_assoc, preD_step, hr, List.append_assoc]⟩
/-- All lists, in the order of the search by sizes. -/
def desc (n : Nat) : List (List Nat) := preD n n ++ [[]]
def ordered (L : List (List Nat)) : Bool := (List.range L.length).all fun i => (List.range L.length).all fun j => moreT (L.getD i []) (L.getD j []) == decide (i < j)
theorem desc_order : ∀ n ≤ 7, ordered (desc n) = true := by decide +kernel
theorem desc_codes : ∀ n ≤ 7, (desc n).all (fun T => (List.range (2 ^ n)).any fun c => bitsT n c == T) = true := by decide +kernel
theorem codes_desc : ∀ n ≤ 7, (List.range (2 ^ n)).all (fun c => (desc n).contains (bitsT n c)) = true := by decide +kernel
theorem desc_at {n : Nat} (hn : n ≤ 7) {i j : Nat} (hi : i < (desc n).length) (hj : j < (desc n).length) : moreT (desc n)[i] (desc n)[j] = decide (i < j) := by
  have h := desc_order n hn
  unfold ordered at h
  rw [List.all_eq_true] at h
  have h1 := h i (List.mem_range.2 hi)
  rw [List.all_eq_true] at h1
  have h2 := h1 j (List.mem_range.2 hj)
  rw [List.getD_eq_getElem?_getD, List.getElem?_eq_getElem hi, List.getD_eq_getElem?_getD, List.getElem?_eq_getElem hj] at h2
  simpa using h2
theorem desc_inj {n : Nat} (hn : n ≤ 7) {i j : Nat} (hi : i < (desc n).length) (hj : j < (desc n).length) (h : (desc n)[i] = (desc n)[j]) : i = j := by
  have h1 := desc_at hn hi hj
  have h2 := desc_at hn hj hi
  have h3 := desc_at hn hi hi
  rw [h] at h1 h2 h3
  rw [h1] at h2
  have h4 := desc_at hn hj hj
  rw [h4] at h1
  simp at h1 h2
  omega
theorem code_at {n c : Nat} (hn : n ≤ 7) (hc : c < 2 ^ n) : ∃ t, ∃ ht : t < (desc n).length, (desc n)[t] = bitsT n c := by
  have h := List.all_eq_true.1 (codes_desc n hn) c (List.mem_range.2 hc)
  obtain ⟨t, ht, h1⟩ := List.mem_iff_getElem.1 (by simpa using h : bitsT n c ∈ desc n)
  exact ⟨t, ht, h1⟩
theorem most_inv {n : Nat} (hn : n ≤ 7) (p : List Nat → Bool) (h0 : p [] = true) : ∀ k, k ≤ 2 ^ n → ∃ i, ∃ hi : i < (desc n).length, mostT p n k = (desc n)[i] ∧ p (desc n)[i] = true ∧
    ∀ c, c < k → ∀ j, (hj : j < (desc n).length) → (desc n)[j] = bitsT n c → p (desc n)[j] = true → i ≤ j
  | 0, _ => by
    obtain ⟨hl, e⟩ := List.getElem?_eq_some_iff.1 (show (desc n)[(preD n n).length]? = some [] by unfold desc; simp)
    exact ⟨_, hl, by rw [e]; rfl, by rw [e]; exact h0, fun c hc => absurd hc (Nat.not_lt_zero _)⟩
  | k + 1, hk => by
    obtain ⟨i, hi, h1, h2, h3⟩ := most_inv hn p h0 k (by omega)
    obtain ⟨t, ht, h4⟩ := code_at hn (show k < 2 ^ n by omega)
    have h5 := desc_at hn ht hi
    rw [most_step, h1, ← h4]
    unfold stepM
    rw [h5]
    by_cases hti : t < i ∧ p (desc n)[t] = true
    · rw [if_pos (by simpa using hti)]
      refine ⟨t, ht, rfl, hti.2, fun c hc j hj e hp => ?_⟩
      by_cases ec : c = k
      · subst ec
        have := desc_inj hn hj ht (by rw [e, h4]); omega
      · have := h3 c (by omega) j hj e hp; omega
    · rw [if_neg (by simpa using hti)]
      refine ⟨i, hi, rfl, h2, fun c hc j hj e hp => ?_⟩
      by_cases ec : c = k
      · subst ec
        have := desc_inj hn hj ht (by rw [e, h4])
        subst this
        have : ¬ j < i := fun h => hti ⟨h, hp⟩
        omega
      · exact h3 c (by omega) j hj e hp
/-- Both searches find the same list. -/
theorem most_desc {n : Nat} (hn : n ≤ 7) (p : List Nat → Bool) (h0 : p [] = true) : (desc n).find? p = some (mostT p n (2 ^ n)) := by
  obtain ⟨i, hi, h1, h2, h3⟩ := most_inv hn p h0 (2 ^ n) (Nat.le_refl _)
  rw [h1, List.find?_eq_some_iff_getElem]
  refine ⟨h2, i, hi, rfl, fun j hj => ?_⟩
  have hjl : j < (desc n).length := by omega
  by_cases hp : p (desc n)[j] = true
  · have h := List.all_eq_true.1 (desc_codes n hn) _ (List.getElem_mem hjl)
    obtain ⟨c, hc, e⟩ := List.any_eq_true.1 h
    have := h3 c (List.mem_range.1 hc) j hjl (by simpa using (beq_iff_eq.1 e).symm) hp
    omega
  · simpa using hp
theorem find_pre {α : Type} {p : α → Bool} {A B : List α} (h : ∀ x ∈ A, p x = false) : (A ++ B).find? p = B.find? p := by
  rw [List.find?_append, List.find?_eq_none.2 (fun x hx => by rw [h x hx]; simp)]; rfl
theorem find_pos {α : Type} {p : α → Bool} {A B C : List α} {i : Nat} (h : ∀ x ∈ A, p x = false) (hi : i < B.length) (hb : ∀ j, (hj : j < i) → p (B[j]'(by omega)) = false) (hp : p B[i] = true) : (A ++ (B ++ C)).find? p = some B[i] := by
  rw [find_pre h, List.find?_append]
  have : B.find? p = some B[i] := by
    rw [List.find?_eq_some_iff_getElem]
    exact ⟨hp, i, hi, rfl, fun j hj => by rw [hb j hj]; rfl⟩
  rw [this]; rfl
/-- Found among the lists of one size. -/
theorem desc_found {n d i : Nat} (hd : d < n) {p : List Nat → Bool} (h : ∀ x ∈ preD n d, p x = false) (hi : i < (combs n (n - d)).length) (hb : ∀ j, (hj : j < i) → p ((combs n (n - d))[j]'(by omega)) = false) (hp : p (combs n (n - d))[i] = true) : (desc n).find? p = some (combs n (n - d))[i] := by
  obtain ⟨r, hr⟩ := preD_more n (d + 1) (n - (d + 1))
  rw [show d + 1 + (n - (d + 1)) = n by omega, preD_step] at hr
  have e : desc n = preD n d ++ (combs n (n - d) ++ (r ++ [[]])) := by unfold desc; rw [hr]; simp [List.append_assoc]
  rw [e]
  exact find_pos h hi hb hp
theorem desc_empty {n : Nat} {p : List Nat → Bool} (h : ∀ x ∈ preD n n, p x = false) (h0 : p [] = true) : (desc n).find? p = some [] := by
  unfold desc
  rw [find_pre h]; simp [h0]
theorem desc_small : ∀ n ≤ 7, (desc n).all (fun T => decide (T.length ≤ 7) && T.all (fun x => decide (x < n))) = true := by decide +kernel
theorem most_ok {n : Nat} (hn : n ≤ 7) (p : List Nat → Bool) (h0 : p [] = true) (k : Nat) (hk : k ≤ 2 ^ n) : (mostT p n k).length ≤ 7 ∧ ∀ x ∈ mostT p n k, x < n := by
  obtain ⟨i, hi, h1, _⟩ := most_inv hn p h0 k hk
  have h := List.all_eq_true.1 (desc_small n hn) _ (List.getElem_mem hi)
  rw [h1]; simpa using h
end Go.Proofs.Ytjeodblaekdpkaa
