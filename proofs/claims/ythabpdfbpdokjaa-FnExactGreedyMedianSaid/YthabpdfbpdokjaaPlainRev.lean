/- Sites given up one after the other: the program's lists of lists without a place, and the model's search among the sites. No condition. -/
import Derived.Test.YthabpdfbpdokjaaPlainLeast
import Derived.Test.YthabpdfbpdokjaaPlainServe
import Derived.Test.YthabpdfbpdokjaaPlainSwap
namespace Go.Proofs.Ythabpdfbpdokjaa

def erased (T : List Nat) : List (List Nat) := (List.range T.length).map fun i => T.eraseIdx i
theorem erased_len (T : List Nat) : (erased T).length = T.length := by unfold erased; simp
theorem erased_at {T : List Nat} {i : Nat} (h : i < T.length) : (erased T)[i]'(by rw [erased_len]; exact h) = T.eraseIdx i := by unfold erased; simp
theorem erased_mem {T U : List Nat} (h : U ∈ erased T) : ∃ i, i < T.length ∧ U = T.eraseIdx i := by
  unfold erased at h
  obtain ⟨i, hi, rfl⟩ := List.mem_map.1 h
  exact ⟨i, List.mem_range.1 hi, rfl⟩
/-- The sites that are left behind d steps. -/
def revD (φ : List Nat → Int) (n : Nat) : Nat → List Nat
  | 0 => List.range n
  | d + 1 => firstB φ (erased (revD φ n d))
structure Sites (n k : Nat) (T : List Nat) : Prop where
  len : T.length = k
  lt : ∀ x ∈ T, x < n
  up : T.Pairwise (· < ·)
theorem Sites.erase {n k i : Nat} {T : List Nat} (h : Sites n k T) (hi : i < T.length) : Sites n (k - 1) (T.eraseIdx i) :=
  ⟨by rw [List.length_eraseIdx, if_pos hi, h.len], fun x hx => h.lt x ((List.eraseIdx_sublist T i).subset hx), h.up.sublist (List.eraseIdx_sublist T i)⟩
theorem erased_ok {n k : Nat} {T : List Nat} (h : Sites n k T) (hk : 2 ≤ k) (φ : List Nat → Int) : Sites n (k - 1) (firstB φ (erased T)) := by
  have hne : erased T ≠ [] := fun e => by have := erased_len T; rw [e, h.len] at this; simp at this; omega
  have hm := firstB_some (φ := φ) hne (fun U hU => by
    obtain ⟨i, hi, rfl⟩ := erased_mem hU
    intro e
    have := (h.erase hi).len
    rw [e] at this; simp at this; omega)
  obtain ⟨i, hi, e⟩ := erased_mem hm
  rw [e]; exact h.erase hi
theorem rev_ok (φ : List Nat → Int) (n : Nat) : ∀ d, d < n → Sites n (n - d) (revD φ n d)
  | 0, _ => ⟨List.length_range, fun x hx => List.mem_range.1 hx, List.pairwise_lt_range⟩
  | d + 1, h => by
    have h1 := rev_ok φ n d (by omega)
    have h2 := erased_ok h1 (by omega) φ
    rw [show n - (d + 1) = n - d - 1 by omega]; exact h2

/-- Without one number. -/
def lessT (T : List Nat) (x : Nat) : List Nat := T.filter fun y => !decide (y = x)
theorem lessT_up (T : List Nat) (x : Nat) : without (up T) (x : Int) = up (lessT T x) := by
  unfold without lessT up
  rw [List.filter_map]
  congr 1
  apply List.filter_congr
  intro y _
  simp
  constructor <;> intro h <;> omega
theorem lessT_erase : ∀ (T : List Nat) (i : Nat) (h : i < T.length), T.Pairwise (· < ·) → lessT T T[i] = T.eraseIdx i
  | [], i, h, _ => by simp at h
  | a :: t, 0, _, hp => by
    rw [List.pairwise_cons] at hp
    show (a :: t).filter _ = t
    rw [List.filter_cons]
    simp only [List.getElem_cons_zero, decide_true, Bool.not_true, if_false, Bool.false_eq_true]
    refine List.filter_eq_self.2 fun y hy => ?_
    have := hp.1 y hy
    simp; omega
  | a :: t, i + 1, h, hp => by
    rw [List.pairwise_cons] at hp
    have hi : i < t.length := by simpa using h
    have ih := lessT_erase t i hi hp.2
    have hne : a ≠ t[i] := by have := hp.1 _ (List.getElem_mem hi); omega
    show (a :: t).filter _ = a :: t.eraseIdx i
    rw [List.filter_cons]
    simp only [List.getElem_cons_succ]
    rw [if_pos (by simpa using hne)]
    exact congrArg (a :: ·) ih
/-- The model's search: the site that goes, behind j further ones. -/
def bestE (φ : List Nat → Int) (T : List Nat) : Nat → Nat
  | 0 => T.getD 0 0
  | j + 1 => if φ (lessT T (T.getD (j + 1) 0)) < φ (lessT T (bestE φ T j)) then T.getD (j + 1) 0 else bestE φ T j
theorem getD_elt {T : List Nat} {k : Nat} (h : k < T.length) : T.getD k 0 = T[k] := by rw [List.getD_eq_getElem?_getD, List.getElem?_eq_getElem h]; rfl
theorem bestE_mem (φ : List Nat → Int) (T : List Nat) : ∀ j, j < T.length → bestE φ T j ∈ T
  | 0, h => by unfold bestE; rw [getD_elt h]; exact List.getElem_mem _
  | j + 1, h => by
    unfold bestE
    split
    · rw [getD_elt h]; exact List.getElem_mem _
    · exact bestE_mem φ T j (by omega)
theorem bestE_first {n k : Nat} {T : List Nat} (h : Sites n k T) (hk : 2 ≤ k) (φ : List Nat → Int) : ∀ j, j < T.length → lessT T (bestE φ T j) = firstB φ ((erased T).take (j + 1))
  | 0, hj => by
    have hl : 0 < (erased T).length := by rw [erased_len]; exact hj
    rw [firstB_step φ _ hl, List.take_zero, erased_at hj]
    unfold bestE
    rw [getD_elt hj, lessT_erase T 0 hj h.up]
    unfold firstB stepB; simp
  | j + 1, hj => by
    have ih := bestE_first h hk φ j (by omega)
    have hl : j + 1 < (erased T).length := by rw [erased_len]; exact hj
    rw [firstB_step φ _ hl, ← ih, erased_at hj, ← lessT_erase T (j + 1) hj h.up]
    have hne : lessT T (bestE φ T j) ≠ [] := by
      obtain ⟨i, hi, e⟩ := List.mem_iff_getElem.1 (bestE_mem φ T j (by omega))
      rw [← e, lessT_erase T i hi h.up]
      intro e2
      have := (h.erase hi).len
      rw [e2] at this; simp at this; omega
    show lessT T (if φ (lessT T (T.getD (j + 1) 0)) < φ (lessT T (bestE φ T j)) then T.getD (j + 1) 0 else bestE φ T j) = _
    rw [getD_elt hj]
    unfold stepB
    by_cases hlt : φ (lessT T T[j + 1]) < φ (lessT T (bestE φ T j))
    · rw [if_pos hlt, if_pos (.inr hlt)]
    · rw [if_neg hlt, if_neg (fun h => h.elim hne hlt)]
theorem bestE_all {n k : Nat} {T : List Nat} (h : Sites n k T) (hk : 2 ≤ k) (φ : List Nat → Int) : lessT T (bestE φ T (T.length - 1)) = firstB φ (erased T) := by
  have hl := h.len
  rw [bestE_first h hk φ (T.length - 1) (by omega), show T.length - 1 + 1 = (erased T).length by rw [erased_len]; omega, List.take_length]
end Go.Proofs.Ythabpdfbpdokjaa
