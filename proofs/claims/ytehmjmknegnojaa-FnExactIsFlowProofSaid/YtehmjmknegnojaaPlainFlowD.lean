/- Plain mathematics of flows. No condition. -/
import Derived.Test.YtehmjmknegnojaaPlainFlowP
namespace Go.Proofs.Ytehmjmknegnojaa
open Go.RowKit

/-- The number of a flow for a client and a site, and the sums for a site. -/
def cellD (D : List (List Int)) (j a : Nat) : Int := (D.getD j []).getD a 0
def usedTo (D : List (List Int)) (a k : Nat) : Int := ((List.range k).map fun j => cellD D j a).sum
theorem used_zero (D : List (List Int)) (a : Nat) : usedTo D a 0 = 0 := by simp [usedTo]
theorem used_step (D : List (List Int)) (a k : Nat) : usedTo D a (k + 1) = usedTo D a k + cellD D k a := by unfold usedTo; rw [List.range_succ, List.map_append, List.sum_append]; simp
theorem used_nonpos {D : List (List Int)} {a : Nat} : ∀ k, (∀ j, j < k → cellD D j a ≤ 0) → usedTo D a k ≤ 0
  | 0, _ => by rw [used_zero]; omega
  | k + 1, h => by have := used_nonpos k fun j hj => h j (by omega); have := h k (by omega); rw [used_step]; omega
theorem used_bound {D : List (List Int)} {a : Nat} {c : Int} : ∀ k, (∀ j, j < k → 0 ≤ cellD D j a ∧ cellD D j a ≤ c) → 0 ≤ usedTo D a k ∧ usedTo D a k ≤ c * k
  | 0, _ => by rw [used_zero]; simp
  | k + 1, h => by
    have h1 := used_bound k fun j hj => h j (by omega)
    have h2 := h k (by omega)
    have e : c * ((k + 1 : Nat) : Int) = c * (k : Int) + c := by rw [Int.natCast_succ, Int.mul_add, Int.mul_one]
    rw [used_step, e]; omega
theorem used_cell {D : List (List Int)} {a : Nat} : ∀ k, (∀ j, j < k → 0 ≤ cellD D j a) → ∀ j, j < k → cellD D j a ≤ usedTo D a k
  | 0, _ => fun j hj => absurd hj (Nat.not_lt_zero _)
  | k + 1, h => fun j hj => by
    have h0 : 0 ≤ usedTo D a k := by
      have : ∀ k', k' ≤ k → 0 ≤ usedTo D a k' := by
        intro k'
        induction k' with
        | zero => intro _; rw [used_zero]; omega
        | succ n ih => intro hn; have := ih (by omega); have := h n (by omega); rw [used_step]; omega
      exact this k (Nat.le_refl _)
    rw [used_step]
    by_cases e : j = k
    · subst e; omega
    · have := used_cell k (fun j hj => h j (by omega)) j (by omega)
      have := h k (by omega)
      omega

/-- A row of a flow, as the program asks for it. -/
def rowOk (m : Nat) (q : Int) (row : List Int) : Bool := (decide (row.length = m) && row.all (upTo q)) && decide (row.sum = q)
/-- As the model asks for it. -/
def cell1 (q : Int) (S row : List Int) (a : Nat) : Bool := upTo q (row.getD a 0) && closed1 S row a
def rowS (m : Nat) (q : Int) (S row : List Int) : Bool := (List.range row.length).all (cell1 q S row) && (decide (row.length = m) && decide (row.sum = q))
/-- The rooms of the sites that are open. -/
def openR (r S : List Int) : List Int := (List.range r.length).map fun (a : Nat) => if hasI S (a : Int) then r.getD a 0 else 0
theorem openR_len (r S : List Int) : (openR r S).length = r.length := by simp [openR]
theorem openR_at {r S : List Int} {a : Nat} (h : a < r.length) : (openR r S).getD a 0 = if hasI S (a : Int) then r.getD a 0 else 0 := by
  rw [getD_at (by rw [openR_len]; exact h)]; simp [openR]
/-- A flow, as the program asks for it, and as the model does. -/
def flowB (F : Fld) (r n S : List Int) (D : List (List Int)) : Bool := (decide (D.length = F.t.R.length) && (List.range D.length).all fun j => rowOk F.o.l.length (n.getD j 0) (D.getD j [])) && (List.range F.o.l.length).all fun a => decide (usedTo D a D.length ≤ (openR r S).getD a 0)
def flowS (F : Fld) (r n S : List Int) (D : List (List Int)) : Bool := (decide (D.length = F.t.R.length) && (List.range D.length).all fun j => rowS F.o.l.length (n.getD j 0) S (D.getD j [])) && (List.range F.o.l.length).all fun a => decide (usedTo D a D.length ≤ r.getD a 0)
theorem flowB_like {F G : Fld} {r n S : List Int} {D : List (List Int)} (h : G.Like F) : flowB G r n S D = flowB F r n S D := by unfold flowB; rw [h.1, like_len h]
theorem upTo_all {q : Int} {l : List Int} : l.all (upTo q) = true ↔ ∀ a, a < l.length → upTo q (l.getD a 0) = true := by
  rw [List.all_eq_true]
  constructor
  · intro h a ha; rw [getD_at ha]; exact h _ (List.getElem_mem ha)
  · intro h x hx
    obtain ⟨a, ha, rfl⟩ := List.mem_iff_getElem.1 hx
    have := h a ha; rwa [getD_at ha] at this
theorem rowS_iff {m : Nat} {q : Int} {S row : List Int} : rowS m q S row = true ↔ rowOk m q row = true ∧ ∀ a, a < m → closed1 S row a = true := by
  unfold rowS rowOk
  simp only [Bool.and_eq_true, decide_eq_true_eq, List.all_eq_true, List.mem_range, cell1]
  constructor
  · rintro ⟨h, h1, h2⟩
    exact ⟨⟨⟨h1, fun x hx => by obtain ⟨a, ha, rfl⟩ := List.mem_iff_getElem.1 hx; have := (h a ha).1; rwa [getD_at ha] at this⟩, h2⟩, fun a ha => (h a (by omega)).2⟩
  · rintro ⟨⟨⟨h1, h2⟩, h3⟩, h4⟩
    exact ⟨fun a ha => ⟨by rw [getD_at ha]; exact h2 _ (List.getElem_mem ha), h4 a (by omega)⟩, h1, h3⟩
theorem rowOk_cell {m : Nat} {q : Int} {D : List (List Int)} {j : Nat} (h : rowOk m q (D.getD j []) = true) (h0 : 0 ≤ q) (a : Nat) : 0 ≤ cellD D j a ∧ cellD D j a ≤ q := by
  unfold rowOk at h
  simp only [Bool.and_eq_true, decide_eq_true_eq] at h
  unfold cellD
  by_cases ha : a < (D.getD j []).length
  · exact upTo_at h.1.2 ha
  · rw [List.getD_eq_getElem?_getD, List.getElem?_eq_none (by omega)]; exact ⟨by simp, by simpa using h0⟩
theorem flow_eq {F : Fld} {r n S : List Int} {D : List (List Int)} (hr : r.length = F.o.l.length) (hn : n.length = F.t.R.length) (h0 : ∀ x ∈ r, 0 ≤ x) (h1 : ∀ x ∈ n, 0 ≤ x) : flowS F r n S D = flowB F r n S D := by
  have hn0 : ∀ j, 0 ≤ n.getD j 0 := fun j => by
    by_cases hj : j < n.length
    · rw [getD_at hj]; exact h1 _ (List.getElem_mem hj)
    · rw [List.getD_eq_getElem?_getD, List.getElem?_eq_none (by omega)]; simp
  rw [Bool.eq_iff_iff]
  unfold flowS flowB
  simp only [Bool.and_eq_true, decide_eq_true_eq, List.all_eq_true, List.mem_range]
  constructor
  · rintro ⟨⟨h2, h3⟩, h4⟩
    refine ⟨⟨h2, fun j hj => (rowS_iff.1 (h3 j hj)).1⟩, fun a ha => ?_⟩
    rw [openR_at (by omega)]
    by_cases hh : hasI S (a : Int) = true
    · rw [if_pos hh]; exact h4 a ha
    · rw [if_neg hh]
      refine used_nonpos _ fun j hj => ?_
      have := (rowS_iff.1 (h3 j hj)).2 a ha
      unfold closed1 at this
      rw [Bool.eq_false_iff.2 hh, Bool.or_false, Bool.not_eq_true', decide_eq_false_iff_not] at this
      unfold cellD; omega
  · rintro ⟨⟨h2, h3⟩, h4⟩
    have hc : ∀ j, j < D.length → ∀ a, 0 ≤ cellD D j a := fun j hj a => (rowOk_cell (h3 j hj) (hn0 j) a).1
    refine ⟨⟨h2, fun j hj => rowS_iff.2 ⟨h3 j hj, fun a ha => ?_⟩⟩, fun a ha => ?_⟩
    · have h5 := h4 a ha
      rw [openR_at (by omega)] at h5
      unfold closed1
      by_cases hh : hasI S (a : Int) = true
      · rw [hh]; simp
      · rw [if_neg hh] at h5
        have := used_cell D.length (fun j hj => hc j hj a) j hj
        rw [decide_eq_false (by unfold cellD at this; omega)]; rfl
    · have h5 := h4 a ha
      rw [openR_at (by omega)] at h5
      have h6 : 0 ≤ r.getD a 0 := by rw [getD_at (by omega)]; exact h0 _ (List.getElem_mem _)
      split at h5 <;> omega

/-- What stands for the sites behind the first k rows and the first j numbers of the next one. -/
def midF (c : Int) (r0 : List Int) (D : List (List Int)) (m k j : Nat) : List Int := (List.range m).map fun a => r0.getD a 0 + c * (usedTo D a k + if a < j then cellD D k a else 0)
theorem midF_len (c : Int) (r0 : List Int) (D : List (List Int)) (m k j : Nat) : (midF c r0 D m k j).length = m := by simp [midF]
theorem midF_at (c : Int) (r0 : List Int) (D : List (List Int)) {m : Nat} (k j : Nat) {a : Nat} (h : a < m) : (midF c r0 D m k j)[a]'(by rw [midF_len]; exact h) = r0.getD a 0 + c * (usedTo D a k + if a < j then cellD D k a else 0) := by simp [midF]
theorem midF_next (c : Int) (r0 : List Int) (D : List (List Int)) (m k : Nat) : midF c r0 D m k m = midF c r0 D m (k + 1) 0 := by
  unfold midF
  apply List.map_congr_left
  intro i hi
  rw [if_pos (List.mem_range.1 hi), if_neg (by omega), used_step]; simp
theorem midF_set (c : Int) (r0 : List Int) (D : List (List Int)) (m k j : Nat) (x : Int) (hx : x = r0.getD j 0 + c * (usedTo D j k + cellD D k j)) : (midF c r0 D m k j).set j x = midF c r0 D m k (j + 1) := by
  apply List.ext_getElem
  · simp [midF]
  · intro i h1 h2
    rw [List.getElem_set]
    have hi : i < m := by rw [midF_len] at h2; exact h2
    rw [midF_at c r0 D k (j + 1) hi]
    by_cases e : j = i
    · subst e; rw [if_pos rfl, if_pos (by omega), hx]
    · rw [if_neg e, midF_at c r0 D k j hi]
      by_cases h3 : i < j
      · rw [if_pos h3, if_pos (by omega)]
      · rw [if_neg h3, if_neg (by omega)]
theorem midF_zero (c : Int) (r0 : List Int) (D : List (List Int)) (m : Nat) (h : r0.length = m) : midF c r0 D m 0 0 = r0 := by
  apply List.ext_getElem
  · rw [midF_len, h]
  · intro i h1 h2
    rw [midF_at c r0 D 0 0 (by rw [midF_len] at h1; exact h1), used_zero, getD_at h2]; simp
theorem rep_getD (m a : Nat) : (List.replicate m (0 : Int)).getD a 0 = 0 := by
  rw [List.getD_eq_getElem?_getD, List.getElem?_replicate]; split <;> rfl

theorem foldMin (l : List Int) : ∀ a, (l.foldl min a ≤ a ∧ ∀ x ∈ l, l.foldl min a ≤ x) ∧ (l.foldl min a = a ∨ l.foldl min a ∈ l) := by
  induction l with
  | nil => intro a; simp
  | cons y r ih =>
    intro a
    obtain ⟨⟨h1, h2⟩, h3⟩ := ih (min a y)
    rw [List.foldl_cons]
    refine ⟨⟨by omega, fun x hx => ?_⟩, ?_⟩
    · rcases List.mem_cons.1 hx with rfl | hx
      · omega
      · exact h2 x hx
    · rcases h3 with h3 | h3
      · by_cases h : a ≤ y
        · left; rw [h3]; omega
        · right; rw [h3, show min a y = y by omega]; exact List.mem_cons_self
      · right; exact List.mem_cons_of_mem _ h3
theorem min_all {l : List Int} (h : 0 < l.length) : decide (0 ≤ Lib.minOf l) = l.all (fun x => decide (0 ≤ x)) := by
  cases l with
  | nil => simp at h
  | cons a r =>
    have e : Lib.minOf (a :: r) = (a :: r).foldl min a := rfl
    obtain ⟨⟨h1, h2⟩, h3⟩ := foldMin (a :: r) a
    rw [Bool.eq_iff_iff, decide_eq_true_eq, List.all_eq_true, e]
    constructor
    · intro h4 x hx; have := h2 x hx; simp; omega
    · intro h4
      rcases h3 with h3 | h3
      · rw [h3]; simpa using h4 a List.mem_cons_self
      · simpa using h4 _ h3
/-- The rooms that are left are all at least 0 exactly if the sums are at most the rooms. -/
theorem left_all (r0 : List Int) (D : List (List Int)) (m : Nat) : (midF (-1) r0 D m D.length 0).all (fun x => decide (0 ≤ x)) = (List.range m).all fun a => decide (usedTo D a D.length ≤ r0.getD a 0) := by
  unfold midF
  rw [List.all_map, Bool.eq_iff_iff, List.all_eq_true, List.all_eq_true]
  constructor
  · intro h a ha; have := h a ha; simp only [Function.comp, decide_eq_true_eq, if_neg (Nat.not_lt_zero a)] at this; simp only [decide_eq_true_eq]; omega
  · intro h a ha; have := h a ha; simp only [decide_eq_true_eq] at this; simp only [Function.comp, decide_eq_true_eq, if_neg (Nat.not_lt_zero a)]; omega

/-- The rooms of the first open sites. -/
def openTo (r : List Int) (T : List Nat) (k : Nat) : List Int := (List.range r.length).map fun a => if a ∈ T.take k then r.getD a 0 else 0
theorem openTo_len (r : List Int) (T : List Nat) (k : Nat) : (openTo r T k).length = r.length := by simp [openTo]
theorem openTo_zero (r : List Int) (T : List Nat) : openTo r T 0 = List.replicate r.length 0 := by
  apply List.ext_getElem
  · simp [openTo]
  · intro i h1 h2; simp [openTo]
theorem openTo_set (r : List Int) (T : List Nat) {k : Nat} (h : k < T.length) : (openTo r T k).set T[k] (r.getD T[k] 0) = openTo r T (k + 1) := by
  apply List.ext_getElem
  · simp [openTo]
  · intro i h1 h2
    rw [List.getElem_set]
    simp only [openTo, List.getElem_map, List.getElem_range, List.take_succ_eq_append_getElem h, List.mem_append, List.mem_singleton]
    by_cases e : T[k] = i
    · rw [if_pos e, if_pos (.inr e.symm), e]
    · rw [if_neg e]
      by_cases h3 : i ∈ T.take k
      · rw [if_pos h3, if_pos (.inl h3)]
      · rw [if_neg h3, if_neg (by rintro (h4 | h4); exact h3 h4; exact e h4.symm)]
theorem openTo_all (r : List Int) (T : List Nat) : openTo r T T.length = openR r (up T) := by
  unfold openTo openR
  apply List.map_congr_left
  intro i _
  rw [List.take_length]
  have : hasI (up T) (i : Int) = decide (i ∈ T) := by
    unfold hasI
    rw [Bool.eq_iff_iff, List.contains_iff_mem, decide_eq_true_iff]
    unfold up
    rw [List.mem_map]
    constructor
    · rintro ⟨x, hx, e⟩; have : x = i := by omega
      subst this; exact hx
    · intro h; exact ⟨i, h, rfl⟩
  rw [this]
  by_cases h : i ∈ T
  · rw [if_pos h, decide_eq_true h]; rfl
  · rw [if_neg h, decide_eq_false h]; rfl
end Go.Proofs.Ytehmjmknegnojaa
