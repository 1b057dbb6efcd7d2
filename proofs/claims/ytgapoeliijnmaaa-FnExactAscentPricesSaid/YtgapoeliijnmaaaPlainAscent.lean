/- Plain mathematics of the ascent of prices. No condition. -/
import Derived.Test.YtgapoeliijnmaaaPlainRest
namespace Go.Proofs.Ytgapoeliijnmaaa

/-- By how much a client can raise its price for a site. -/
def gapAt (F : Fld) (p : List Int) (j a : Nat) : Int := if F.len j a ≤ p.getD j 0 then restAt F p a else F.len j a - p.getD j 0
def gapsOf (F : Fld) (p : List Int) (j : Nat) : List Int := (List.range F.o.l.length).map (gapAt F p j)
theorem gaps_length (F : Fld) (p : List Int) (j : Nat) : (gapsOf F p j).length = F.o.l.length := by simp [gapsOf]
theorem gaps_getD (F : Fld) (p : List Int) (j : Nat) {a : Nat} (h : a < F.o.l.length) : (gapsOf F p j).getD a 0 = gapAt F p j a := by
  rw [getD_at (by rw [gaps_length]; exact h)]; simp [gapsOf]
def nextOf (F : Fld) (p : List Int) (j : Nat) : Int := Lib.minOf (gapsOf F p j)

/-- Fair prices, one for each client. -/
structure Asc (F : Fld) (p : List Int) : Prop where
  good : F.good = true
  len : p.length = F.t.R.length
  pos : ∀ j, 0 ≤ p.getD j 0
  fair : ∀ a, a < F.o.l.length → 0 ≤ restAt F p a

theorem claim_term (F : Fld) (p : List Int) (a : Nat) : ∀ (k j : Nat), j < k → max 0 (p.getD j 0 - 1 * F.len j a) ≤ clmTo F 1 p a k ∧ 0 ≤ clmTo F 1 p a k
  | 0, _, h => absurd h (Nat.not_lt_zero _)
  | k + 1, j, h => by
    have h0 : 0 ≤ clmTo F 1 p a k := by
      cases k with
      | zero => simp [clmTo]
      | succ k => exact (claim_term F p a (k + 1) k (by omega)).2
    simp only [clmTo]
    by_cases e : j = k
    · subst e; omega
    · have := (claim_term F p a k j (by omega)).1; omega
theorem getD_far (l : List Int) {k : Nat} (h : ¬ k < l.length) : l.getD k 0 = 0 := by rw [List.getD_eq_getElem?_getD, List.getElem?_eq_none (by omega), Option.getD_none]
theorem asc_le {F : Fld} {p : List Int} (h : Asc F p) (j : Nat) : p.getD j 0 ≤ 198 := by
  by_cases hj : j < p.length
  · have hn := good_sizes h.good
    have h1 := (claim_term F p 0 p.length j hj).1
    have h2 := h.fair 0 (by omega)
    have h3 := getD_bound (good_open h.good) 0
    have h4 := len_bound h.good (by rw [← h.len]; exact hj) 0
    unfold restAt at h2
    omega
  · rw [getD_far p hj]; omega
theorem asc_due {F : Fld} {p : List Int} (h : Asc F p) : Dues 2097152 p := fun x hx => by
  obtain ⟨k, hk, rfl⟩ := List.mem_iff_getElem.1 hx
  have h1 := h.pos k
  have h2 := asc_le h k
  rw [getD_at hk] at h1 h2
  omega
theorem gap_pos {F : Fld} {p : List Int} (h : Asc F p) (j : Nat) {a : Nat} (ha : a < F.o.l.length) : 0 ≤ gapAt F p j a := by
  unfold gapAt
  split
  · exact h.fair a ha
  · omega
theorem rest_le {F : Fld} {p : List Int} (h : Asc F p) (a : Nat) : restAt F p a ≤ 99 := (rest_bound h.good (asc_due h) (by omega) h.len a).2
theorem gap_le {F : Fld} {p : List Int} (h : Asc F p) {j : Nat} (hj : j < F.t.R.length) (a : Nat) : gapAt F p j a ≤ 99 := by
  unfold gapAt
  have h1 := rest_le h a
  have h2 := len_bound h.good hj a
  have h3 := h.pos j
  split <;> omega
theorem next_spec {F : Fld} {p : List Int} (h : Asc F p) (j : Nat) : (∀ a, a < F.o.l.length → nextOf F p j ≤ gapAt F p j a) ∧ 0 ≤ nextOf F p j ∧ ∃ a, a < F.o.l.length ∧ nextOf F p j = gapAt F p j a := by
  have hn := good_sizes h.good
  obtain ⟨h1, a0, h2, h3⟩ := min_le F.o.l.length (gapsOf F p j) (by omega) (by rw [gaps_length]; exact Nat.le_refl _)
  rw [List.take_of_length_le (by rw [gaps_length]; exact Nat.le_refl _)] at h1 h3
  have e : nextOf F p j = gapAt F p j a0 := by unfold nextOf; rw [h3, gaps_getD F p j h2]
  exact ⟨fun a ha => by have := h1 a ha; rw [gaps_getD F p j ha] at this; exact this, by rw [e]; exact gap_pos h j h2, a0, h2, e⟩
theorem next_le {F : Fld} {p : List Int} (h : Asc F p) {j : Nat} (hj : j < F.t.R.length) : nextOf F p j ≤ 99 := by
  obtain ⟨_, _, a, ha, e⟩ := next_spec h j
  rw [e]; exact gap_le h hj a

theorem set_getD (p : List Int) (j k : Nat) (x : Int) : (p.set j x).getD k 0 = if j = k ∧ j < p.length then x else p.getD k 0 := by
  rw [List.getD_eq_getElem?_getD, List.getD_eq_getElem?_getD, List.getElem?_set]
  by_cases e : j = k
  · subst e
    by_cases h : j < p.length
    · simp [h]
    · simp [h]
  · simp [e]
theorem clm_set (F : Fld) (p : List Int) (j a : Nat) (x : Int) (hj : j < p.length) : ∀ k, clmTo F 1 (p.set j x) a k = clmTo F 1 p a k + (if j < k then max 0 (x - 1 * F.len j a) - max 0 (p.getD j 0 - 1 * F.len j a) else 0)
  | 0 => by simp [clmTo]
  | k + 1 => by
    have ih := clm_set F p j a x hj k
    simp only [clmTo, ih, set_getD]
    by_cases e : j = k
    · subst e
      simp only [Nat.lt_irrefl, if_false, hj, and_self, if_true, Nat.lt_succ_self]
      omega
    · have e1 : (if j = k ∧ j < p.length then x else p.getD k 0) = p.getD k 0 := if_neg fun h => e h.1
      rw [e1]
      by_cases h : j < k
      · rw [if_pos h, if_pos (show j < k + 1 by omega)]; omega
      · rw [if_neg h, if_neg (show ¬ j < k + 1 by omega)]; omega
/-- The prices behind a raise. -/
def raise (F : Fld) (p : List Int) (j : Nat) : List Int := p.set j (p.getD j 0 + nextOf F p j)
theorem asc_raise {F : Fld} {p : List Int} (h : Asc F p) {j : Nat} (hj : j < F.t.R.length) : Asc F (raise F p j) := by
  have hjp : j < p.length := by rw [h.len]; exact hj
  obtain ⟨h1, h2, _⟩ := next_spec h j
  refine ⟨h.good, by unfold raise; rw [List.length_set]; exact h.len, fun k => ?_, fun a ha => ?_⟩
  · unfold raise
    rw [set_getD]
    split
    · have := h.pos j; omega
    · exact h.pos k
  · have h3 := h1 a ha
    have h4 := h.fair a ha
    have h5 := clm_set F p j a (p.getD j 0 + nextOf F p j) hjp p.length
    rw [if_pos hjp] at h5
    unfold restAt at *
    unfold raise
    rw [List.length_set, h5]
    unfold gapAt restAt at h3
    split at h3 <;> omega
theorem sum_set (p : List Int) : ∀ (j : Nat) (x : Int), j < p.length → (p.set j x).sum = p.sum - p.getD j 0 + x := by
  induction p with
  | nil => intro j x h; simp at h
  | cons y t ih =>
    intro j x h
    cases j with
    | zero => simp; omega
    | succ j =>
      have := ih j x (by simpa using h)
      simp only [List.set_cons_succ, List.sum_cons, List.getD_cons_succ, this]
      omega
theorem raise_sum {F : Fld} {p : List Int} {j : Nat} (hj : j < p.length) : (raise F p j).sum = p.sum + nextOf F p j := by
  unfold raise; rw [sum_set p j _ hj]; omega
theorem raise_same {F : Fld} {p : List Int} {j : Nat} (hj : j < p.length) (h : nextOf F p j = 0) : raise F p j = p := by
  unfold raise
  rw [h, Int.add_zero, getD_at hj]
  exact List.set_getElem_self hj

/-- The prices behind the first k clients of a round. -/
def rnd (F : Fld) (p : List Int) : Nat → List Int
  | 0 => p
  | k + 1 => raise F (rnd F p k) k
theorem rnd_asc {F : Fld} {p : List Int} (h : Asc F p) : ∀ k, k ≤ F.t.R.length → Asc F (rnd F p k)
  | 0, _ => h
  | k + 1, hk => asc_raise (rnd_asc h k (by omega)) (by omega)
theorem rnd_grow {F : Fld} {p : List Int} (h : Asc F p) : ∀ k, k ≤ F.t.R.length → rnd F p k = p ∨ p.sum < (rnd F p k).sum
  | 0, _ => .inl rfl
  | k + 1, hk => by
    have ha := rnd_asc h k (by omega)
    have hkp : k < (rnd F p k).length := by rw [ha.len]; omega
    have hn := (next_spec ha k).2.1
    have hs : (rnd F p (k + 1)).sum = (rnd F p k).sum + nextOf F (rnd F p k) k := raise_sum hkp
    rcases rnd_grow h k (by omega) with h1 | h1
    · by_cases h0 : nextOf F (rnd F p k) k = 0
      · left
        show raise F (rnd F p k) k = p
        rw [raise_same hkp h0, h1]
      · right; rw [hs, h1]; rw [h1] at hn h0; omega
    · right; omega
/-- A round, and the prices behind i rounds. -/
def round1 (F : Fld) (p : List Int) : List Int := rnd F p F.t.R.length
def itr (F : Fld) (p : List Int) : Nat → List Int
  | 0 => p
  | i + 1 => round1 F (itr F p i)
theorem itr_asc {F : Fld} {p : List Int} (h : Asc F p) : ∀ i, Asc F (itr F p i)
  | 0 => h
  | i + 1 => rnd_asc (itr_asc h i) _ (Nat.le_refl _)
theorem itr_stay {F : Fld} {p : List Int} {i : Nat} (h : round1 F (itr F p i) = itr F p i) : ∀ d, itr F p (i + d) = itr F p i
  | 0 => rfl
  | d + 1 => by
    show round1 F (itr F p (i + d)) = _
    rw [itr_stay h d, h]
/-- The end of the ascent from p. -/
def AscEnd (F : Fld) (p l : List Int) : Prop := ∃ i, l = itr F p i ∧ round1 F l = l
theorem end_unique {F : Fld} {p l l' : List Int} (h : AscEnd F p l) (h' : AscEnd F p l') : l = l' := by
  obtain ⟨i, rfl, hi⟩ := h
  obtain ⟨j, rfl, hj⟩ := h'
  rcases Nat.le_total i j with h | h
  · obtain ⟨d, rfl⟩ := Nat.le.dest h; exact (itr_stay hi d).symm
  · obtain ⟨d, rfl⟩ := Nat.le.dest h; exact itr_stay hj d
theorem sum_le : ∀ (p : List Int), (∀ j, p.getD j 0 ≤ 198) → p.sum ≤ 198 * p.length
  | [], _ => by simp
  | x :: t, h => by
    have h0 := h 0
    have ih := sum_le t fun j => by have := h (j + 1); simpa using this
    have e : ((x :: t).length : Int) = t.length + 1 := by simp
    rw [List.sum_cons, e]
    simp at h0
    omega
theorem asc_sum {F : Fld} {p : List Int} (h : Asc F p) : p.sum ≤ 1386 := by
  have h1 := sum_le p (asc_le h)
  have h2 := good_sizes h.good
  have h3 := h.len
  omega
theorem sum_ge : ∀ (p : List Int), (∀ j, 0 ≤ p.getD j 0) → 0 ≤ p.sum
  | [], _ => by simp
  | x :: t, h => by
    have h0 := h 0
    have ih := sum_ge t fun j => by have := h (j + 1); simpa using this
    rw [List.sum_cons]
    simp at h0
    omega
theorem end_some {F : Fld} {p : List Int} (h : Asc F p) : ∃ l, AscEnd F p l := by
  by_cases hx : ∃ i, round1 F (itr F p i) = itr F p i
  · obtain ⟨i, hi⟩ := hx; exact ⟨_, i, rfl, hi⟩
  · exfalso
    have hup : ∀ i : Nat, (i : Int) ≤ (itr F p i).sum := fun i => by
      induction i with
      | zero => exact sum_ge _ h.pos
      | succ i ih =>
        rcases rnd_grow (itr_asc h i) _ (Nat.le_refl _) with h1 | h1
        · exact absurd ⟨i, h1⟩ hx
        · have : (itr F p (i + 1)).sum = (rnd F (itr F p i) F.t.R.length).sum := rfl
          omega
    have h1 := hup 1387
    have h2 := asc_sum (itr_asc h 1387)
    omega

/-- The prices at the beginning: the least lengths. -/
def startTo (F : Fld) (k : Nat) : List Int := (List.range k).map fun j => Lib.minOf (F.t.con.getD j [])
theorem start_length (F : Fld) (k : Nat) : (startTo F k).length = k := by simp [startTo]
theorem start_step (F : Fld) (k : Nat) : startTo F (k + 1) = startTo F k ++ [Lib.minOf (F.t.con.getD k [])] := by simp [startTo, List.range_succ]
theorem row_con {F : Fld} {j : Nat} (hj : j < F.t.R.length) : F.t.con.getD j [] = F.t.R[j].l := by
  rw [List.getD_eq_getElem?_getD, List.getElem?_eq_getElem (by rw [con_length]; exact hj), Option.getD_some, con_at F.t hj]
theorem start_getD (F : Fld) {j k : Nat} (h : j < k) : (startTo F k).getD j 0 = Lib.minOf (F.t.con.getD j []) := by
  rw [getD_at (by rw [start_length]; exact h)]; simp [startTo]
theorem start_asc {F : Fld} (hg : F.good = true) : Asc F (startTo F F.t.R.length) := by
  have hn := good_sizes hg
  have hmin : ∀ j, j < F.t.R.length → (∀ a, a < F.o.l.length → (startTo F F.t.R.length).getD j 0 ≤ F.len j a) ∧ ∃ a, a < F.o.l.length ∧ (startTo F F.t.R.length).getD j 0 = F.len j a := fun j hj => by
    have hl := (good_row hg (List.getElem_mem hj)).1
    obtain ⟨h1, a0, h2, h3⟩ := min_le F.t.R[j].l.length F.t.R[j].l (by omega) (Nat.le_refl _)
    rw [List.take_length] at h1 h3
    rw [start_getD F hj, row_con hj]
    exact ⟨fun a ha => by rw [len_at F hj]; exact h1 a (by omega), a0, by omega, by rw [len_at F hj]; exact h3⟩
  have hz : ∀ a, a < F.o.l.length → ∀ k, k ≤ F.t.R.length → clmTo F 1 (startTo F F.t.R.length) a k = 0 := fun a ha k => by
    induction k with
    | zero => intro _; rfl
    | succ k ih =>
      intro hk
      have := (hmin k (by omega)).1 a ha
      simp only [clmTo, ih (by omega)]
      omega
  refine ⟨hg, start_length _ _, fun j => ?_, fun a ha => ?_⟩
  · by_cases hj : j < F.t.R.length
    · obtain ⟨a, _, e⟩ := (hmin j hj).2
      rw [e]; exact (len_bound hg hj a).1
    · rw [getD_far _ (by rw [start_length]; exact hj)]; omega
  · have h1 := getD_bound (good_open hg) a
    unfold restAt
    rw [hz a ha _ (by rw [start_length]; exact Nat.le_refl _)]
    omega

/-- The least gap of the first k sites, -1 of none. -/
def stepTo (F : Fld) (p : List Int) (j : Nat) : Nat → Int
  | 0 => -1
  | k + 1 => Lib.minOf ((gapsOf F p j).take (k + 1))
theorem step_one {F : Fld} {p : List Int} {j : Nat} (hn : 0 < F.o.l.length) : stepTo F p j 1 = gapAt F p j 0 := by
  show Lib.minOf ((gapsOf F p j).take 1) = _
  rw [Lib.minOf_one, gaps_getD F p j hn]
theorem step_next {F : Fld} {p : List Int} {j k : Nat} (hk : k + 1 < F.o.l.length) : stepTo F p j (k + 2) = min (stepTo F p j (k + 1)) (gapAt F p j (k + 1)) := by
  show Lib.minOf ((gapsOf F p j).take (k + 1 + 1)) = _
  rw [Lib.minOf_step _ (k + 1) (by omega) (by rw [gaps_length]; exact hk), gaps_getD F p j hk]; rfl
theorem step_end {F : Fld} {p : List Int} {j : Nat} (hn : 0 < F.o.l.length) : stepTo F p j F.o.l.length = nextOf F p j := by
  obtain ⟨k, hk⟩ : ∃ k, F.o.l.length = k + 1 := ⟨F.o.l.length - 1, by omega⟩
  rw [hk]
  show Lib.minOf ((gapsOf F p j).take (k + 1)) = _
  rw [List.take_of_length_le (by rw [gaps_length]; omega)]; rfl
theorem step_pos {F : Fld} {p : List Int} (h : Asc F p) {j k : Nat} (hk : k + 1 ≤ F.o.l.length) : 0 ≤ stepTo F p j (k + 1) := by
  obtain ⟨_, a, h1, h2⟩ := min_le (k + 1) (gapsOf F p j) (by omega) (by rw [gaps_length]; exact hk)
  show 0 ≤ Lib.minOf ((gapsOf F p j).take (k + 1))
  rw [h2, gaps_getD F p j (by omega)]
  exact gap_pos h j (by omega)
end Go.Proofs.Ytgapoeliijnmaaa
