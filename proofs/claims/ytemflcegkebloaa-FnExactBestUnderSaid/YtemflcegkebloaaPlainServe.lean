/- Plain mathematics of sets of sites and of the sites that serve. No condition. -/
import Derived.Test.YtemflcegkebloaaPlainField
namespace Go.Proofs.Ytemflcegkebloaa

/-- Rising, from above lo, below n. -/
def rise (n : Int) : Int → List Int → Bool
  | _, [] => true
  | lo, x :: r => (decide (lo < x) && decide (x < n)) && rise n x r
def lst : Int → List Int → Int
  | lo, [] => lo
  | _, x :: r => lst x r
theorem rise_append (n : Int) : ∀ (xs : List Int) (lo : Int) (ys : List Int), rise n lo (xs ++ ys) = (rise n lo xs && rise n (lst lo xs) ys)
  | [], lo, ys => by simp [rise, lst]
  | x :: r, lo, ys => by simp only [List.cons_append, rise, lst, rise_append n r x ys, Bool.and_assoc]
theorem lst_snoc : ∀ (xs : List Int) (lo x : Int), lst lo (xs ++ [x]) = x
  | [], lo, x => rfl
  | y :: r, lo, x => by simp only [List.cons_append, lst]; exact lst_snoc r y x
theorem rise_lst (n : Int) : ∀ (xs : List Int) (lo : Int), rise n lo xs = true → lo ≤ lst lo xs
  | [], lo, _ => Int.le_refl _
  | x :: r, lo, h => by simp only [rise, Bool.and_eq_true, decide_eq_true_eq] at h; have := rise_lst n r x h.2; simp only [lst]; omega
theorem rise_bounds (n : Int) : ∀ (xs : List Int) (lo : Int), rise n lo xs = true → ∀ x ∈ xs, lo < x ∧ x < n
  | [], lo, _ => by simp
  | x :: r, lo, h => by
    simp only [rise, Bool.and_eq_true, decide_eq_true_eq] at h
    intro y hy
    rcases List.mem_cons.1 hy with hy | hy
    · subst hy; exact h.1
    · have := rise_bounds n r x h.2 y hy; omega
/-- A set of sites, of n. -/
def setB (n : Nat) (l : List Int) : Bool := rise n (-1) l
theorem set_step {n : Nat} {l : List Int} {k : Nat} (h : k < l.length) (ht : rise n (-1) (l.take k) = true) (h1 : lst (-1) (l.take k) < l[k]) (h2 : l[k] < n) : rise n (-1) (l.take (k + 1)) = true ∧ lst (-1) (l.take (k + 1)) = l[k] := by
  rw [List.take_succ_eq_append_getElem h, rise_append, ht, lst_snoc]
  simp [rise, h1, h2]
theorem set_out {n : Nat} {l : List Int} {k : Nat} (h : k < l.length) (h1 : ¬ (lst (-1) (l.take k) < l[k] ∧ l[k] < n)) : setB n l = false := by
  have e : l = l.take k ++ (l[k] :: l.drop (k + 1)) := by rw [← List.drop_eq_getElem_cons h, List.take_append_drop]
  unfold setB
  rw [e, rise_append]
  simp only [rise]
  rw [Bool.and_eq_false_iff]; right
  rw [Bool.and_eq_false_iff]; left
  rw [Bool.and_eq_false_iff, decide_eq_false_iff_not, decide_eq_false_iff_not]
  omega
theorem set_end {n : Nat} {l : List Int} (ht : rise n (-1) (l.take l.length) = true) : setB n l = true := by rw [List.take_length] at ht; exact ht
def up (T : List Nat) : List Int := T.map fun (m : Nat) => (m : Int)
theorem up_length (T : List Nat) : (up T).length = T.length := List.length_map _
theorem up_at {T : List Nat} {k : Nat} (h : k < T.length) : (up T)[k]'(by rw [up_length]; exact h) = (T[k] : Int) := by simp [up]
theorem set_nat {n : Nat} {l : List Int} (h : setB n l = true) : ∃ T : List Nat, l = up T ∧ ∀ m ∈ T, m < n := by
  have hb := rise_bounds n l (-1) h
  refine ⟨l.map Int.toNat, ?_, fun m hm => ?_⟩
  · unfold up
    rw [List.map_map]
    refine (List.map_id l).symm.trans (List.map_congr_left fun x hx => ?_)
    have := hb x hx
    simp only [id, Function.comp]; omega
  · obtain ⟨x, hx, rfl⟩ := List.mem_map.1 hm
    have := hb x hx
    omega

/-- The nearer one of two sites. -/
def nearF (row : List Int) (b s : Nat) : Nat := if row.getD s 0 < row.getD b 0 then s else b
def nearTo (row : List Int) (T : List Nat) (k : Nat) : Nat := (T.take k).foldl (nearF row) (T.headD 0)
/-- The site by which a client is served. -/
def near (row : List Int) (T : List Nat) : Nat := nearTo row T T.length
theorem near_zero (row : List Int) (T : List Nat) : nearTo row T 0 = T.headD 0 := by simp [nearTo]
theorem near_step {row : List Int} {T : List Nat} {k : Nat} (h : k < T.length) : nearTo row T (k + 1) = nearF row (nearTo row T k) T[k] := by
  unfold nearTo; rw [List.take_succ_eq_append_getElem h, List.foldl_append]; rfl
theorem near_one {row : List Int} {T : List Nat} (h : 0 < T.length) : nearTo row T 1 = T[0] := by
  rw [near_step h, near_zero]
  unfold nearF
  cases T with
  | nil => simp at h
  | cons x r => simp
theorem head_eq {T : List Nat} (h : 0 < T.length) : T.headD 0 = T[0] := by cases T with
  | nil => simp at h
  | cons x r => rfl
theorem near_mem {row : List Int} {T : List Nat} (h : 0 < T.length) : ∀ k, k ≤ T.length → nearTo row T k ∈ T
  | 0, _ => by rw [near_zero, head_eq h]; exact List.getElem_mem h
  | k + 1, hk => by
    rw [near_step (by omega)]
    unfold nearF
    split
    · exact List.getElem_mem _
    · exact near_mem h k (by omega)

/-- The lengths to the sites that serve. -/
def lens (d : List (List Int)) (T : List Nat) : List Int := d.map fun row => row.getD (near row T) 0
def served (d : List (List Int)) (T : List Nat) : List Int := d.map fun row => ((near row T : Nat) : Int)
def pays (o : List Int) (T : List Nat) : List Int := T.map fun m => o.getD m 0
theorem sum_step {l : List Int} {k : Nat} (h : k < l.length) : (l.take (k + 1)).sum = (l.take k).sum + l[k] := by
  rw [List.take_succ_eq_append_getElem h, List.sum_append]; simp
theorem sum_bound {l : List Int} (h : ∀ x ∈ l, 0 ≤ x ∧ x ≤ 99) : 0 ≤ l.sum ∧ l.sum ≤ 99 * l.length := by
  induction l with
  | nil => simp
  | cons x r ih =>
    have h1 := h x List.mem_cons_self
    have h2 := ih fun y hy => h y (List.mem_cons_of_mem _ hy)
    simp only [List.sum_cons, List.length_cons]
    omega
def maxOf (l : List Int) : Int := l.foldl max 0
theorem max_step {l : List Int} {k : Nat} (h : k < l.length) : maxOf (l.take (k + 1)) = max (maxOf (l.take k)) l[k] := by
  unfold maxOf; rw [List.take_succ_eq_append_getElem h, List.foldl_append]; rfl

theorem good_row {F : Fld} (h : F.good = true) {r : Row} (hr : r ∈ F.t.R) : r.l.length = F.o.l.length ∧ ∀ x ∈ r.l, 0 ≤ x ∧ x ≤ 99 := by
  have h5 := (goodB_iff.1 h).2.2.2.2
  have := List.all_eq_true.1 h5 r.l (List.mem_map_of_mem hr)
  unfold rowB at this
  rw [Bool.and_eq_true, decide_eq_true_eq] at this
  exact ⟨this.2, fun x hx => upTo_iff.1 (List.all_eq_true.1 this.1 x hx)⟩
theorem good_open {F : Fld} (h : F.good = true) : ∀ x ∈ F.o.l, 0 ≤ x ∧ x ≤ 99 := fun x hx => upTo_iff.1 (List.all_eq_true.1 (goodB_iff.1 h).2.2.1 x hx)
theorem getD_bound {l : List Int} (h : ∀ x ∈ l, 0 ≤ x ∧ x ≤ 99) (k : Nat) : 0 ≤ l.getD k 0 ∧ l.getD k 0 ≤ 99 := by
  rw [List.getD_eq_getElem?_getD]
  by_cases hk : k < l.length
  · rw [List.getElem?_eq_getElem hk]; exact h _ (List.getElem_mem hk)
  · rw [List.getElem?_eq_none (by omega)]; simp
theorem getD_at {l : List Int} {k : Nat} (h : k < l.length) : l.getD k 0 = l[k] := by rw [List.getD_eq_getElem?_getD, List.getElem?_eq_getElem h]; rfl
theorem good_sizes {F : Fld} (h : F.good = true) : 1 ≤ F.o.l.length ∧ F.o.l.length ≤ 7 ∧ F.t.R.length ≤ 7 := by
  have := goodB_iff.1 h; rw [con_length] at this; exact ⟨this.1, this.2.1, this.2.2.2.1⟩

/-- A valid Field and a valid set with at least one site. -/
def twoB (F : Fld) (s : Row) : Bool := F.good && setB F.o.l.length s.l && decide (0 < s.l.length)
theorem twoB_iff {F : Fld} {s : Row} : twoB F s = true ↔ F.good = true ∧ setB F.o.l.length s.l = true ∧ 0 < s.l.length := by unfold twoB; simp [and_assoc]
theorem twoB_like {F G : Fld} {s t : Row} (h : F.Like G) (hs : s.l = t.l) : twoB F s = twoB G t := by unfold twoB; rw [h.good, h.1, hs]

end Go.Proofs.Ytemflcegkebloaa
