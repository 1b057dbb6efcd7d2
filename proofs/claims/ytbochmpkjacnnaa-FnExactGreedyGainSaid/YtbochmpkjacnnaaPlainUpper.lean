/- The greatest marginal gains: plain. No condition. -/
import Derived.Test.YtbochmpkjacnnaaMarg
import Derived.Test.YtbochmpkjacnnaaSortRow
namespace Go.Proofs.Ytbochmpkjacnnaa

/-- A number put into a list that does not ascend, behind those that are not less. -/
def insD : List Int → Int → List Int
  | [], x => [x]
  | y :: l, x => if y ≥ x then y :: insD l x else x :: y :: l
theorem insD_perm (x : Int) : ∀ l : List Int, (insD l x).Perm (x :: l)
  | [] => List.Perm.refl _
  | y :: l => by
    unfold insD
    split
    · exact ((insD_perm x l).cons y).trans (List.Perm.swap ..)
    · exact List.Perm.refl _
theorem insD_falls (x : Int) : ∀ l : List Int, l.Pairwise (· ≥ ·) → (insD l x).Pairwise (· ≥ ·)
  | [], _ => List.pairwise_singleton _ _
  | y :: l, h => by
    rw [List.pairwise_cons] at h
    unfold insD
    split
    · next hy =>
      rw [List.pairwise_cons]
      refine ⟨fun z hz => ?_, insD_falls x l h.2⟩
      rcases List.mem_cons.1 ((insD_perm x l).mem_iff.1 hz) with rfl | hz
      · exact hy
      · exact h.1 z hz
    · next hy =>
      rw [List.pairwise_cons]
      refine ⟨fun z hz => ?_, List.pairwise_cons.2 h⟩
      rcases List.mem_cons.1 hz with rfl | hz
      · omega
      · have := h.1 z hz; omega
theorem insD_at (x : Int) : ∀ (l : List Int) (k : Nat), k ≤ l.length → (∀ j, (hj : j < l.length) → j < k → l[j] ≥ x) → (k = l.length ∨ ∃ hk : k < l.length, ¬ l[k] ≥ x) → insD l x = l.take k ++ x :: l.drop k
  | [], k, hk, _, _ => by simp at hk; subst hk; rfl
  | y :: l, 0, _, _, h => by
    rcases h with h | ⟨_, h⟩
    · simp at h
    · have h' : ¬ y ≥ x := h
      unfold insD; rw [if_neg h']; rfl
  | y :: l, k + 1, hk, hall, h => by
    have h0 : y ≥ x := hall 0 (by simp) (by omega)
    unfold insD
    rw [if_pos h0, insD_at x l k (by simpa using hk) (fun j hj hjk => by have := hall (j + 1) (by simpa using hj) (by omega); simpa using this) (by
      rcases h with h | ⟨h1, h2⟩
      · exact .inl (by simpa using h)
      · exact .inr ⟨by simpa using h1, by simpa using h2⟩)]
    rfl
/-- The marginal gains of the first sites. -/
def margL (F : Fld) (u : Int) (T : List Nat) (j : Nat) : List Int := (List.range j).map fun i => moreT F u T i
theorem margL_len (F : Fld) (u : Int) (T : List Nat) (j : Nat) : (margL F u T j).length = j := by simp [margL]
theorem margL_step (F : Fld) (u : Int) (T : List Nat) (j : Nat) : margL F u T (j + 1) = margL F u T j ++ [moreT F u T j] := by unfold margL; rw [List.range_succ, List.map_append]; rfl
/-- The model's list: the marginal gains of the first sites that are not in the set, from the greatest on. -/
def topL (F : Fld) (u : Int) (T : List Nat) : Nat → List Int
  | 0 => []
  | j + 1 => if j ∈ T then topL F u T j else insD (topL F u T j) (moreT F u T j)
theorem topL_falls (F : Fld) (u : Int) (T : List Nat) : ∀ j, (topL F u T j).Pairwise (· ≥ ·)
  | 0 => List.Pairwise.nil
  | j + 1 => by
    unfold topL
    split
    · exact topL_falls F u T j
    · exact insD_falls _ _ (topL_falls F u T j)
theorem topL_len (F : Fld) (u : Int) (T : List Nat) : ∀ j, (topL F u T j).length ≤ j
  | 0 => Nat.le_refl _
  | j + 1 => by
    have := topL_len F u T j
    unfold topL
    split
    · omega
    · rw [(insD_perm _ _).length_eq, List.length_cons]; omega
theorem near_with {row : List Int} {T : List Nat} {i : Nat} (h : i ∈ T) : row.getD (near row (T ++ [i])) 0 = row.getD (near row T) 0 := by
  have h0 : 0 < T.length := List.length_pos_of_mem h
  have m1 := near_mem (row := row) (T := T ++ [i]) (by simp) (T ++ [i]).length (Nat.le_refl _)
  have m2 := near_mem (row := row) h0 T.length (Nat.le_refl _)
  have m1' : nearTo row (T ++ [i]) (T ++ [i]).length ∈ T := by
    rcases List.mem_append.1 m1 with m | m
    · exact m
    · rw [List.mem_singleton] at m; rw [m]; exact h
  obtain ⟨j1, l1, e1⟩ := List.mem_iff_getElem.1 m1'
  obtain ⟨j2, l2, e2⟩ := List.mem_iff_getElem.1 (List.mem_append_left [i] m2)
  have a := near_le row T T.length (Nat.le_refl _) j1 l1 l1
  have b := near_le row (T ++ [i]) (T ++ [i]).length (Nat.le_refl _) j2 l2 l2
  rw [e1] at a
  rw [e2] at b
  unfold near
  omega
theorem moreT_has (F : Fld) (u : Int) {T : List Nat} {i : Nat} (h : i ∈ T) : moreT F u T i = 0 := by
  have h0 : T ≠ [] := fun e => by rw [e] at h; simp at h
  unfold moreT gainT
  rw [if_neg h0, if_neg (by simp)]
  have : gainsL F u (T ++ [i]) = gainsL F u T := by
    unfold gainsL lens
    rw [List.map_map, List.map_map]
    exact List.map_congr_left fun row _ => by simp only [Function.comp]; rw [near_with h]
  rw [this]; omega
theorem near_more {row : List Int} {T : List Nat} (i : Nat) (h0 : 0 < T.length) : row.getD (near row (T ++ [i])) 0 ≤ row.getD (near row T) 0 := by
  have m2 := near_mem (row := row) h0 T.length (Nat.le_refl _)
  obtain ⟨j2, l2, e2⟩ := List.mem_iff_getElem.1 (List.mem_append_left [i] m2)
  have b := near_le row (T ++ [i]) (T ++ [i]).length (Nat.le_refl _) j2 l2 l2
  rw [e2] at b
  unfold near
  exact b
theorem moreT_bound {F : Fld} {u : Int} (hw : worthB F u = true) (T : List Nat) (i : Nat) : 0 ≤ moreT F u T i ∧ moreT F u T i ≤ 6993 := by
  have b1 := gainT_bound hw T
  have b2 := gainT_bound hw (T ++ [i])
  refine ⟨?_, by unfold moreT; omega⟩
  by_cases h0 : T = []
  · subst h0; unfold moreT; rw [gainT_nil]; omega
  · unfold moreT gainT
    rw [if_neg h0, if_neg (by simp)]
    have : (gainsL F u T).sum ≤ (gainsL F u (T ++ [i])).sum := by
      unfold gainsL lens
      rw [List.map_map, List.map_map]
      generalize F.t.con = R
      induction R with
      | nil => exact Int.le_refl _
      | cons r R ih =>
        have := near_more (row := r) i (List.length_pos_iff.2 h0)
        rw [List.map_cons, List.map_cons, List.sum_cons, List.sum_cons]
        simp only [Function.comp] at *
        omega
    omega
/-- The zeros of the sites of the set, and the others. -/
theorem top_perm (F : Fld) (u : Int) (T : List Nat) : ∀ j, ∃ z, (List.replicate z 0 ++ (topL F u T j).reverse).Perm (margL F u T j)
  | 0 => ⟨0, by simp [topL, margL]⟩
  | j + 1 => by
    obtain ⟨z, hz⟩ := top_perm F u T j
    rw [margL_step]
    by_cases h : j ∈ T
    · refine ⟨z + 1, ?_⟩
      rw [moreT_has F u h, topL, if_pos h, List.replicate_succ, List.cons_append]
      exact (hz.cons 0).trans (List.perm_append_singleton 0 _).symm
    · refine ⟨z, ?_⟩
      rw [topL, if_neg h]
      have h1 : (insD (topL F u T j) (moreT F u T j)).reverse.Perm (moreT F u T j :: (topL F u T j).reverse) :=
        (List.reverse_perm _).trans ((insD_perm _ _).trans ((List.reverse_perm _).symm.cons _))
      refine ((List.Perm.refl _).append h1).trans ?_
      refine List.perm_middle.trans ?_
      exact (hz.cons _).trans (List.perm_append_singleton _ _).symm
theorem sorted_unique : ∀ {a b : List Int}, a.Pairwise (· ≤ ·) → b.Pairwise (· ≤ ·) → a.Perm b → a = b := fun ha hb h => h.eq_of_pairwise (fun _ _ _ _ h1 h2 => Int.le_antisymm h1 h2) ha hb
theorem top_sum {F : Fld} {u : Int} (hw : worthB F u = true) (T : List Nat) (n k : Nat) : ((sortA (margL F u T n)).drop (n - k)).sum = ((topL F u T n).take k).sum := by
  obtain ⟨z, hz⟩ := top_perm F u T n
  have hpos : ∀ x ∈ topL F u T n, 0 ≤ x := fun x hx => by
    have : x ∈ margL F u T n := hz.mem_iff.1 (List.mem_append_right _ (List.mem_reverse.2 hx))
    unfold margL at this
    obtain ⟨i, _, rfl⟩ := List.mem_map.1 this
    exact (moreT_bound hw T i).1
  have hs : sortA (margL F u T n) = List.replicate z 0 ++ (topL F u T n).reverse := by
    refine sorted_unique (sortA_rises _) ?_ ((sortA_perm _).trans hz.symm)
    rw [List.pairwise_append]
    refine ⟨by rw [List.pairwise_replicate]; right; exact Int.le_refl _, ?_, fun a ha b hb => ?_⟩
    · rw [List.pairwise_reverse]
      exact (topL_falls F u T n).imp fun h => h
    · rw [List.mem_replicate] at ha
      rw [ha.2]; exact hpos b (List.mem_reverse.1 hb)
  rw [hs]
  have hlen : z + (topL F u T n).length = n := by
    have := hz.length_eq
    rw [List.length_append, List.length_replicate, List.length_reverse, margL_len] at this; exact this
  have key : ∀ l : List Int, (l.drop (l.length - k)).sum = (l.reverse.take k).sum := fun l => by
    have h1 : l.reverse.take k = (l.drop (l.length - k)).reverse := by
      rw [List.take_reverse]
    rw [h1, List.sum_reverse]
  have hl2 : (List.replicate z (0 : Int) ++ (topL F u T n).reverse).length = n := by simp; omega
  have h3 := key (List.replicate z 0 ++ (topL F u T n).reverse)
  rw [hl2] at h3
  rw [h3, List.reverse_append, List.reverse_reverse, List.reverse_replicate, List.take_append, List.sum_append]
  have h4 : ((List.replicate z (0 : Int)).take (k - (topL F u T n).length)).sum = 0 := by
    rw [List.take_replicate]; simp
  rw [h4]; omega
theorem margL_bound {F : Fld} {u : Int} (hw : worthB F u = true) (T : List Nat) (j : Nat) : ∀ x ∈ margL F u T j, 0 ≤ x ∧ x ≤ 6993 := fun x hx => by
  unfold margL at hx
  obtain ⟨i, _, rfl⟩ := List.mem_map.1 hx
  exact moreT_bound hw T i
theorem topL_bound {F : Fld} {u : Int} (hw : worthB F u = true) (T : List Nat) (j : Nat) : ∀ x ∈ topL F u T j, 0 ≤ x ∧ x ≤ 6993 := fun x hx => by
  obtain ⟨z, hz⟩ := top_perm F u T j
  exact margL_bound hw T j x (hz.mem_iff.1 (List.mem_append_right _ (List.mem_reverse.2 hx)))
/-- The upper gain. -/
def upperT (F : Fld) (u : Int) (T : List Nat) (k : Nat) : Int := gainT F u T + ((topL F u T F.o.l.length).take k).sum
end Go.Proofs.Ytbochmpkjacnnaa
