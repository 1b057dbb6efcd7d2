/- Sites taken one after the other: the program's lists of longer sets, the model's search among the sites, and that the order of a set turns no service. No condition. -/
import Derived.Test.YtfiijfgclfoeoaaPlainLeast
import Derived.Test.YtfiijfgclfoeoaaPlainServe
import Derived.Test.YtfiijfgclfoeoaaPlainSwap
namespace Go.Proofs.Ytfiijfgclfoeoaa

/-- The sets longer by one of the first k sites. -/
def grC (T : List Nat) (k : Nat) : List (List Nat) := ((List.range k).filter fun i => !T.contains i).map fun i => T ++ [i]
theorem grC_take {T : List Nat} {k : Nat} (h : k ∉ T) : grC T (k + 1) = grC T k ++ [T ++ [k]] := by
  unfold grC
  rw [List.range_succ, List.filter_append, List.map_append]
  congr 1
  rw [List.filter_cons, if_pos (by rw [Bool.not_eq_true', ← Bool.not_eq_true, List.contains_iff_mem]; exact h)]; rfl
theorem grC_skip {T : List Nat} {k : Nat} (h : k ∈ T) : grC T (k + 1) = grC T k := by
  unfold grC
  rw [List.range_succ, List.filter_append, List.map_append]
  rw [List.filter_cons, if_neg (by rw [Bool.not_eq_true', Bool.not_eq_false, List.contains_iff_mem]; exact h)]; simp
theorem firstB_snoc (φ : List Nat → Int) (L : List (List Nat)) (T : List Nat) : firstB φ (L ++ [T]) = stepB φ (firstB φ L) T := by unfold firstB; rw [List.foldl_append]; rfl
/-- The sites taken, in their order. -/
def grD (φ : List Nat → Int) (n : Nat) : Nat → List Nat
  | 0 => []
  | d + 1 => firstB φ (grC (grD φ n d) n)
/-- The model's search: the site that is taken, of the first k, or -1. -/
def grE (φ : List Nat → Int) (T : List Nat) : Nat → Int
  | 0 => -1
  | k + 1 => if k ∉ T ∧ (grE φ T k < 0 ∨ φ (T ++ [k]) < φ (T ++ [(grE φ T k).toNat])) then (k : Int) else grE φ T k
theorem grE_first (φ : List Nat → Int) (T : List Nat) : ∀ k, (grE φ T k = -1 ∧ firstB φ (grC T k) = [] ∧ ∀ i, i < k → i ∈ T) ∨ (∃ i : Nat, grE φ T k = (i : Int) ∧ i < k ∧ i ∉ T ∧ firstB φ (grC T k) = T ++ [i])
  | 0 => .inl ⟨rfl, rfl, by simp⟩
  | k + 1 => by
    have ih := grE_first φ T k
    by_cases hk : k ∈ T
    · have h1 : grE φ T (k + 1) = grE φ T k := by rw [grE, if_neg (fun h => h.1 hk)]
      rw [h1, grC_skip hk]
      rcases ih with ⟨h2, h3, h4⟩ | ⟨i, h2, h3, h4, h5⟩
      · refine .inl ⟨h2, h3, fun i hi => ?_⟩
        by_cases e : i = k
        · rw [e]; exact hk
        · exact h4 i (by omega)
      · exact .inr ⟨i, h2, by omega, h4, h5⟩
    · rw [grC_take hk, firstB_snoc]
      rcases ih with ⟨h2, h3, _⟩ | ⟨i, h2, h3, h4, h5⟩
      · refine .inr ⟨k, ?_, by omega, hk, ?_⟩
        · rw [grE, if_pos ⟨hk, .inl (by rw [h2]; decide)⟩]
        · rw [h3]; unfold stepB; simp
      · rw [h5]
        by_cases hφ : φ (T ++ [k]) < φ (T ++ [i])
        · refine .inr ⟨k, ?_, by omega, hk, ?_⟩
          · rw [grE, if_pos ⟨hk, .inr (by rw [h2, Int.toNat_natCast]; exact hφ)⟩]
          · unfold stepB; rw [if_pos (.inr hφ)]
        · refine .inr ⟨i, ?_, by omega, h4, ?_⟩
          · rw [grE, if_neg, h2]
            rintro ⟨_, h | h⟩
            · rw [h2] at h; omega
            · rw [h2, Int.toNat_natCast] at h; exact hφ h
          · unfold stepB; rw [if_neg (by rintro (h | h); exact absurd h (by simp); exact hφ h)]
theorem nodup_len : ∀ (L M : List Nat), L.Nodup → (∀ x ∈ L, x ∈ M) → L.length ≤ M.length
  | [], _, _, _ => Nat.zero_le _
  | a :: l, M, hn, hs => by
    rw [List.nodup_cons] at hn
    have ha := hs a (List.mem_cons_self ..)
    have ih := nodup_len l (M.erase a) hn.2 (fun x hx => (List.mem_erase_of_ne (fun e => hn.1 (by rw [← e]; exact hx))).2 (hs x (List.mem_cons_of_mem _ hx)))
    rw [List.length_erase_of_mem ha] at ih
    have := List.length_pos_iff.2 (List.ne_nil_of_mem ha)
    rw [List.length_cons]; omega
/-- As long as a site is left, one is taken. -/
structure Greed (n d : Nat) (T : List Nat) : Prop where
  len : T.length = d
  lt : ∀ x ∈ T, x < n
  nd : T.Nodup
theorem greed_left {n d : Nat} {T : List Nat} (h : Greed n d T) (hd : d < n) : ∃ i, i < n ∧ i ∉ T := by
  by_cases hx : ∃ i, i < n ∧ i ∉ T
  · exact hx
  · exfalso
    have hsub : List.range n ⊆ T := fun i hi => by
      by_cases hm : i ∈ T
      · exact hm
      · exact absurd ⟨i, List.mem_range.1 hi, hm⟩ hx
    have := nodup_len (List.range n) T List.nodup_range (fun i hi => hsub hi)
    rw [List.length_range, h.len] at this; omega
theorem greed_step {n d : Nat} {T : List Nat} (φ : List Nat → Int) (h : Greed n d T) (hd : d < n) : ∃ i : Nat, grE φ T n = (i : Int) ∧ i < n ∧ i ∉ T ∧ firstB φ (grC T n) = T ++ [i] ∧ Greed n (d + 1) (T ++ [i]) := by
  rcases grE_first φ T n with ⟨_, _, h4⟩ | ⟨i, h2, h3, h4, h5⟩
  · obtain ⟨i, hi, hm⟩ := greed_left h hd
    exact absurd (h4 i hi) hm
  · refine ⟨i, h2, h3, h4, h5, ⟨by rw [List.length_append, h.len]; rfl, fun x hx => ?_, ?_⟩⟩
    · rcases List.mem_append.1 hx with hx | hx
      · exact h.lt x hx
      · rw [List.mem_singleton] at hx; rw [hx]; exact h3
    · rw [List.nodup_append]
      refine ⟨h.nd, by simp, fun a ha b hb => ?_⟩
      rw [List.mem_singleton] at hb
      rw [hb]; intro e; exact h4 (e ▸ ha)
theorem grD_ok (φ : List Nat → Int) (n : Nat) : ∀ d, d ≤ n → Greed n d (grD φ n d)
  | 0, _ => ⟨rfl, by simp [grD], by simp [grD]⟩
  | d + 1, h => by
    obtain ⟨i, _, _, _, h5, h6⟩ := greed_step φ (grD_ok φ n d (by omega)) (by omega)
    rw [grD, h5]; exact h6

/-- A site that serves is as near as any of the set. -/
theorem near_le (row : List Int) (T : List Nat) : ∀ k, k ≤ T.length → ∀ j, (hj : j < T.length) → j < k → row.getD (nearTo row T k) 0 ≤ row.getD T[j] 0
  | 0, _, _, _, h => absurd h (Nat.not_lt_zero _)
  | k + 1, hk, j, hj, h => by
    have ih := near_le row T k (by omega)
    rw [near_step (by omega)]
    unfold nearF
    by_cases e : j = k
    · subst e; split <;> omega
    · have := ih j hj (by omega)
      split <;> omega
theorem near_perm {T U : List Nat} (h : T.Perm U) (h0 : T ≠ []) (row : List Int) : row.getD (near row T) 0 = row.getD (near row U) 0 := by
  have hU : U ≠ [] := fun e => h0 (by rw [e] at h; exact List.perm_nil.1 h)
  have m1 := near_mem (row := row) (List.length_pos_iff.2 h0) T.length (Nat.le_refl _)
  have m2 := near_mem (row := row) (List.length_pos_iff.2 hU) U.length (Nat.le_refl _)
  obtain ⟨j1, l1, e1⟩ := List.mem_iff_getElem.1 (h.symm.mem_iff.1 m2)
  obtain ⟨j2, l2, e2⟩ := List.mem_iff_getElem.1 (h.mem_iff.1 m1)
  have a := near_le row T T.length (Nat.le_refl _) j1 l1 l1
  have b := near_le row U U.length (Nat.le_refl _) j2 l2 l2
  rw [e1] at a
  rw [e2] at b
  unfold near
  omega
theorem lens_perm {T U : List Nat} (h : T.Perm U) (h0 : T ≠ []) (d : List (List Int)) : lens d T = lens d U := by
  unfold lens; exact List.map_congr_left fun row _ => near_perm h h0 row
end Go.Proofs.Ytfiijfgclfoeoaa
