/- Plain mathematics of dispersions. No condition. -/
import Derived.Test.YtddnadipleknoaaPlainGround
import Derived.Test.YtddnadipleknoaaPlainServe
namespace Go.Proofs.Ytddnadipleknoaa

/-- The least of s and of the distances of the i-th place to the first j ones. -/
def inn (d : List (List Int)) (T : List Nat) (i : Nat) (s : Int) (j : Nat) : Int := (List.range j).foldl (fun s b => min s (cel d (T.getD i 0) (T.getD b 0))) s
theorem inn_zero (d : List (List Int)) (T : List Nat) (i : Nat) (s : Int) : inn d T i s 0 = s := rfl
theorem inn_step (d : List (List Int)) (T : List Nat) (i : Nat) (s : Int) (j : Nat) : inn d T i s (j + 1) = min (inn d T i s j) (cel d (T.getD i 0) (T.getD j 0)) := by unfold inn; rw [List.range_succ, List.foldl_append]; rfl
/-- The least of s and of the distances of the first k places. -/
def dsp (d : List (List Int)) (T : List Nat) (s : Int) (k : Nat) : Int := (List.range k).foldl (fun s i => inn d T i s i) s
theorem dsp_zero (d : List (List Int)) (T : List Nat) (s : Int) : dsp d T s 0 = s := rfl
theorem dsp_step (d : List (List Int)) (T : List Nat) (s : Int) (k : Nat) : dsp d T s (k + 1) = inn d T k (dsp d T s k) k := by unfold dsp; rw [List.range_succ, List.foldl_append]; rfl
theorem inn_min (d : List (List Int)) (T : List Nat) (i : Nat) (s t : Int) : ∀ j, inn d T i (min s t) j = min s (inn d T i t j)
  | 0 => rfl
  | j + 1 => by rw [inn_step, inn_step, inn_min d T i s t j]; omega
theorem dsp_min (d : List (List Int)) (T : List Nat) (s t : Int) : ∀ k, dsp d T (min s t) k = min s (dsp d T t k)
  | 0 => rfl
  | k + 1 => by rw [dsp_step, dsp_step, dsp_min d T s t k, inn_min]
theorem inn_le (d : List (List Int)) (T : List Nat) (i : Nat) (s : Int) : ∀ j, inn d T i s j ≤ s
  | 0 => Int.le_refl _
  | j + 1 => by have := inn_le d T i s j; rw [inn_step]; omega
theorem dsp_le (d : List (List Int)) (T : List Nat) (s : Int) : ∀ k, dsp d T s k ≤ s
  | 0 => Int.le_refl _
  | k + 1 => by have := dsp_le d T s k; have := inn_le d T k (dsp d T s k) k; rw [dsp_step]; omega
theorem inn_bound {d : List (List Int)} (h : Grd d) (T : List Nat) (i : Nat) (s : Int) (h0 : 0 ≤ s) : ∀ j, 0 ≤ inn d T i s j
  | 0 => h0
  | j + 1 => by have := inn_bound h T i s h0 j; have := (h.bound (T.getD i 0) (T.getD j 0)).1; rw [inn_step]; omega
theorem dsp_bound {d : List (List Int)} (h : Grd d) (T : List Nat) (s : Int) (h0 : 0 ≤ s) : ∀ k, 0 ≤ dsp d T s k
  | 0 => h0
  | k + 1 => by rw [dsp_step]; exact inn_bound h T k _ (dsp_bound h T s h0 k) k
/-- The dispersion. -/
def dispT (d : List (List Int)) (T : List Nat) : Int := dsp d T 198 T.length
/-- A step with a least gap of its own. -/
theorem dsp_gap (d : List (List Int)) (T : List Nat) (k : Nat) : dsp d T 198 (k + 1) = min (dsp d T 198 k) (inn d T k 198 k) := by
  have h := dsp_le d T 198 k
  rw [dsp_step, show dsp d T 198 k = min (dsp d T 198 k) 198 by omega, inn_min]
  have := dsp_le d T 198 k
  congr 1; omega
theorem dsp_mono (d : List (List Int)) (T : List Nat) (s : Int) (k : Nat) : ∀ m, dsp d T s (k + m) ≤ dsp d T s k
  | 0 => Int.le_refl _
  | m + 1 => by have := dsp_mono d T s k m; have := inn_le d T (k + m) (dsp d T s (k + m)) (k + m); rw [← Nat.add_assoc, dsp_step]; omega
/-- The first pair. -/
theorem dsp_two (d : List (List Int)) (T : List Nat) (s : Int) : dsp d T s 2 ≤ cel d (T.getD 1 0) (T.getD 0 0) := by
  rw [dsp_step, inn_step]; omega
theorem disp_from {d : List (List Int)} (h : Grd d) {T : List Nat} (h2 : 2 ≤ T.length) (hT : ∀ m ∈ T, m < d.length) : dsp d T (cel d (T.getD 0 0) (T.getD 1 0)) T.length = dispT d T := by
  have hm : ∀ j, j < T.length → T.getD j 0 < d.length := fun j hj => by
    rw [List.getD_eq_getElem?_getD, List.getElem?_eq_getElem hj]; exact hT _ (List.getElem_mem hj)
  have hs := h.sym (hm 0 (by omega)) (hm 1 (by omega))
  have hb := (h.bound (T.getD 0 0) (T.getD 1 0)).2
  have h1 := dsp_two d T 198
  have h3 := dsp_mono d T 198 2 (T.length - 2)
  rw [show 2 + (T.length - 2) = T.length by omega] at h3
  have h4 := dsp_min d T (cel d (T.getD 0 0) (T.getD 1 0)) 198 T.length
  rw [show min (cel d (T.getD 0 0) (T.getD 1 0)) 198 = cel d (T.getD 0 0) (T.getD 1 0) by omega] at h4
  rw [h4]; unfold dispT; omega

/-- The least of s and of the distances of a place to some places. -/
def gapF (d : List (List Int)) (x : Nat) (s : Int) (L : List Nat) : Int := L.foldl (fun s b => min s (cel d x b)) s
theorem gapF_step {d : List (List Int)} {x : Nat} {s : Int} {L : List Nat} {k : Nat} (h : k < L.length) : gapF d x s (L.take (k + 1)) = min (gapF d x s (L.take k)) (cel d x L[k]) := by
  unfold gapF; rw [List.take_succ_eq_append_getElem h, List.foldl_append]; rfl
theorem getD_nat {T : List Nat} {k : Nat} (h : k < T.length) : T.getD k 0 = T[k] := by rw [List.getD_eq_getElem?_getD, List.getElem?_eq_getElem h]; rfl
theorem inn_gap (d : List (List Int)) (T : List Nat) (i : Nat) (s : Int) : ∀ j, j ≤ T.length → inn d T i s j = gapF d (T.getD i 0) s (T.take j)
  | 0, _ => by simp [inn, gapF]
  | j + 1, h => by
    rw [inn_step, gapF_step (by omega), inn_gap d T i s j (by omega)]
    rw [getD_nat (T := T) (k := j) (by omega)]
theorem rise_len (n : Int) : ∀ (l : List Int) (lo : Int), rise n lo l = true → l = [] ∨ lo + l.length < n
  | [], _, _ => .inl rfl
  | x :: r, lo, h => by
    simp only [rise, Bool.and_eq_true, decide_eq_true_eq] at h
    right
    simp only [List.length_cons]
    rcases rise_len n r x h.2 with h' | h'
    · subst h'; simp only [List.length_nil]; omega
    · omega
theorem set_len0 {n : Nat} {l : List Int} (h : setB n l = true) : l.length ≤ n := by
  rcases rise_len n l (-1) h with h' | h'
  · subst h'; simp
  · omega

end Go.Proofs.Ytddnadipleknoaa
