/- Plain mathematics of places that are taken one after the other. No condition. -/
import Derived.Test.YtddnadipleknoaaBestDispI
import Derived.Test.YtddnadipleknoaaPlainProv
namespace Go.Proofs.Ytddnadipleknoaa

/-- The pairs of n places, in order. -/
def pairsL (n : Nat) : List (List Nat) := (List.range n).flatMap fun i => (List.range (n - (i + 1))).map fun q => [i, i + 1 + q]
theorem pairs_combs : ∀ n, n ≤ 7 → 2 ≤ n → combs n 2 = pairsL n := by decide +kernel
/-- The best of b and of the pairs of the place i with some next ones. -/
def rowP (φ : List Nat → Int) (i : Nat) (b : List Nat) (k : Nat) : List Nat := (List.range k).foldl (fun b q => stepB φ b [i, i + 1 + q]) b
def topP (φ : List Nat → Int) (n : Nat) (b : List Nat) (k : Nat) : List Nat := (List.range k).foldl (fun b i => rowP φ i b (n - (i + 1))) b
theorem rowP_step (φ : List Nat → Int) (i : Nat) (b : List Nat) (k : Nat) : rowP φ i b (k + 1) = stepB φ (rowP φ i b k) [i, i + 1 + k] := by unfold rowP; rw [List.range_succ, List.foldl_append]; rfl
theorem topP_step (φ : List Nat → Int) (n : Nat) (b : List Nat) (k : Nat) : topP φ n b (k + 1) = rowP φ k (topP φ n b k) (n - (k + 1)) := by unfold topP; rw [List.range_succ, List.foldl_append]; rfl
theorem fold_flat {α β : Type} (f : β → List Nat → β) (g : α → List (List Nat)) : ∀ (l : List α) (b : β), (l.flatMap g).foldl f b = l.foldl (fun b a => (g a).foldl f b) b
  | [], _ => rfl
  | a :: l, b => by rw [List.flatMap_cons, List.foldl_append, fold_flat f g l]; rfl
theorem top_first (φ : List Nat → Int) {n : Nat} (h7 : n ≤ 7) (h2 : 2 ≤ n) : topP φ n [0, 1] n = bestK φ n 2 := by
  have h : ∀ b, (pairsL n).foldl (stepB φ) b = topP φ n b n := fun b => by
    unfold pairsL topP rowP
    rw [fold_flat]
    congr 1
    funext b i
    rw [List.foldl_map]
  unfold bestK firstB
  rw [pairs_combs n h7 h2, h]
  obtain ⟨m, rfl⟩ : ∃ m, n = m + 2 := ⟨n - 2, by omega⟩
  have e0 : ∀ b k, topP φ (m + 2) b (k + 1) = (List.range k).foldl (fun b i => rowP φ (i + 1) b (m + 2 - (i + 1 + 1))) (rowP φ 0 b (m + 2 - 1)) := fun b k => by
    unfold topP
    rw [List.range_succ_eq_map, List.foldl_cons, List.foldl_map]
  have e1 : ∀ b, rowP φ 0 b (m + 1) = (List.range m).foldl (fun b q => stepB φ b [0, 0 + 1 + (q + 1)]) (stepB φ b [0, 1]) := fun b => by
    unfold rowP
    rw [List.range_succ_eq_map, List.foldl_cons, List.foldl_map]
  rw [e0, e0]
  congr 1
  show rowP φ 0 [0, 1] (m + 1) = rowP φ 0 [] (m + 1)
  rw [e1, e1]
  congr 1
  unfold stepB
  rw [if_neg (by simp), if_pos (.inl rfl)]
/-- A pair's dispersion. -/
theorem disp_pair {d : List (List Int)} (h : Grd d) {a b : Nat} (ha : a < d.length) (hb : b < d.length) : dispT d [a, b] = cel d a b := by
  have e : dispT d [a, b] = min 198 (cel d b a) := rfl
  have h1 := (h.bound a b).2
  rw [e, h.sym hb ha]; omega

/-- The place that is taken next. -/
def pickS (d : List (List Int)) (L : List Nat) (b : Int) (x : Nat) : Int := if x ∈ L then b else if b < 0 ∨ gapF d x 198 L > gapF d b.toNat 198 L then (x : Int) else b
def pickF (d : List (List Int)) (L : List Nat) (k : Nat) : Int := (List.range k).foldl (pickS d L) (-1)
theorem pickF_zero (d : List (List Int)) (L : List Nat) : pickF d L 0 = -1 := rfl
theorem pickF_step (d : List (List Int)) (L : List Nat) (k : Nat) : pickF d L (k + 1) = pickS d L (pickF d L k) k := by unfold pickF; rw [List.range_succ, List.foldl_append]; rfl
theorem pickF_some (d : List (List Int)) (L : List Nat) : ∀ k, (pickF d L k = -1 ∧ ∀ x, x < k → x ∈ L) ∨ (∃ m : Nat, pickF d L k = m ∧ m < k ∧ m ∉ L)
  | 0 => .inl ⟨rfl, fun x hx => absurd hx (by omega)⟩
  | k + 1 => by
    rw [pickF_step]
    unfold pickS
    by_cases hk : k ∈ L
    · rw [if_pos hk]
      rcases pickF_some d L k with ⟨h1, h2⟩ | ⟨m, h1, h2, h3⟩
      · exact .inl ⟨h1, fun x hx => by rcases Nat.lt_or_ge x k with q | q; exact h2 x q; rw [show x = k by omega]; exact hk⟩
      · exact .inr ⟨m, h1, by omega, h3⟩
    · rw [if_neg hk]
      split
      · exact .inr ⟨k, rfl, by omega, hk⟩
      · next hc =>
        rcases pickF_some d L k with ⟨h1, h2⟩ | ⟨m, h1, h2, h3⟩
        · exact absurd (.inl (by rw [h1]; decide)) hc
        · exact .inr ⟨m, h1, by omega, h3⟩
theorem pickF_next {d : List (List Int)} {L : List Nat} {n : Nat} (hl : L.length < n) : ∃ m : Nat, pickF d L n = m ∧ m < n ∧ m ∉ L := by
  rcases pickF_some d L n with ⟨_, h2⟩ | h
  · have := nodup_len (List.range n) L List.nodup_range fun x hx => h2 x (List.mem_range.1 hx)
    rw [List.length_range] at this; omega
  · exact h
/-- The places that are taken. -/
def farP (d : List (List Int)) (n : Nat) (L : List Nat) : Nat → List Nat
  | 0 => L
  | k + 1 => farP d n L k ++ [(pickF d (farP d n L k) n).toNat]
theorem gapF_bound {d : List (List Int)} (h : Grd d) (x : Nat) : ∀ (L : List Nat) (s : Int), 0 ≤ s → 0 ≤ gapF d x s L ∧ gapF d x s L ≤ s
  | [], s, h0 => ⟨h0, Int.le_refl _⟩
  | b :: L, s, h0 => by
    have h1 := (h.bound x b).1
    have := gapF_bound h x L (min s (cel d x b)) (by omega)
    have e : gapF d x s (b :: L) = gapF d x (min s (cel d x b)) L := rfl
    rw [e]; omega
theorem farP_len (d : List (List Int)) (n : Nat) (L : List Nat) : ∀ k, (farP d n L k).length = L.length + k
  | 0 => rfl
  | k + 1 => by rw [farP, List.length_append, farP_len d n L k]; simp; omega
theorem farP_lt {d : List (List Int)} {n : Nat} {L : List Nat} (hL : ∀ m ∈ L, m < n) : ∀ k, L.length + k ≤ n → ∀ m ∈ farP d n L k, m < n
  | 0, _ => hL
  | k + 1, hk => fun m hm => by
    rw [farP] at hm
    rcases List.mem_append.1 hm with hm | hm
    · exact farP_lt hL k (by omega) m hm
    · rw [List.mem_singleton] at hm
      obtain ⟨q, h1, h2, _⟩ := pickF_next (d := d) (L := farP d n L k) (n := n) (by rw [farP_len]; omega)
      rw [hm, h1]; exact h2
end Go.Proofs.Ytddnadipleknoaa
