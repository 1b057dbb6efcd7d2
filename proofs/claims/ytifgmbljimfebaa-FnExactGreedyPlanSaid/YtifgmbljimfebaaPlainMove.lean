/- Plain mathematics of moves: their cost, site by site and as sums over sets. No condition. -/
import Derived.Test.YtifgmbljimfebaaPlainServe
import Derived.Test.YtifgmbljimfebaaPlainSea
namespace Go.Proofs.Ytifgmbljimfebaa

/-- The sites of a set that another one has not. -/
def lessT (T B : List Nat) : List Nat := T.filter fun a => !decide (a ∈ B)
theorem less_mem {T B : List Nat} {a : Nat} : a ∈ lessT T B ↔ a ∈ T ∧ a ∉ B := by unfold lessT; rw [List.mem_filter]; simp
theorem less_lt {T B : List Nat} {n : Nat} (h : ∀ m ∈ T, m < n) : ∀ m ∈ lessT T B, m < n := fun m hm => h m (less_mem.1 hm).1
theorem less_nodup {T B : List Nat} (h : T.Nodup) : (lessT T B).Nodup := h.sublist List.filter_sublist
theorem less_len (T B : List Nat) : (lessT T B).length ≤ T.length := List.length_filter_le _ _

theorem up_rises (n : Int) : ∀ (T : List Nat) (lo : Int), rise n lo (up T) = true → (∀ m ∈ T, lo < (m : Int)) ∧ T.Pairwise (· < ·)
  | [], lo, _ => ⟨by simp, List.Pairwise.nil⟩
  | x :: r, lo, h => by
    simp only [up, List.map_cons, rise, Bool.and_eq_true, decide_eq_true_eq] at h
    obtain ⟨h1, h2⟩ := up_rises n r (x : Int) h.2
    refine ⟨fun m hm => ?_, List.pairwise_cons.2 ⟨fun m hm => by have := h1 m hm; omega, h2⟩⟩
    rcases List.mem_cons.1 hm with hm | hm
    · subst hm; exact h.1.1
    · have := h1 m hm; omega
theorem set_nodup {n : Nat} {T : List Nat} (h : setB n (up T) = true) : T.Nodup := (up_rises n T (-1) h).2.imp fun h => Nat.ne_of_lt h

/-- A sum over the first sites. -/
def sumN (f : Nat → Int) (n : Nat) : Int := ((List.range n).map f).sum
theorem sumN_succ (f : Nat → Int) (n : Nat) : sumN f (n + 1) = sumN f n + f n := by unfold sumN; rw [List.range_succ, List.map_append, List.sum_append]; simp
theorem sumN_add (f g : Nat → Int) : ∀ n, sumN (fun a => f a + g a) n = sumN f n + sumN g n
  | 0 => by simp [sumN]
  | n + 1 => by rw [sumN_succ, sumN_succ, sumN_succ, sumN_add f g n]; omega
theorem sumN_zero (f : Nat → Int) : ∀ n, (∀ a, a < n → f a = 0) → sumN f n = 0
  | 0, _ => by simp [sumN]
  | n + 1, h => by rw [sumN_succ, sumN_zero f n fun a ha => h a (by omega), h n (by omega)]; rfl
theorem sumN_one (x : Int) (m : Nat) : ∀ n, m < n → sumN (fun a => if a = m then x else 0) n = x
  | 0, h => by omega
  | n + 1, h => by
    rw [sumN_succ]
    by_cases e : n = m
    · subst e
      rw [sumN_zero _ n fun a ha => by simp [Nat.ne_of_lt ha]]; simp
    · rw [sumN_one x m n (by omega)]; simp [e]
theorem sumN_congr {f g : Nat → Int} : ∀ n, (∀ a, a < n → f a = g a) → sumN f n = sumN g n
  | 0, _ => rfl
  | n + 1, h => by rw [sumN_succ, sumN_succ, sumN_congr n fun a ha => h a (by omega), h n (by omega)]
/-- A sum over a set is one over all sites. -/
theorem sum_set (f : Nat → Int) (n : Nat) : ∀ U : List Nat, U.Nodup → (∀ m ∈ U, m < n) → sumN (fun a => if a ∈ U then f a else 0) n = (U.map f).sum
  | [], _, _ => by rw [sumN_zero _ n fun a _ => by simp]; rfl
  | u :: U, hn, hb => by
    obtain ⟨h1, h2⟩ := List.nodup_cons.1 hn
    rw [List.map_cons, List.sum_cons, ← sum_set f n U h2 fun m hm => hb m (List.mem_cons_of_mem _ hm), ← sumN_one (f u) u n (hb u List.mem_cons_self), ← sumN_add]
    refine sumN_congr n fun a _ => ?_
    by_cases e : a = u
    · subst e; simp [h1]
    · simp [e]
/-- The cost of a move from B to T, with the clients of the round. -/
def moveC (o x k : List Int) (d : List (List Int)) (B T : List Nat) : Int :=
  (pays o (lessT T B)).sum + (pays x (lessT B T)).sum + (pays k T).sum + (lens d T).sum
/-- What a site adds. -/
def siteC (o x k : List Int) (B T : List Nat) (a : Nat) : Int :=
  (if a ∈ T then k.getD a 0 else 0) + (if a ∈ T ∧ a ∉ B then o.getD a 0 else 0) + (if a ∈ B ∧ a ∉ T then x.getD a 0 else 0)
theorem move_sites (o x k : List Int) (d : List (List Int)) {B T : List Nat} {n : Nat} (hB : B.Nodup) (hT : T.Nodup) (lB : ∀ m ∈ B, m < n) (lT : ∀ m ∈ T, m < n) :
    (lens d T).sum + sumN (siteC o x k B T) n = moveC o x k d B T := by
  have h1 := sum_set (fun a => k.getD a 0) n T hT lT
  have h2 := sum_set (fun a => o.getD a 0) n (lessT T B) (less_nodup hT) (less_lt lT)
  have h3 := sum_set (fun a => x.getD a 0) n (lessT B T) (less_nodup hB) (less_lt lB)
  have e : sumN (siteC o x k B T) n = sumN (fun a => if a ∈ T then k.getD a 0 else 0) n + sumN (fun a => if a ∈ lessT T B then o.getD a 0 else 0) n + sumN (fun a => if a ∈ lessT B T then x.getD a 0 else 0) n := by
    rw [← sumN_add, ← sumN_add]
    refine sumN_congr n fun a _ => ?_
    unfold siteC
    simp only [less_mem]
  rw [e, h1, h2, h3]
  unfold moveC pays
  omega
theorem getD99 {l : List Int} (h : l.all (upTo 99) = true) (k : Nat) : 0 ≤ l.getD k 0 ∧ l.getD k 0 ≤ 99 := getD_bound (fun x hx => upTo_iff.1 (List.all_eq_true.1 h x hx)) k
theorem siteC_bound {o x k : List Int} (ho : o.all (upTo 99) = true) (hx : x.all (upTo 99) = true) (hk : k.all (upTo 99) = true) (B T : List Nat) (a : Nat) : 0 ≤ siteC o x k B T a ∧ siteC o x k B T a ≤ 198 := by
  have h1 := getD99 ho a
  have h2 := getD99 hx a
  have h3 := getD99 hk a
  unfold siteC
  generalize o.getD a 0 = p at h1 ⊢
  generalize x.getD a 0 = q at h2 ⊢
  generalize k.getD a 0 = r at h3 ⊢
  by_cases e1 : a ∈ T <;> by_cases e2 : a ∈ B <;> simp [e1, e2] <;> omega
theorem sumN_bound {f : Nat → Int} {c : Int} (h : ∀ a, 0 ≤ f a ∧ f a ≤ c) : ∀ n : Nat, 0 ≤ sumN f n ∧ sumN f n ≤ c * n
  | 0 => by simp [sumN]
  | n + 1 => by
    have h1 := sumN_bound h n
    have h2 := h n
    rw [sumN_succ]
    have : c * ((n + 1 : Nat) : Int) = c * n + c := by push_cast; rw [Int.mul_add, Int.mul_one]
    omega
/-- What validity says of the parts. -/
theorem sea_costs {o x k : List Int} {r : List (List (List Int))} (h : seaB o x k r = true) :
    (1 ≤ o.length ∧ o.length ≤ 5) ∧ (o.all (upTo 99) = true ∧ x.all (upTo 99) = true ∧ k.all (upTo 99) = true) ∧ (x.length = o.length ∧ k.length = o.length) ∧ r.length ≤ 5 ∧ ∀ d ∈ r, d.length ≤ 5 ∧ d.all (rowB o.length) = true := by
  obtain ⟨h1, h2, h3, h4, h5, h6, h7⟩ := seaB_iff.1 h
  rw [rowB_iff] at h3 h4 h5
  exact ⟨⟨h1, h2⟩, ⟨h3.1, h4.1, h5.1⟩, ⟨h4.2, h5.2⟩, h6, fun d hd => roundB_iff.1 (List.all_eq_true.1 h7 d hd)⟩
theorem good_costs {l : List Int} (h1 : 1 ≤ l.length) (h2 : l.length ≤ 5) (h3 : l.all (upTo 99) = true) : goodB l [] = true := goodB_iff.2 ⟨h1, by omega, h3, by simp, rfl⟩
theorem good_round {l : List Int} {d : List (List Int)} (h1 : 1 ≤ l.length) (h2 : l.length ≤ 5) (h3 : l.all (upTo 99) = true) (h4 : d.length ≤ 5) (h5 : d.all (rowB l.length) = true) : goodB l d = true := goodB_iff.2 ⟨h1, by omega, h3, by omega, h5⟩
theorem has_upT (T : List Nat) (k : Nat) : (up T).contains (k : Int) = decide (k ∈ T) := by
  unfold up
  rw [Bool.eq_iff_iff, List.contains_iff_mem, List.mem_map, decide_eq_true_eq]
  constructor
  · rintro ⟨m, hm, e⟩
    have : m = k := by omega
    subst this; exact hm
  · intro h; exact ⟨k, h, rfl⟩
theorem less_up (T B : List Nat) : (up T).filter (fun x => !(up B).contains x) = up (lessT T B) := by
  unfold lessT
  induction T with
  | nil => rfl
  | cons t T ih =>
    have e : up (t :: T) = (t : Int) :: up T := rfl
    rw [e, List.filter_cons, List.filter_cons, has_upT, ih]
    by_cases h : t ∈ B <;> simp [h, up]

end Go.Proofs.Ytifgmbljimfebaa
