/- Plain facts of the sets of sites in their order: the next set of as many sites, and the sets that the model sorts. No condition. -/
import Derived.Test.YtifgmbljimfebaaPlainServe
namespace Go.Proofs.Ytifgmbljimfebaa.E8

/-- The last place, of the first i, at which a set of n sites can go on. -/
def atFrom (n : Nat) (T : List Nat) : Nat → Option Nat
  | 0 => none
  | i + 1 => if T.getD i 0 + T.length = n + i then atFrom n T i else some i
/-- A set that goes on at a place. -/
def goOn (T : List Nat) (i : Nat) : List Nat := T.take i ++ (List.range (T.length - i)).map fun j => T.getD i 0 + 1 + j
def nextT (n : Nat) (T : List Nat) : Option (List Nat) := (atFrom n T T.length).map (goOn T)
def combsF (n : Nat) : Nat → List Nat → List (List Nat)
  | 0, T => [T]
  | f + 1, T => T :: (match nextT n T with | none => [] | some U => combsF n f U)
/-- All sets of k of n sites, in order. -/
def combs (n k : Nat) : List (List Nat) := combsF n 80 (List.range k)
/-- A list of sets of which each one is the next of the one before, up to the last. -/
def chainB (n : Nat) : List (List Nat) → Bool
  | [] => false
  | [T] => nextT n T == none
  | T :: U :: r => nextT n T == some U && chainB n (U :: r)
def combsOk (n k : Nat) : Bool := chainB n (combs n k) && ((combs n k).head? == some (List.range k) && ((combs n k).all (fun T => T.length == k && T.all (fun x => decide (x < n))) && decide ((combs n k).length ≤ 70)))
def upTo7 (p : Nat → Nat → Bool) : Bool := (List.range 9).all fun n => (List.range 9).all fun k => !(decide (1 ≤ k) && decide (k ≤ n)) || p n k
theorem upTo7_at {p : Nat → Nat → Bool} (h : upTo7 p = true) {n k : Nat} (hn : n ≤ 8) (h1 : 1 ≤ k) (hk : k ≤ n) : p n k = true := by
  have h2 := List.all_eq_true.1 (List.all_eq_true.1 h n (List.mem_range.2 (by omega))) k (List.mem_range.2 (by omega))
  simpa [h1, hk] using h2
theorem combs_ok7 : upTo7 combsOk = true := by decide +kernel
theorem combs_ok {n k : Nat} (hn : n ≤ 8) (h1 : 1 ≤ k) (hk : k ≤ n) : chainB n (combs n k) = true ∧ (combs n k).head? = some (List.range k) ∧ (∀ T ∈ combs n k, T.length = k ∧ ∀ x ∈ T, x < n) ∧ (combs n k).length ≤ 70 := by
  have h := upTo7_at combs_ok7 hn h1 hk
  simp only [combsOk, Bool.and_eq_true, beq_iff_eq, decide_eq_true_eq] at h
  refine ⟨h.1, h.2.1, fun T hT => ?_, h.2.2.2⟩
  have := List.all_eq_true.1 h.2.2.1 T hT
  simp only [Bool.and_eq_true, beq_iff_eq, List.all_eq_true, decide_eq_true_eq] at this
  exact this
theorem chain_at (n : Nat) : ∀ (L : List (List Nat)) (j : Nat) (h : j < L.length), chainB n L = true → nextT n L[j] = L[j + 1]?
  | [], j, h, _ => absurd h (Nat.not_lt_zero _)
  | [T], j, h, hc => by
    have : j = 0 := by simpa using h
    subst this
    simpa [chainB] using hc
  | T :: U :: r, 0, _, hc => by
    simp only [chainB, Bool.and_eq_true, beq_iff_eq] at hc
    simpa using hc.1
  | T :: U :: r, j + 1, h, hc => by
    simp only [chainB, Bool.and_eq_true] at hc
    simpa using chain_at n (U :: r) j (by simpa using h) hc.2

/-- The numbers below n whose binary digits in a code are 1. -/
def bitsT (n c : Nat) : List Nat := (List.range n).filter fun x => c.testBit x
/-- One set comes before another one. -/
def lexB : List Nat → List Nat → Bool
  | a :: r, b :: s => if a = b then lexB r s else decide (a < b)
  | _, _ => false
def beforeT (a b : List Nat) : Bool := if a.length = b.length then lexB a b else decide (a.length < b.length)
/-- The place at which a set is put, from the place k on downwards. -/
def placeT (T : List Nat) (L : List (List Nat)) : Nat → Nat
  | 0 => 0
  | k + 1 => if beforeT T (L.getD k []) then placeT T L k else k + 1
def putT (L : List (List Nat)) (T : List Nat) : List (List Nat) := L.take (placeT T L L.length) ++ T :: L.drop (placeT T L L.length)
/-- The sets of the codes 1 up to c. -/
def setsTo (n c : Nat) : List (List Nat) := (List.range c).foldl (fun L i => putT L (bitsT n (i + 1))) []
def allSets (n : Nat) : List (List Nat) := (List.range n).flatMap fun k => combs n (k + 1)
theorem setsTo_step (n c : Nat) : setsTo n (c + 1) = putT (setsTo n c) (bitsT n (c + 1)) := by unfold setsTo; rw [List.range_succ, List.foldl_append]; rfl
/-- The same list from its end: a set is put where the first one stands that does not come behind it. -/
def putR : List (List Nat) → List Nat → List (List Nat)
  | [], T => [T]
  | x :: r, T => if beforeT T x then x :: putR r T else T :: x :: r
theorem place_snoc (T x : List Nat) (l : List (List Nat)) : ∀ k, k ≤ l.length → placeT T (l ++ [x]) k = placeT T l k
  | 0, _ => rfl
  | k + 1, h => by
    have e : (l ++ [x]).getD k [] = l.getD k [] := by rw [List.getD_eq_getElem?_getD, List.getD_eq_getElem?_getD, List.getElem?_append_left (by omega)]
    simp only [placeT, e, place_snoc T x l k (by omega)]
theorem place_le (T : List Nat) (l : List (List Nat)) : ∀ k, placeT T l k ≤ k
  | 0 => Nat.le_refl _
  | k + 1 => by unfold placeT; split; exact Nat.le_succ_of_le (place_le T l k); exact Nat.le_refl _
theorem putT_snoc (l : List (List Nat)) (x T : List Nat) : putT (l ++ [x]) T = if beforeT T x then putT l T ++ [x] else l ++ [x] ++ [T] := by
  unfold putT
  have e1 : placeT T (l ++ [x]) (l ++ [x]).length = if beforeT T x then placeT T l l.length else l.length + 1 := by
    rw [List.length_append, List.length_singleton]
    have e : (l ++ [x]).getD l.length [] = x := by rw [List.getD_eq_getElem?_getD, List.getElem?_append_right (Nat.le_refl _)]; simp
    simp only [placeT, e, place_snoc T x l l.length (Nat.le_refl _)]
  rw [e1]
  by_cases h : beforeT T x = true
  · have hp := place_le T l l.length
    rw [if_pos h, if_pos h, List.take_append_of_le_length hp, List.drop_append_of_le_length hp, List.append_assoc]; rfl
  · rw [if_neg h, if_neg h, List.take_of_length_le (by simp), List.drop_of_length_le (by simp)]
theorem putT_rev (T : List Nat) : ∀ r : List (List Nat), putT r.reverse T = (putR r T).reverse
  | [] => rfl
  | x :: r => by
    rw [List.reverse_cons, putT_snoc, putT_rev T r]
    by_cases h : beforeT T x = true
    · rw [if_pos h, show putR (x :: r) T = x :: putR r T by simp [putR, h]]; simp
    · rw [if_neg h, show putR (x :: r) T = T :: x :: r by simp [putR, h]]; simp
def setsR (n c : Nat) : List (List Nat) := (List.range c).foldl (fun L i => putR L (bitsT n (i + 1))) []
theorem setsR_step (n c : Nat) : setsR n (c + 1) = putR (setsR n c) (bitsT n (c + 1)) := by unfold setsR; rw [List.range_succ, List.foldl_append]; rfl
theorem setsTo_R (n : Nat) : ∀ c, setsTo n c = (setsR n c).reverse
  | 0 => rfl
  | c + 1 => by rw [setsTo_step, setsR_step, setsTo_R n c, putT_rev]
set_option maxHeartbeats 4000000 in
theorem sets_allR : ∀ n ≤ 8, setsR n (2 ^ n - 1) = (allSets n).reverse := by decide +kernel
theorem sets_all : ∀ n ≤ 8, setsTo n (2 ^ n - 1) = allSets n := fun n hn => by rw [setsTo_R, sets_allR n hn, List.reverse_reverse]
theorem sets_some7 : upTo7 (fun n k => (allSets n).filter (fun T => T.length == k) == combs n k) = true := by decide +kernel
theorem sets_some {n k : Nat} (hn : n ≤ 8) (h1 : 1 ≤ k) (hk : k ≤ n) : (allSets n).filter (fun T => T.length == k) = combs n k := by
  have h := upTo7_at sets_some7 hn h1 hk
  simpa using h
theorem sets_good : ∀ n ≤ 8, (allSets n).all (fun T => decide (0 < T.length) && T.all (fun x => decide (x < n))) = true ∧ (allSets n).length ≤ 255 := by decide +kernel
end Go.Proofs.Ytifgmbljimfebaa.E8
