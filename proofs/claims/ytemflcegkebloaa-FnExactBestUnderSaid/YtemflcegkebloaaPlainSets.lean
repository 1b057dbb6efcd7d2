/- Plain facts of the sets of sites in their order: the next set of as many sites, and the sets that the model sorts. No condition. -/
import Derived.Test.YtemflcegkebloaaPlainServe
namespace Go.Proofs.Ytemflcegkebloaa

/-- The last place, of the first i, at which a set of n sites can go on. -/
def atFrom (n : Nat) (T : List Nat) : Nat → Option Nat
  | 0 => none
  | i + 1 => if T.getD i 0 + T.length = n + i then atFrom n T i else some i
/-- A set that goes on at a place. -/
def goOn (T : List Nat) (i : Nat) : List Nat := T.take i ++ (List.range (T.length - i)).map fun j => T.getD i 0 + 1 + j
def nextT (n : Nat) (T : List Nat) : Option (List Nat) := (atFrom n T T.length).map (goOn T)
def combsF (n : Nat) : Nat → List Nat → List (List Nat)
  | 0, T => [T]
  | f + 1, T => T :: (match nextT n T with | none => [] | some U => combsF n f U)
/-- All sets of k of n sites, in order. -/
def combs (n k : Nat) : List (List Nat) := combsF n 40 (List.range k)
/-- A list of sets of which each one is the next of the one before, up to the last. -/
def chainB (n : Nat) : List (List Nat) → Bool
  | [] => false
  | [T] => nextT n T == none
  | T :: U :: r => nextT n T == some U && chainB n (U :: r)
def combsOk (n k : Nat) : Bool := chainB n (combs n k) && ((combs n k).head? == some (List.range k) && ((combs n k).all (fun T => T.length == k && T.all (fun x => decide (x < n))) && decide ((combs n k).length ≤ 35)))
def upTo7 (p : Nat → Nat → Bool) : Bool := (List.range 8).all fun n => (List.range 8).all fun k => !(decide (1 ≤ k) && decide (k ≤ n)) || p n k
theorem upTo7_at {p : Nat → Nat → Bool} (h : upTo7 p = true) {n k : Nat} (hn : n ≤ 7) (h1 : 1 ≤ k) (hk : k ≤ n) : p n k = true := by
  have h2 := List.all_eq_true.1 (List.all_eq_true.1 h n (List.mem_range.2 (by omega))) k (List.mem_range.2 (by omega))
  simpa [h1, hk] using h2
theorem combs_ok7 : upTo7 combsOk = true := by decide +kernel
theorem combs_ok {n k : Nat} (hn : n ≤ 7) (h1 : 1 ≤ k) (hk : k ≤ n) : chainB n (combs n k) = true ∧ (combs n k).head? = some (List.range k) ∧ (∀ T ∈ combs n k, T.length = k ∧ ∀ x ∈ T, x < n) ∧ (combs n k).length ≤ 35 := by
  have h := upTo7_at combs_ok7 hn h1 hk
  simp only [combsOk, Bool.and_eq_true, beq_iff_eq, decide_eq_true_eq] at h
  refine ⟨h.1, h.2.1, fun T hT => ?_, h.2.2.2⟩
  have := List.all_eq_true.1 h.2.2.1 T hT
  simp only [Bool.and_eq_true, beq_iff_eq, List.all_eq_true, decide_eq_true_eq] at this
  exact this
theorem chain_at (n : Nat) : ∀ (L : List (List Nat)) (j : Nat) (h : j < L.length), chainB n L = true → nextT n L[j] = L[j + 1]?
  | [], j, h, _ => absurd h (Nat.not_lt_zero _)
  | [T], j, h, hc => by
    have : j = 0 := by simpa using h
    subst this
    simpa [chainB] using hc
  | T :: U :: r, 0, _, hc => by
    simp only [chainB, Bool.and_eq_true, beq_iff_eq] at hc
    simpa using hc.1
  | T :: U :: r, j + 1, h, hc => by
    simp only [chainB, Bool.and_eq_true] at hc
    simpa using chain_at n (U :: r) j (by simpa using h) hc.2

/-- The numbers below n whose binary digits in a code are 1. -/
def bitsT (n c : Nat) : List Nat := (List.range n).filter fun x => c.testBit x
/-- One set comes before another one. -/
def lexB : List Nat → List Nat → Bool
  | a :: r, b :: s => if a = b then lexB r s else decide (a < b)
  | _, _ => false
def beforeT (a b : List Nat) : Bool := if a.length = b.length then lexB a b else decide (a.length < b.length)
/-- The place at which a set is put, from the place k on downwards. -/
def placeT (T : List Nat) (L : List (List Nat)) : Nat → Nat
  | 0 => 0
  | k + 1 => if beforeT T (L.getD k []) then placeT T L k else k + 1
def putT (L : List (List Nat)) (T : List Nat) : List (List Nat) := L.take (placeT T L L.length) ++ T :: L.drop (placeT T L L.length)
/-- The sets of the codes 1 up to c. -/
def setsTo (n c : Nat) : List (List Nat) := (List.range c).foldl (fun L i => putT L (bitsT n (i + 1))) []
def allSets (n : Nat) : List (List Nat) := (List.range n).flatMap fun k => combs n (k + 1)
theorem sets_all : ∀ n ≤ 7, setsTo n (2 ^ n - 1) = allSets n := by decide +kernel
theorem sets_some7 : upTo7 (fun n k => (allSets n).filter (fun T => T.length == k) == combs n k) = true := by decide +kernel
theorem sets_some {n k : Nat} (hn : n ≤ 7) (h1 : 1 ≤ k) (hk : k ≤ n) : (allSets n).filter (fun T => T.length == k) = combs n k := by
  have h := upTo7_at sets_some7 hn h1 hk
  simpa using h
theorem sets_good : ∀ n ≤ 7, (allSets n).all (fun T => decide (0 < T.length) && T.all (fun x => decide (x < n))) = true ∧ (allSets n).length ≤ 127 := by decide +kernel
theorem setsTo_step (n c : Nat) : setsTo n (c + 1) = putT (setsTo n c) (bitsT n (c + 1)) := by unfold setsTo; rw [List.range_succ, List.foldl_append]; rfl
end Go.Proofs.Ytemflcegkebloaa
