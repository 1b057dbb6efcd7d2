/- Tables of a number for each set: plain. No condition. -/
import Derived.Test.YtmddijibplkngaaPlainServe
import Derived.Laws.BitsLemmas
import Derived.Lib.Slices
namespace Go.Proofs.Ytmddijibplkngaa

def numB (x : Int) : Bool := decide (-1000000 ≤ x) && decide (x ≤ 1000000)
theorem numB_iff {x : Int} : numB x = true ↔ -1000000 ≤ x ∧ x ≤ 1000000 := by unfold numB; simp
/-- A table for n. -/
def tabB (n : Int) (l : List Int) : Bool := (decide (0 ≤ n) && decide (n ≤ 7)) && (decide (l.length = 2 ^ n.toNat) && l.all numB)
theorem tabB_nat {n : Int} {l : List Int} (h : tabB n l = true) : ∃ m : Nat, n = m ∧ m ≤ 7 ∧ l.length = 2 ^ m ∧ ∀ x ∈ l, -1000000 ≤ x ∧ x ≤ 1000000 := by
  unfold tabB at h
  simp only [Bool.and_eq_true, decide_eq_true_eq] at h
  obtain ⟨⟨h0, h1⟩, h2, h3⟩ := h
  exact ⟨n.toNat, by omega, by omega, h2, fun x hx => numB_iff.1 (List.all_eq_true.1 h3 x hx)⟩
theorem allIn {p : Nat → Bool} {n : Nat} (h : ∀ i, i < n → p i = true) : (List.range n).all p = true := List.all_eq_true.2 fun i hi => h i (List.mem_range.1 hi)
theorem allOut {p : Nat → Bool} {n i : Nat} (hi : i < n) (h : p i = false) : (List.range n).all p = false := by
  rw [Bool.eq_false_iff]; intro hc; rw [List.all_eq_true.1 hc i (List.mem_range.2 hi)] at h; cases h
theorem allGet {p : Nat → Bool} {n : Nat} (h : (List.range n).all p = true) {i : Nat} (hi : i < n) : p i = true := List.all_eq_true.1 h i (List.mem_range.2 hi)
/-- Something holds for any two places. -/
def pairsB (L : Nat) (p : Nat → Nat → Bool) : Bool := (List.range L).all fun a => (List.range L).all fun b => p a b
theorem pairs_out {L a b : Nat} {p : Nat → Nat → Bool} (ha : a < L) (hb : b < L) (h : p a b = false) : pairsB L p = false := allOut ha (allOut hb h)
theorem pairs_in {L : Nat} {p : Nat → Nat → Bool} (h : ∀ a, a < L → ∀ b, b < L → p a b = true) : pairsB L p = true := allIn fun a ha => allIn fun b hb => h a ha b hb
theorem pairs_get {L : Nat} {p : Nat → Nat → Bool} (h : pairsB L p = true) {a b : Nat} (ha : a < L) (hb : b < L) : p a b = true := allGet (allGet h ha) hb
def mono1 (l : List Int) (a b : Nat) : Bool := decide (l.getD (a &&& b) 0 ≤ l.getD a 0)
def mono2 (l : List Int) (a b : Nat) : Bool := !(decide (a &&& b = a) && decide (l.getD a 0 > l.getD b 0))
def sub1 (l : List Int) (a b : Nat) : Bool := decide (l.getD a 0 + l.getD b 0 ≥ l.getD (a &&& b) 0 + l.getD (a ||| b) 0)
theorem mono_same (l : List Int) : pairsB l.length (mono2 l) = pairsB l.length (mono1 l) := by
  rw [Bool.eq_iff_iff]
  constructor
  · intro h
    refine pairs_in fun a ha b hb => ?_
    have hc : a &&& b < l.length := Nat.lt_of_le_of_lt Nat.and_le_left ha
    have := pairs_get h hc ha
    unfold mono2 at this
    rw [show (a &&& b) &&& a = a &&& b by rw [Nat.and_comm (a &&& b) a, ← Nat.and_assoc, Nat.and_self]] at this
    simp at this
    unfold mono1
    simp; exact this
  · intro h
    refine pairs_in fun a ha b hb => ?_
    have := pairs_get h hb ha
    unfold mono1 at this
    unfold mono2
    by_cases e : a &&& b = a
    · rw [Nat.and_comm, e] at this
      simp at this
      simp; exact .inr this
    · simp [e]
theorem foldl_min : ∀ (l : List Int) (b : Int), l.foldl min b ≤ b ∧ (∀ x ∈ l, l.foldl min b ≤ x) ∧ (l.foldl min b = b ∨ l.foldl min b ∈ l)
  | [], b => ⟨Int.le_refl _, by simp, .inl rfl⟩
  | a :: l, b => by
    obtain ⟨h1, h2, h3⟩ := foldl_min l (min b a)
    rw [List.foldl_cons]
    refine ⟨by omega, fun x hx => ?_, ?_⟩
    · rcases List.mem_cons.1 hx with rfl | hx
      · omega
      · exact h2 x hx
    · rcases h3 with h3 | h3
      · by_cases hba : b ≤ a
        · exact .inl (by omega)
        · exact .inr (by rw [h3, show min b a = a by omega]; exact List.mem_cons_self ..)
      · exact .inr (List.mem_cons_of_mem _ h3)
theorem foldl_max : ∀ (l : List Int) (b : Int), b ≤ l.foldl max b ∧ (∀ x ∈ l, x ≤ l.foldl max b) ∧ (l.foldl max b = b ∨ l.foldl max b ∈ l)
  | [], b => ⟨Int.le_refl _, by simp, .inl rfl⟩
  | a :: l, b => by
    obtain ⟨h1, h2, h3⟩ := foldl_max l (max b a)
    rw [List.foldl_cons]
    refine ⟨by omega, fun x hx => ?_, ?_⟩
    · rcases List.mem_cons.1 hx with rfl | hx
      · omega
      · exact h2 x hx
    · rcases h3 with h3 | h3
      · by_cases hba : a ≤ b
        · exact .inl (by omega)
        · exact .inr (by rw [h3, show max b a = a by omega]; exact List.mem_cons_self ..)
      · exact .inr (List.mem_cons_of_mem _ h3)
theorem mn_le {l : List Int} {x : Int} (h : x ∈ l) : Lib.minOf l ≤ x := (foldl_min l _).2.1 x h
theorem mn_mem {l : List Int} (h : 0 < l.length) : Lib.minOf l ∈ l := by
  rcases (foldl_min l (l.headD 0)).2.2 with e | e
  · cases l with
    | nil => simp at h
    | cons a l => unfold Lib.minOf; rw [e]; exact List.mem_cons_self ..
  · exact e
theorem mx_ge {l : List Int} {x : Int} (h : x ∈ l) : x ≤ Lib.maxOf l := (foldl_max l _).2.1 x h
theorem mx_mem {l : List Int} (h : 0 < l.length) : Lib.maxOf l ∈ l := by
  rcases (foldl_max l (l.headD 0)).2.2 with e | e
  · cases l with
    | nil => simp at h
    | cons a l => unfold Lib.maxOf; rw [e]; exact List.mem_cons_self ..
  · exact e
theorem nums_ends {l : List Int} (h : 0 < l.length) : l.all numB = (decide (-1000000 ≤ Lib.minOf l) && decide (Lib.maxOf l ≤ 1000000)) := by
  rw [Bool.eq_iff_iff, List.all_eq_true, Bool.and_eq_true, decide_eq_true_eq, decide_eq_true_eq]
  constructor
  · intro hc
    exact ⟨(numB_iff.1 (hc _ (mn_mem h))).1, (numB_iff.1 (hc _ (mx_mem h))).2⟩
  · rintro ⟨h1, h2⟩ x hx
    exact numB_iff.2 ⟨Int.le_trans h1 (mn_le hx), Int.le_trans (mx_ge hx) h2⟩
/-- The operations on places. -/
theorem wrap_i64_small (n : Int) (h0 : 0 ≤ n) (h1 : n < 2 ^ 8) : IntKind.i64.wrap n = n := by rw [IntKind.wrap_i64]; omega
theorem and_place {a b : Nat} (ha : a < 256) (hb : b < 256) : bits BinOp.and IntKind.i64 (a : Int) (b : Int) = ((a &&& b : Nat) : Int) := (bits_nat .i64 8 (by decide) wrap_i64_small a b ha hb).1
theorem or_place {a b : Nat} (ha : a < 256) (hb : b < 256) : bits BinOp.or IntKind.i64 (a : Int) (b : Int) = ((a ||| b : Nat) : Int) := (bits_nat .i64 8 (by decide) wrap_i64_small a b ha hb).2
theorem and_in {a b m : Nat} (ha : a < 2 ^ m) : a &&& b < 2 ^ m := Nat.lt_of_le_of_lt Nat.and_le_left ha
theorem or_in {a b m : Nat} (ha : a < 2 ^ m) (hb : b < 2 ^ m) : a ||| b < 2 ^ m := Nat.or_lt_two_pow ha hb
end Go.Proofs.Ytmddijibplkngaa
