/- Both sides of HarmonicOf answer alike. No condition. -/
import Derived.Test.YtffjlecibpmgiaaGood
import Derived.Test.YtffjlecibpmgiaaPost
namespace Go.Proofs.Ytffjlecibpmgiaa
open Go.RowKit

/-- 840 times the sum of 1, 1/2, .. up to 1/k. -/
def harmI : Nat → Int
  | 0 => 0
  | n + 1 => harmI n + 840 / ((n : Int) + 1)
theorem harm_bound : ∀ n : Nat, n ≤ 8 → 0 ≤ harmI n ∧ harmI n ≤ 6720 := by decide +kernel
theorem part_bound : ∀ n : Nat, n < 8 → 0 ≤ 840 / ((n : Int) + 1) ∧ 840 / ((n : Int) + 1) ≤ 840 := by decide +kernel

set_option maxHeartbeats 1000000 in
theorem specHarmonicOf_any (k : Int) (w : World) (v : Int) (b : Bool) (h : (¬ (0 ≤ k ∧ k ≤ 8) ∧ v = 0 ∧ b = false) ∨ ∃ n : Nat, k = n ∧ n ≤ 8 ∧ v = harmI n ∧ b = true) :
    Calls Try.prog 29 #[.int .i64 k] w (PInt v b w) := by
  unfold PInt
  have CI := l1In_any k 0 8 w
  rcases h with ⟨h, rfl, rfl⟩ | ⟨n, rfl, hn, hv, rfl⟩
  · rw [show (decide (0 ≤ k) && decide (k ≤ 8)) = false by rw [Bool.and_eq_false_iff, decide_eq_false_iff_not, decide_eq_false_iff_not]; omega] at CI
    have C1 := Lib.hid CI
    clear CI h
    go_enter Try.func29, Try.ntmps29
    go_wp2_with fail
    refine C1.out.mono ?_
    rintro e W ⟨rfl, rfl⟩
    go_wp2
    go_ret2
    exact ⟨rfl, Below.refl _ _⟩
  · rw [show (decide ((0 : Int) ≤ n) && decide ((n : Int) ≤ 8)) = true by simp; omega] at CI
    have C1 := Lib.hid CI
    have HV := Lib.hid hv
    have hni : (n : Int) ≤ 8 := by omega
    clear CI hv
    go_enter Try.func29, Try.ntmps29
    go_wp2_with fail
    refine C1.out.mono ?_
    rintro e W ⟨rfl, rfl⟩
    go_wp2
    go_loopw [4, 5] (fun s i wr => ∃ j : Nat, j ≤ n ∧ i = .int .i64 ((j : Int) + 1) ∧ s = .int .i64 (harmI j) ∧ W = wr) (fun _ i _ => n + 1 - (intOf i).toNat)
    case atStart => exact ⟨0, Nat.zero_le _, rfl, rfl, rfl⟩
    case round =>
      obtain ⟨j, hj, rfl, rfl, rfl⟩ := hrel
      by_cases hlt : j < n
      · have hlti : (j : Int) + 1 ≤ (n : Int) := by omega
        have hb := harm_bound j (by omega)
        have hp := part_bound j (by omega)
        obtain ⟨s, hse⟩ : ∃ s, s = harmI j := ⟨_, rfl⟩
        have HST : Hid (harmI (j + 1) = s + 840 / ((j : Int) + 1)) := Lib.hid (by rw [hse]; rfl)
        have hj0 : ((j : Int) + 1) ≠ 0 := by omega
        rw [← hse]
        rw [← hse] at hb
        have e1 : -9223372036854775808 ≤ s + 840 / ((j : Int) + 1) := by omega
        have e2 : s + 840 / ((j : Int) + 1) ≤ 9223372036854775807 := by omega
        clear hse hp hb
        go_wp2
        go_roundw
        case rel => exact ⟨j + 1, by omega, by go_num, by rw [HST.out], by first | rfl | trivial⟩
        case measure => simp [intOf]; omega
      · obtain rfl : j = n := by omega
        have hlti : ¬ (j : Int) + 1 ≤ (j : Int) := by omega
        go_wp2
        go_ret2
        exact ⟨by rw [HV.out]; rfl, Below.refl _ _⟩

set_option maxHeartbeats 1000000 in
theorem implHarmonicOf_any (k : Int) (w : World) (v : Int) (b : Bool) (h : (¬ (0 ≤ k ∧ k ≤ 8) ∧ v = 0 ∧ b = false) ∨ ∃ n : Nat, k = n ∧ n ≤ 8 ∧ v = harmI n ∧ b = true) :
    Calls Try.prog 30 #[.int .i64 k] w (PInt v b w) := by
  unfold PInt
  rcases h with ⟨h, rfl, rfl⟩ | ⟨n, rfl, hn, hv, rfl⟩
  · by_cases h1 : k < 0
    · go_enter Try.func30, Try.ntmps30
      go_wp2
      go_ret2
      exact ⟨rfl, Below.refl _ _⟩
    · have h2 : 8 < k := by omega
      go_enter Try.func30, Try.ntmps30
      go_wp2
      go_ret2
      exact ⟨rfl, Below.refl _ _⟩
  · have HV := Lib.hid hv
    have hni : (n : Int) ≤ 8 := by omega
    clear hv
    go_enter Try.func30, Try.ntmps30
    go_wp2
    go_loopw [4, 5, 13] (fun s _ i wr => ∃ j : Nat, j ≤ n ∧ i = .int .i64 (j : Int) ∧ s = .int .i64 (harmI j) ∧ w = wr) (fun _ _ i _ => n - (intOf i).toNat)
    case atStart => exact ⟨0, Nat.zero_le _, rfl, rfl, rfl⟩
    case round =>
      obtain ⟨j, hj, rfl, rfl, rfl⟩ := hrel
      by_cases hlt : j < n
      · have hlti : (j : Int) < (n : Int) := by omega
        have hb := harm_bound j (by omega)
        have hp := part_bound j (by omega)
        obtain ⟨s, hse⟩ : ∃ s, s = harmI j := ⟨_, rfl⟩
        have HST : Hid (harmI (j + 1) = s + 840 / ((j : Int) + 1)) := Lib.hid (by rw [hse]; rfl)
        have hj0 : ((j : Int) + 1) ≠ 0 := by omega
        rw [← hse]
        rw [← hse] at hb
        have e1 : -9223372036854775808 ≤ s + 840 / ((j : Int) + 1) := by omega
        have e2 : s + 840 / ((j : Int) + 1) ≤ 9223372036854775807 := by omega
        clear hse hp hb
        go_wp2
        go_roundw
        case rel => exact ⟨j + 1, by omega, by go_num, by rw [HST.out], by first | rfl | trivial⟩
        case measure => simp [intOf]; omega
      · obtain rfl : j = n := by omega
        go_wp2
        go_ret2
        exact ⟨by rw [HV.out]; rfl, Below.refl _ _⟩

theorem harmonicOf_pair (k : Int) (_ : (Lit.int .i64 k).wf = true) : ∃ (v : Int) (b : Bool),
    (∀ (W : World), Calls Try.prog 29 #[.int .i64 k] W (PInt v b W)) ∧
    (∀ (W : World), Calls Try.prog 30 #[.int .i64 k] W (PInt v b W)) := by
  by_cases h : 0 ≤ k ∧ k ≤ 8
  · have h' : ∃ n : Nat, k = n ∧ n ≤ 8 ∧ harmI k.toNat = harmI n ∧ true = true := ⟨k.toNat, by omega, by omega, rfl, rfl⟩
    exact ⟨_, _, fun W => specHarmonicOf_any k W _ _ (.inr h'), fun W => implHarmonicOf_any k W _ _ (.inr h')⟩
  · exact ⟨_, _, fun W => specHarmonicOf_any k W _ _ (.inl ⟨h, rfl, rfl⟩), fun W => implHarmonicOf_any k W _ _ (.inl ⟨h, rfl, rfl⟩)⟩
end Go.Proofs.Ytffjlecibpmgiaa
