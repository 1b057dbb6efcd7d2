/- The contracts of the model's l1Stands: whether a byte stands in a text. Condition: the text has at most 1048576 bytes. -/
import Derived.Test.YtfjnfgeielgihaaDoorRows
import Derived.Test.YtfjnfgeielgihaaDoorPlainHas
import Derived.WalkKit
import Derived.WalkSpells
import Derived.Lib.Hide
namespace Go.Proofs.YtfjnfgeielgihaaDoor
open Go.RowKit

theorem byte_ne {a c : UInt8} (h : a ≠ c) : ((a.toNat : Int) == (c.toNat : Int)) = false := by
  apply beq_false_of_ne; intro e; exact h (UInt8.toNat_inj.1 (by omega))
theorem byte_eq {a c : UInt8} (h : a = c) : ((a.toNat : Int) == (c.toNat : Int)) = true := by subst h; simp

set_option maxHeartbeats 400000 in
theorem stands_no (s : ByteArray) (c : UInt8) (w : World) (hs : s.size ≤ 1048576) (h : hasB s c = false) :
    Calls Tryd.prog 33 #[.string s, .int .u8 c.toNat] w fun e w' => e = .returned (.bool false) ∧ w' = w := by
  have H := Lib.hid h
  clear h
  go_enter Tryd.func33, Tryd.ntmps33
  go_wp2
  go_loop [5] (fun i => ∃ k : Nat, k ≤ s.size ∧ i = .int .i64 k) (fun i => s.size - (intOf i).toNat)
  case atStart => exact ⟨0, Nat.zero_le _, rfl⟩
  case round =>
    obtain ⟨k, hk, rfl⟩ := hrel
    by_cases hlt : k < s.size
    · have ht := byte_ne (hasB_no H.out k hlt)
      go_wp2
      go_round
      case rel => exact ⟨k + 1, by omega, by go_num⟩
      case measure => simp [intOf]; omega
    · go_wp2
      go_ret
      exact ⟨rfl, rfl⟩

set_option maxHeartbeats 400000 in
theorem stands_yes (s : ByteArray) (c : UInt8) (w : World) (hs : s.size ≤ 1048576) (h : hasB s c = true) :
    Calls Tryd.prog 33 #[.string s, .int .u8 c.toNat] w fun e w' => e = .returned (.bool true) ∧ w' = w := by
  obtain ⟨p, hp, hpe, hmin⟩ := hasB_yes h
  have HM := Lib.hid hmin
  have HE := Lib.hid hpe
  clear h hpe hmin
  go_enter Tryd.func33, Tryd.ntmps33
  go_wp2
  go_loop [5] (fun i => ∃ k : Nat, k ≤ p ∧ i = .int .i64 k) (fun i => s.size - (intOf i).toNat)
  case atStart => exact ⟨0, Nat.zero_le _, rfl⟩
  case round =>
    obtain ⟨k, hk, rfl⟩ := hrel
    have hlt : k < s.size := by omega
    by_cases hkp : k < p
    · have ht := byte_ne (HM.out k hkp)
      go_wp2
      go_round
      case rel => exact ⟨k + 1, by omega, by go_num⟩
      case measure => simp [intOf]; omega
    · obtain rfl : k = p := by omega
      have ht := byte_eq HE.out
      go_wp2
      go_ret
      exact ⟨rfl, rfl⟩

end Go.Proofs.YtfjnfgeielgihaaDoor
