/- The contracts of the model's checksum loop and of both Checksum functions: each returns the plain checksum, or 0 and false where the text has more than 4000 bytes. Condition: the text's size fits. -/
import Derived.Test.YtfjnfgeielgihaaDoorRows
import Derived.Test.YtfjnfgeielgihaaDoorSum
import Derived.WalkKit
import Derived.WalkSpells
import Derived.Lib.Hide
namespace Go.Proofs.YtfjnfgeielgihaaDoor
open Go.RowKit

set_option maxHeartbeats 400000 in
theorem implChecksum_any (s : ByteArray) (w : World) (hs : s.size ≤ 4000) :
    Calls Tryd.prog 31 #[.string s] w fun e w' => e = .returned (.tuple #[.int .i64 (hsh s.data.toList), .bool true]) ∧ w' = w := by
  have h1 : ¬ ((4000 : Int) < s.size) := by omega
  go_enter Tryd.func31, Tryd.ntmps31
  go_wp2
  go_loop [4, 11] (fun n i => ∃ k : Nat, k ≤ s.size ∧ i = .int .i64 k ∧ n = .int .i64 (hsh (s.data.toList.take k))) (fun _ i => s.size - (intOf i).toNat)
  case atStart => exact ⟨0, Nat.zero_le _, rfl, rfl⟩
  case round =>
    obtain ⟨k, hk, rfl, rfl⟩ := hrel
    have hb := hsh_bd (s.data.toList.take k)
    obtain ⟨hb1, hb2⟩ := hb
    by_cases hlt : k < s.size
    · have HS : Hid (hsh (s.data.toList.take (k + 1)) = (41 * hsh (s.data.toList.take k) + (s[k].toNat : Int) + 1) % 999979) := Lib.hid (hsh_step s k hlt)
      have hc : (s[k].toNat : Int) ≤ 255 := by have := s[k].toNat_lt; omega
      go_wp2
      go_round
      case rel => exact ⟨k + 1, by omega, by go_num, by rw [HS.out]⟩
      case measure => simp [intOf]; omega
    · have HA : Hid (hsh (s.data.toList.take k) = hsh s.data.toList) := Lib.hid (hsh_all s k (by omega))
      go_wp2
      go_ret2
      exact ⟨ret_int_bool HA.out, rfl⟩

theorem implChecksum_long (s : ByteArray) (w : World) (hm : s.size ≤ 1048576) (hs : 4000 < s.size) :
    Calls Tryd.prog 31 #[.string s] w fun e w' => e = .returned (.tuple #[.int .i64 0, .bool false]) ∧ w' = w := by
  have h1 : ((4000 : Int) < s.size) := by omega
  go_enter Tryd.func31, Tryd.ntmps31
  go_wp2
  go_ret2
  exact ⟨rfl, rfl⟩

end Go.Proofs.YtfjnfgeielgihaaDoor
