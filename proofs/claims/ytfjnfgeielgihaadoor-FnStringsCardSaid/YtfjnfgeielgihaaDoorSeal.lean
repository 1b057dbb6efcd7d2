/- The contracts of AppendChecksum, of the program and of the model, and of the model's l1Seal: the text, a mark and its checksum. Condition: the text has at most 1048576 bytes; the library's table of powers of ten reads as its text lays it. -/
import Derived.Test.YtfjnfgeielgihaaDoorRows
import Derived.Test.YtfjnfgeielgihaaDoorSum
import Derived.Test.YtfjnfgeielgihaaDoorSumImpl
import Derived.Test.YtfjnfgeielgihaaDoorStands
import Derived.Test.YtfjnfgeielgihaaDoorFmt
namespace Go.Proofs.YtfjnfgeielgihaaDoor
open Go.RowKit

/-- A text with its checksum behind a mark. -/
def sealB (s : ByteArray) : ByteArray := s ++ ⟨#[35]⟩ ++ numI (hsh s.data.toList)

theorem numI_size_le (n : Int) (h0 : 0 ≤ n) (h : n ≤ 9999999) : (numI n).size ≤ 7 := by
  obtain ⟨u, rfl⟩ : ∃ u : Nat, n = (u : Int) := ⟨n.toNat, by omega⟩
  rw [numI_nat]; exact num_size_le u (by omega)
theorem sealB_size (s : ByteArray) : (sealB s).size = s.size + 1 + (numI (hsh s.data.toList)).size := by
  unfold sealB; rw [ByteArray.size_append, ByteArray.size_append]; rfl
theorem sealB_size_le (s : ByteArray) : (sealB s).size ≤ s.size + 8 := by
  rw [sealB_size]; have b := hsh_bd s.data.toList; have := numI_size_le _ b.1 (by omega); omega

theorem add_run (a b c : ByteArray) (hc : a ++ b = c) (h : a.size + b.size ≤ 100000000) (W : World) : (Op.stringOp .add a b).run Tryd.prog W = .ok (.string c) W := by
  rw [run_string_add_sum W _ _ (by omega), hc]

set_option maxHeartbeats 400000 in
theorem l1Seal_any (s : ByteArray) (w : World) (hs : s.size ≤ 1048576) :
    Calls Tryd.prog 34 #[.string s] w fun e w' => e = .returned (.string (sealB s)) ∧ ∃ k, w' = w.drewN k := by
  have b := hsh_bd s.data.toList
  obtain ⟨b1, b2⟩ := b
  have hn := numI_size_le _ b1 (by omega)
  have hz := sealB_size s
  have c1 := add_run s { data := #[35] } (s ++ { data := #[35] }) rfl (by show s.size + 1 ≤ _; omega)
  have c2 := add_run (s ++ { data := #[35] }) (numI (hsh s.data.toList)) (sealB s) rfl (by rw [ByteArray.size_append]; show s.size + 1 + _ ≤ _; omega)
  clear hn hz
  go_enter Tryd.func34, Tryd.ntmps34
  go_wp2_with (first | (go_at_call 42; refine (l1Sum_any _ _ (by omega)).mono ?_; rintro e w' ⟨rfl, rfl⟩) | (go_at_call 25; refine (l1Num_any _ _ (by omega) (by omega)).mono ?_; rintro e w' ⟨rfl, k, rfl⟩))
  go_ret
  exact ⟨rfl, _, rfl⟩

theorem specAppend_long (s : ByteArray) (w : World) (hs : s.size ≤ 1048576) (h : 4000 < s.size) :
    Calls Tryd.prog 17 #[.string s] w fun e w' => e = .returned (.tuple #[.string { data := #[] }, .bool false]) ∧ Below w.heap.size w w' := by
  have h1 : (4000 : Int) < s.size := by omega
  go_enter Tryd.func17, Tryd.ntmps17
  go_wp2_with fail
  go_ret2
  exact ⟨rfl, Below.refl _ _⟩

theorem specAppend_mark (s : ByteArray) (w : World) (h : s.size ≤ 4000) (hm : hasB s 35 = true) :
    Calls Tryd.prog 17 #[.string s] w fun e w' => e = .returned (.tuple #[.string { data := #[] }, .bool false]) ∧ Below w.heap.size w w' := by
  have h1 : ¬ (4000 : Int) < s.size := by omega
  have cs : ∀ W, Calls Tryd.prog 33 #[.string s, .int .u8 35] W fun e w' => e = .returned (.bool true) ∧ w' = W := fun W => stands_yes s 35 W (by omega) hm
  clear hm
  go_enter Tryd.func17, Tryd.ntmps17
  go_wp2_with (go_at_call 33; refine (cs _).mono ?_; rintro e w' ⟨rfl, rfl⟩)
  go_ret2
  exact ⟨rfl, Below.refl _ _⟩

theorem specAppend_full (s : ByteArray) (w : World) (h : s.size ≤ 4000) (hm : hasB s 35 = false) (hl : 4000 < (sealB s).size) :
    Calls Tryd.prog 17 #[.string s] w fun e w' => e = .returned (.tuple #[.string { data := #[] }, .bool false]) ∧ Below w.heap.size w w' := by
  have h1 : ¬ (4000 : Int) < s.size := by omega
  have h2 : (4000 : Int) < (sealB s).size := by omega
  have cs : ∀ W, Calls Tryd.prog 33 #[.string s, .int .u8 35] W fun e w' => e = .returned (.bool false) ∧ w' = W := fun W => stands_no s 35 W (by omega) hm
  clear hm
  go_enter Tryd.func17, Tryd.ntmps17
  go_wp2_with (first | (go_at_call 33; refine (cs _).mono ?_; rintro e w' ⟨rfl, rfl⟩) | (go_at_call 34; refine (l1Seal_any _ _ (by omega)).mono ?_; rintro e w' ⟨rfl, k, rfl⟩))
  go_ret2
  exact ⟨rfl, below_drewN _ _⟩

theorem specAppend_ok (s : ByteArray) (w : World) (h : s.size ≤ 4000) (hm : hasB s 35 = false) (hl : (sealB s).size ≤ 4000) :
    Calls Tryd.prog 17 #[.string s] w fun e w' => e = .returned (.tuple #[.string (sealB s), .bool true]) ∧ Below w.heap.size w w' := by
  have h1 : ¬ (4000 : Int) < s.size := by omega
  have h2 : ¬ (4000 : Int) < (sealB s).size := by omega
  have cs : ∀ W, Calls Tryd.prog 33 #[.string s, .int .u8 35] W fun e w' => e = .returned (.bool false) ∧ w' = W := fun W => stands_no s 35 W (by omega) hm
  clear hm
  go_enter Tryd.func17, Tryd.ntmps17
  go_wp2_with (first | (go_at_call 33; refine (cs _).mono ?_; rintro e w' ⟨rfl, rfl⟩) | (go_at_call 34; refine (l1Seal_any _ _ (by omega)).mono ?_; rintro e w' ⟨rfl, k, rfl⟩))
  go_ret2
  exact ⟨rfl, below_drewN _ _⟩

theorem contains_mark (s : ByteArray) (w : World) (b : Bool) (h : hasB s 35 = b) :
    Calls Tryd.prog 32 #[.string s, .string { data := #[35] }] w fun e w' => e = .returned (.bool b) ∧ w' = w := by
  refine (Tryd.strings_Contains_one s 35 w).mono fun e w' ⟨he, hw⟩ => ⟨?_, hw⟩
  rw [he, ← Lib.contains_iff_indexByte, ← h]; rfl

theorem implAppend_long (s : ByteArray) (w : World) (hs : s.size ≤ 1048576) (h : 4000 < s.size) :
    Calls Tryd.prog 16 #[.string s] w fun e w' => e = .returned (.tuple #[.string { data := #[] }, .bool false]) ∧ Below w.heap.size w w' := by
  go_enter Tryd.func16, Tryd.ntmps16
  go_wp2_with (go_at_call 31; refine (implChecksum_long _ _ (by omega) (by omega)).mono ?_; rintro e w' ⟨rfl, rfl⟩)
  go_ret2
  exact ⟨rfl, Below.refl _ _⟩

theorem implAppend_mark (s : ByteArray) (w : World) (h : s.size ≤ 4000) (hm : hasB s 35 = true) :
    Calls Tryd.prog 16 #[.string s] w fun e w' => e = .returned (.tuple #[.string { data := #[] }, .bool false]) ∧ Below w.heap.size w w' := by
  have cc := fun W => contains_mark s W true hm
  clear hm
  go_enter Tryd.func16, Tryd.ntmps16
  go_wp2_with (first | (go_at_call 31; refine (implChecksum_any _ _ (by omega)).mono ?_; rintro e w' ⟨rfl, rfl⟩) | (go_at_call 32; refine (cc _).mono ?_; rintro e w' ⟨rfl, rfl⟩))
  go_ret2
  exact ⟨rfl, Below.refl _ _⟩

set_option maxHeartbeats 400000 in
theorem implAppend_full (s : ByteArray) (w : World) (h : s.size ≤ 4000) (hm : hasB s 35 = false) (hl : 4000 < (sealB s).size) (hT : Pow10 w) :
    Calls Tryd.prog 16 #[.string s] w fun e w' => e = .returned (.tuple #[.string { data := #[] }, .bool false]) ∧ Below w.heap.size w w' := by
  have b := hsh_bd s.data.toList
  obtain ⟨b1, b2⟩ := b
  have h2 : (4000 : Int) < (sealB s).size := by omega
  have hn := numI_size_le _ b1 (by omega)
  have cc := fun W => contains_mark s W false hm
  have ci := fun W (h : Pow10 W) => itoa_any (hsh s.data.toList) (by omega) (by omega) W h
  have c1 := add_run s { data := #[35] } (s ++ { data := #[35] }) rfl (by show s.size + 1 ≤ _; omega)
  have c2 := add_run (s ++ { data := #[35] }) (numI (hsh s.data.toList)) (sealB s) rfl (by rw [ByteArray.size_append]; show s.size + 1 + _ ≤ _; omega)
  clear hm hn
  go_enter Tryd.func16, Tryd.ntmps16
  go_wp2_with (first | (go_at_call 31; refine (implChecksum_any _ _ (by omega)).mono ?_; rintro e w' ⟨rfl, rfl⟩) | (go_at_call 32; refine (cc _).mono ?_; rintro e w' ⟨rfl, rfl⟩) | (go_at_call 23; refine (ci _ hT).mono ?_; rintro e w' ⟨rfl, hb⟩))
  go_ret2
  exact ⟨rfl, hb⟩

set_option maxHeartbeats 400000 in
theorem implAppend_ok (s : ByteArray) (w : World) (h : s.size ≤ 4000) (hm : hasB s 35 = false) (hl : (sealB s).size ≤ 4000) (hT : Pow10 w) :
    Calls Tryd.prog 16 #[.string s] w fun e w' => e = .returned (.tuple #[.string (sealB s), .bool true]) ∧ Below w.heap.size w w' := by
  have b := hsh_bd s.data.toList
  obtain ⟨b1, b2⟩ := b
  have h2 : ¬ (4000 : Int) < (sealB s).size := by omega
  have hn := numI_size_le _ b1 (by omega)
  have cc := fun W => contains_mark s W false hm
  have ci := fun W (h : Pow10 W) => itoa_any (hsh s.data.toList) (by omega) (by omega) W h
  have c1 := add_run s { data := #[35] } (s ++ { data := #[35] }) rfl (by show s.size + 1 ≤ _; omega)
  have c2 := add_run (s ++ { data := #[35] }) (numI (hsh s.data.toList)) (sealB s) rfl (by rw [ByteArray.size_append]; show s.size + 1 + _ ≤ _; omega)
  clear hm hn
  go_enter Tryd.func16, Tryd.ntmps16
  go_wp2_with (first | (go_at_call 31; refine (implChecksum_any _ _ (by omega)).mono ?_; rintro e w' ⟨rfl, rfl⟩) | (go_at_call 32; refine (cc _).mono ?_; rintro e w' ⟨rfl, rfl⟩) | (go_at_call 23; refine (ci _ hT).mono ?_; rintro e w' ⟨rfl, hb⟩))
  go_ret2
  exact ⟨rfl, hb⟩

end Go.Proofs.YtfjnfgeielgihaaDoor
