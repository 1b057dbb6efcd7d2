/- The set at a place of a table: the program's way. Condition: a place below 128. -/
import Derived.Test.YtmddijibplkngaaPlainServe
import Derived.Test.YtmddijibplkngaaPlainSets
import Derived.Test.YtmddijibplkngaaBits
namespace Go.Proofs.Ytmddijibplkngaa
open Go.RowKit

/-- How many digits a place has. -/
def wid (c : Nat) : Nat := (List.range 8).countP fun k => decide (0 < c / 2 ^ k)
theorem wid_all : ((List.range 128).all fun c => (decide (wid c ≤ 7)) && (List.range 8).all fun k => (decide (0 < c / 2 ^ k) == decide (k < wid c)) && ((List.range 8).all fun n => !(decide (c < 2 ^ n)) || decide (bitsTo c (wid c) = bitsT n c))) = true := by decide +kernel
theorem wid_le {c : Nat} (hc : c < 128) : wid c ≤ 7 := by
  have := List.all_eq_true.1 wid_all c (List.mem_range.2 hc)
  simp only [Bool.and_eq_true, decide_eq_true_eq] at this
  exact this.1
theorem wid_at {c k : Nat} (hc : c < 128) (hk : k < 8) : (0 < c / 2 ^ k) ↔ k < wid c := by
  have := List.all_eq_true.1 wid_all c (List.mem_range.2 hc)
  rw [Bool.and_eq_true] at this
  have h2 := List.all_eq_true.1 this.2 k (List.mem_range.2 hk)
  rw [Bool.and_eq_true] at h2
  exact decide_eq_decide.1 (beq_iff_eq.1 h2.1)
theorem wid_bits {c n : Nat} (hc : c < 2 ^ n) (hn : n ≤ 7) : bitsTo c (wid c) = bitsT n c := by
  have h7 : 2 ^ n ≤ 2 ^ 7 := Nat.pow_le_pow_right (by omega) hn
  have hc' : c < 128 := by simp at h7; omega
  have := List.all_eq_true.1 wid_all c (List.mem_range.2 hc')
  rw [Bool.and_eq_true] at this
  have h2 := List.all_eq_true.1 this.2 0 (List.mem_range.2 (by omega))
  rw [Bool.and_eq_true] at h2
  have h3 := List.all_eq_true.1 h2.2 n (List.mem_range.2 (by omega))
  simp only [Bool.or_eq_true, Bool.not_eq_true', decide_eq_false_iff_not, decide_eq_true_eq] at h3
  rcases h3 with h3 | h3
  · exact absurd hc h3
  · exact h3

set_option maxRecDepth 16000 in
set_option maxHeartbeats 1500000 in
theorem setAt_any (c : Nat) (w : World) (hc : c < 128) :
    Calls Try.prog 51 #[.int .i64 c] w fun e w' => ∃ t : Row, e = .returned (.slice t.a t.l.length t.c) ∧ t.l = up (bitsTo c (wid c)) ∧ t.Own 3 w' ∧ t.In w.heap.size w'.heap.size w' ∧ Below w.heap.size w w' := by
  obtain ⟨i0, hi, hz0, hz1, hz2⟩ := info_parts infoInt
  have hci : (c : Int) ≤ 127 := by omega
  have HO := Lib.hid (empty_own w)
  have HB0 := Lib.hid (below_alloc w (.cells #[] 3))
  have h7 := wid_le hc
  obtain ⟨q, hq⟩ : ∃ q, q = wid c := ⟨_, rfl⟩
  rw [← hq] at h7 ⊢
  have HQ := Lib.hid hq
  clear hq
  go_enter Try.func51, Try.ntmps51
  go_wp2
  go_loopw [3, 4] (fun out kv wr => ∃ k : Nat, k ≤ q ∧ kv = .int .i64 k ∧ wr.ownsRow w.heap.size 3 1 out (bitsTo c k).length (iv (up (bitsTo c k))) ∧ Below w.heap.size w wr) (fun _ kv _ => q - (intOf kv).toNat)
  case atStart => exact ⟨0, Nat.zero_le _, rfl, by simpa [bitsTo, up] using HO.out, HB0.out⟩
  case round =>
    obtain ⟨k, hk, rfl, hown, hnx⟩ := hrel
    have hki : (k : Int) ≤ 7 := by omega
    have hk8 : k < 8 := by omega
    obtain ⟨z, hz⟩ : ∃ z : Nat, z = c / 2 ^ k := ⟨_, rfl⟩
    have hsh : (c : Int) / 2 ^ k = (z : Int) := by rw [hz]; push_cast; rfl
    have hone := bits_one hc hk8
    rw [hsh] at hone
    have hlen := bitsTo_len c k
    obtain ⟨n, hn⟩ : ∃ n, n = (bitsTo c k).length := ⟨_, rfl⟩
    rw [← hn] at hown hlen
    have HN := Lib.hid hn
    have HST := Lib.hid (bitsTo_step c k)
    have HOW := Lib.hid hown
    have HNX := Lib.hid hnx
    have hszr := hnx.size
    by_cases hlt : k < q
    · have hzp : 0 < z := by rw [hz]; exact (wid_at hc hk8).2 (by rw [← HQ.out]; exact hlt)
      have hzpi : (z : Int) > 0 := by omega
      clear hz hn hown hnx
      obtain ⟨v, hv⟩ : ∃ v, v = c.testBit k := ⟨_, rfl⟩
      rw [← hv] at hone HST
      cases v with
      | true =>
        have HNEW : Hid (iv (up (bitsTo c (k + 1))) = iv (up (bitsTo c k)) ++ [.int .i64 (k : Int)]) := Lib.hid (by rw [HST.out, if_pos rfl, up_snoc]; simp [iv])
        have HNEWL : Hid ((bitsTo c (k + 1)).length = n + 1) := Lib.hid (by rw [HST.out, if_pos rfl, List.length_append, HN.out]; rfl)
        have hone' : bits BinOp.and IntKind.i64 (z : Int) 1 = 1 := by rw [hone]; rfl
        clear hone hv
        have hown := HOW.out
        go_wp2_with (at_builtin; refine wpList_append_own _ rfl _ _ 22 rfl w.heap.size 3 i0 (.int .i64 0) 1 8 Try.underlying22 hi hz0 hz1 hz2 rfl (by decide) _ _ _ rfl (hown.alloc _) ⟨wr.heap.size, 0, none⟩ 1 1 [.int .i64 (k : Int)] rfl rfl (one_cell _ _ _) (by simp [Value.oneCell']) (by unfold maxLen; omega) (by omega) (by simp; omega) ?_; intro v' w1 hown' hgrow _)
        have R1 : Hid (w1.ownsRow w.heap.size 3 1 v' (bitsTo c (k + 1)).length (iv (up (bitsTo c (k + 1))))) := Lib.hid (by rw [HNEWL.out, HNEW.out]; exact hown')
        have R2 : Below w.heap.size w w1 := (HNX.out.alloc (by omega) _).grown hgrow (by simp; omega) (fun j hj => (hown.lt j hj).1)
        clear hown' hgrow hown
        go_wp2
        go_roundw
        case rel => exact ⟨k + 1, by omega, by go_num, R1.out, R2⟩
        case measure => simp [intOf]; omega
      | false =>
        have HNEW : Hid (bitsTo c (k + 1) = bitsTo c k) := Lib.hid (by rw [HST.out, if_neg (by simp), List.append_nil])
        have hone' : bits BinOp.and IntKind.i64 (z : Int) 1 = 0 := by rw [hone]; rfl
        clear hone hv
        go_wp2
        go_roundw
        case rel => exact ⟨k + 1, by omega, by go_num, by rw [HNEW.out, ← HN.out]; exact HOW.out, HNX.out⟩
        case measure => simp [intOf]; omega
    · obtain rfl : k = q := by omega
      have hzp : z = 0 := by
        have := mt (wid_at hc hk8).1 (by rw [← HQ.out]; omega)
        rw [hz]; omega
      subst hzp
      clear hz hn hown hnx hone
      have HEND := Lib.hid (row_of_own (l := up (bitsTo c k)) (by rw [up_length]; rw [HN.out] at *; exact HOW.out))
      go_wp2
      go_ret
      obtain ⟨t, ht, htl, hto, hti⟩ := HEND.out
      exact ⟨t, congrArg Ending.returned ht, htl, hto, hti, HNX.out⟩
end Go.Proofs.Ytmddijibplkngaa
