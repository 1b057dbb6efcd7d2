/- The contract of the model's l1Split: a fresh list of the parts of a text. Condition: the text has at most 1048576 bytes. -/
import Derived.Test.YtfjnfgeielgihaaDoorRows
import Derived.Test.YtfjnfgeielgihaaDoorPlainSplit
import Derived.Test.YtfjnfgeielgihaaDoorStands
import Derived.WalkKit
import Derived.WalkSpells
import Derived.Lib.Hide
namespace Go.Proofs.YtfjnfgeielgihaaDoor
open Go.RowKit

theorem infoString : (Tryd.prog.info? 9).map (fun i => (i.zero, i.size, i.bytes)) = some (some (.string ByteArray.empty), 1, 16) := by kernel_rfl

/-- v is a list of texts of the call's own, in blocks from B on. -/
def OwnStrs (w : World) (B : Nat) (v : Value) (l : List ByteArray) : Prop := w.ownsRow B 9 1 v l.length (l.map Value.string)

theorem one_cell (w : World) (x : Value) (e : TypeId) : ∀ j u, [x][j]? = some u → (w.alloc (.cells #[x] e)).cell? ((⟨w.heap.size, 0, none⟩ : Addr).add j) = some u := by
  intro j u hj
  match j, hj with
  | 0, hj => simp at hj; subst hj; simp [Addr.add]

theorem own_snoc {w1 : World} {B n : Nat} {v : Value} {l : List ByteArray} {x : ByteArray} (hn : n = l.length) (h : w1.ownsRow B 9 1 v (n + 1) (l.map Value.string ++ [Value.string x])) : OwnStrs w1 B v (l ++ [x]) := by
  subst hn; unfold OwnStrs; simpa using h

set_option maxHeartbeats 1000000 in
theorem l1Split_any (s : ByteArray) (c : UInt8) (w : World) (hs : s.size ≤ 1048576) :
    Calls Tryd.prog 36 #[.string s, .int .u8 c.toNat] w fun e w' => ∃ v, e = .returned v ∧ OwnStrs w' w.heap.size v (parts s c) ∧ Below w.heap.size w w' := by
  obtain ⟨i0, hi, hz0, hz1, hz2⟩ := info_parts infoString
  obtain ⟨B, hB⟩ : ∃ B, B = w.heap.size := ⟨_, rfl⟩
  have HB := Lib.hid hB
  rw [← hB]
  clear hB
  have h0 : (w.alloc (.cells #[] 9)).ownsRow B 9 1 (.slice (some ⟨w.heap.size, 0, none⟩) 0 0) 0 [] := World.ownsRow_made w #[] 0 (by rw [HB.out]; exact Nat.le_refl _) (by decide) rfl
  have hb0 : Below B w (w.alloc (.cells #[] 9)) := (Below.refl _ _).alloc (by rw [HB.out]; exact Nat.le_refl _) _
  go_enter Tryd.func36, Tryd.ntmps36
  go_wp2
  go_loopw [5, 6, 7] (fun out fr i wr => ∃ (k : Nat) (D : List ByteArray) (f : Nat), k ≤ s.size ∧ i = .int .i64 k ∧ fr = .int .i64 f ∧ f ≤ k ∧ D.length ≤ k ∧ CutIs s c k D f ∧ OwnStrs wr B out D ∧ Below B w wr) (fun _ _ i _ => s.size - (intOf i).toNat)
  case atStart => exact ⟨0, [], 0, Nat.zero_le _, rfl, rfl, Nat.le_refl _, Nat.le_refl _, cut_zero s c, h0, hb0⟩
  case round =>
    obtain ⟨k, D, f, hk, rfl, rfl, hfk, hDk, hcut, hown0, hnx⟩ := hrel
    have hown : wr.ownsRow B 9 1 _ D.length (D.map Value.string) := hown0
    have hsz : B ≤ wr.heap.size := by have := hnx.size; have := HB.out; omega
    by_cases hlt : k < s.size
    · by_cases hc : s[k] = c
      · have ht := byte_eq hc
        have HC := Lib.hid hc
        clear hc h0 hb0
        go_wp2_with (at_builtin; refine wpList_append_own _ rfl _ _ 44 rfl B 9 i0 (.string ByteArray.empty) 1 16 Tryd.underlying44 hi hz0 hz1 hz2 rfl (by decide) _ _ _ rfl (hown.alloc _) ⟨wr.heap.size, 0, none⟩ 1 1 [.string (s.extract f k)] rfl rfl (one_cell _ _ _) (by simp [Value.oneCell']) (by unfold maxLen; omega) (by omega) (by simp; omega) ?_; intro v' w1 hown' hgrow _)
        have R1 : OwnStrs w1 B v' (D ++ [s.extract f k]) := own_snoc rfl hown'
        have R2 : Below B w w1 := (hnx.alloc hsz _).grown hgrow (by simp; omega) (fun j hj => (hown.lt j hj).1)
        have hlen : (D ++ [s.extract f k]).length ≤ k + 1 := by simp; omega
        clear hown' hgrow hown hown0 hnx
        go_wp2
        go_roundw
        case rel => exact ⟨k + 1, _, k + 1, by omega, by go_num, by go_num, Nat.le_refl _, hlen, cut_hit hcut hlt HC.out, R1, R2⟩
        case measure => simp [intOf]; omega
      · have ht := byte_ne hc
        have HC := Lib.hid hc
        clear hc h0 hb0
        go_wp2
        go_roundw
        case rel => exact ⟨k + 1, D, f, by omega, by go_num, rfl, by omega, by omega, cut_miss hcut hlt HC.out, hown0, hnx⟩
        case measure => simp [intOf]; omega
    · obtain rfl : k = s.size := by omega
      clear h0 hb0
      go_wp2_with (at_builtin; refine wpList_append_own _ rfl _ _ 44 rfl B 9 i0 (.string ByteArray.empty) 1 16 Tryd.underlying44 hi hz0 hz1 hz2 rfl (by decide) _ _ _ rfl (hown.alloc _) ⟨wr.heap.size, 0, none⟩ 1 1 [.string (s.extract f s.size)] rfl rfl (one_cell _ _ _) (by simp [Value.oneCell']) (by unfold maxLen; omega) (by omega) (by simp; omega) ?_; intro v' w1 hown' hgrow _)
      have R1 : OwnStrs w1 B v' (D ++ [s.extract f s.size]) := own_snoc rfl hown'
      have R2 : Below B w w1 := (hnx.alloc hsz _).grown hgrow (by simp; omega) (fun j hj => (hown.lt j hj).1)
      rw [← cut_end hcut rfl] at R1
      clear hown' hgrow hown hown0 hnx
      go_wp2
      go_ret
      exact ⟨_, rfl, R1, R2⟩

end Go.Proofs.YtfjnfgeielgihaaDoor
