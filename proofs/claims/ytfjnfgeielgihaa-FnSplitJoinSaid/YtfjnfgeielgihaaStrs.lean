/- The contracts of the laws' helpers on lists of texts: their size, their copy, their comparison. Condition: the lists read as such. -/
import Derived.Test.YtfjnfgeielgihaaRows
import Derived.Test.YtfjnfgeielgihaaPlainRow
import Derived.Test.YtfjnfgeielgihaaPlainJoin
import Derived.Lib.Hide
import Derived.Deep.QuietTactic
import Derived.BigQuiet
namespace Go.Proofs.Ytfjnfgeielgihaa
open Go.RowKit

theorem infoStr : (Try.prog.info? 9).map (fun i => (i.zero, i.size, i.bytes)) = some (some (.string ByteArray.empty), 1, 16) := by kernel_rfl
def sv (l : List ByteArray) : List Value := l.map Value.string
theorem sv_length (l : List ByteArray) : (sv l).length = l.length := List.length_map _
theorem sv_at {l : List ByteArray} {k : Nat} (h : k < l.length) : (sv l)[k]? = some (.string l[k]) := by unfold sv; rw [List.getElem?_map, List.getElem?_eq_getElem h]; rfl
theorem sv_nil {l : List ByteArray} (h : sv l = []) : l.length = 0 := by rw [← sv_length, h]; rfl

set_option maxHeartbeats 600000 in
theorem szStrs_any (a : Option Addr) (c : Nat) (l : List ByteArray) (left : Int) (w : World) (hr : RowAt w a c (sv l)) (hl0 : 0 ≤ left) (hl1 : left ≤ 1048576) (hm : ∀ s ∈ l, s.size ≤ maxLen) :
    Calls Try.prog 21 #[.slice a l.length c, .int .i64 left] w fun e w' => (∃ r : Int, e = .returned (.int .i64 r) ∧ (0 ≤ r → r + l.length + sumSz l ≤ left) ∧ r ≤ 1048576) ∧ w' = w := by
  obtain ⟨h1, h2, h3⟩ := hr
  rw [sv_length] at h1
  unfold maxLen at h2 hm
  have hn : (l.length : Int) ≤ 9223372036854775807 := by omega
  rcases h3 with h3 | ⟨b, o, rfl, hb, hcell⟩
  · obtain rfl : l = [] := by unfold sv at h3; simpa using h3
    clear hm
    go_enter Try.func21, Try.ntmps21
    go_wp2
    go_loop [1, 5] (fun x i => x = .int .i64 left ∧ i = .int .i64 0) (fun _ _ => 0)
    case atStart => exact ⟨rfl, rfl⟩
    case round =>
      obtain ⟨rfl, rfl⟩ := hrel
      go_wp2
      go_ret
      exact ⟨⟨left, rfl, fun _ => by simp [sumSz], hl1⟩, rfl⟩
  · have HM := Lib.hid hm
    have HC := Lib.hid hcell
    clear hm hcell
    by_cases hneg : left - (l.length : Int) < 0
    · go_enter Try.func21, Try.ntmps21
      go_wp2
      go_ret
      exact ⟨⟨-1, rfl, fun h => by omega, by omega⟩, rfl⟩
    go_enter Try.func21, Try.ntmps21
    go_wp2
    go_loop [1, 5] (fun x i => ∃ (k : Nat) (r : Int), k ≤ l.length ∧ i = .int .i64 k ∧ x = .int .i64 r ∧ 0 ≤ r ∧ r ≤ 1048576 ∧ r + l.length + sumSz (l.take k) = left) (fun _ i => l.length - (intOf i).toNat)
    case atStart => exact ⟨0, left - l.length, Nat.zero_le _, rfl, rfl, by omega, by omega, by simp [sumSz]⟩
    case round =>
      obtain ⟨k, r, hk, rfl, rfl, hr0, hr1, hsum⟩ := hrel
      have HS := Lib.hid hsum
      clear hsum
      by_cases hlt : k < l.length
      · obtain ⟨x, hx⟩ : ∃ x, x = l[k] := ⟨_, rfl⟩
        have hcl : w.cell? ⟨b, o + k, none⟩ = some (.string x) := by rw [hx]; exact HC.out k _ (sv_at hlt)
        have hxm : (x.size : Int) ≤ 9223372036854775807 := by have := HM.out x (by rw [hx]; exact List.getElem_mem hlt); omega
        have HX : Hid (sumSz (l.take (k + 1)) = sumSz (l.take k) + x.size) := Lib.hid (by rw [hx]; exact sumSz_step hlt)
        clear hx
        by_cases hng : r - (x.size : Int) < 0
        · go_wp2
          go_ret
          exact ⟨⟨-1, rfl, fun h => by omega, by omega⟩, rfl⟩
        · go_wp2
          go_round
          case rel => exact ⟨k + 1, r - x.size, by omega, by go_num, rfl, by omega, by omega, by have := HS.out; have := HX.out; omega⟩
          case measure => simp [intOf]; omega
      · obtain rfl : k = l.length := by omega
        go_wp2
        go_ret
        exact ⟨⟨r, rfl, fun _ => by have := HS.out; rw [sumSz_all] at this; omega, hr1⟩, rfl⟩

set_option maxHeartbeats 1000000 in
/-- The copy: a fresh row with the same texts. -/
theorem toStrs_any (a : Option Addr) (c : Nat) (l : List ByteArray) (w : World) (hr : RowAt w a c (sv l)) (hn : l.length ≤ 1048576) :
    Calls Try.prog 22 #[.slice a l.length c] w fun e w' => e = .returned (.slice (some ⟨w.heap.size, 0, none⟩) l.length l.length) ∧ w'.ownsRow w.heap.size 9 1 (.slice (some ⟨w.heap.size, 0, none⟩) l.length l.length) l.length (sv l) ∧ Below w.heap.size w w' := by
  obtain ⟨h1, h2, h3⟩ := hr
  rw [sv_length] at h1
  unfold maxLen at h2
  obtain ⟨i0, hi, hz0, hz1, hz2⟩ := info_parts infoStr
  obtain ⟨B, hB⟩ : ∃ B, B = w.heap.size := ⟨_, rfl⟩
  have HB := Lib.hid hB
  have hni : (l.length : Int) ≤ 1048576 := by omega
  have hm0 := mix_zero (sv l) (.string ByteArray.empty)
  rw [sv_length] at hm0
  have HM0 := Lib.hid hm0
  have HR := Lib.hid h3
  clear hm0 h3
  go_enter Try.func22, Try.ntmps22
  go_wp2_with (at_make; refine wpList_make_full _ rfl _ _ 26 rfl w.heap.size 9 i0 (.string ByteArray.empty) 1 Try.underlying26 hi hz0 hz1 .i64 .i64 _ _ l.length rfl rfl rfl rfl (by rw [hz2]; omega) (by unfold maxLen; omega) (Nat.le_refl _) ?_; intro w1 hown1 hgrow1)
  have hrow : w1.ownsRow w.heap.size 9 1 (.slice (some ⟨w.heap.size, 0, none⟩) l.length l.length) l.length (mix (sv l) (.string ByteArray.empty) 0) := by
    rw [HM0.out, ← made_row]; rw [Nat.mul_one] at hown1; exact hown1
  have hb1 : Below w.heap.size w w1 := (Below.refl _ _).grown hgrow1 (Nat.le_refl _) (fun k h => by cases h)
  clear hown1 hgrow1
  rw [← hB] at hrow hb1 ⊢
  clear hB
  go_loopw [4] (fun i wr => ∃ k : Nat, k ≤ l.length ∧ i = .int .i64 k ∧ wr.ownsRow B 9 1 (.slice (some ⟨B, 0, none⟩) l.length l.length) l.length (mix (sv l) (.string ByteArray.empty) k) ∧ Below B w wr) (fun i _ => l.length - (intOf i).toNat)
  case atStart => exact ⟨0, Nat.zero_le _, rfl, hrow, hb1⟩
  case round =>
    obtain ⟨k, hk, rfl, hown, hnx⟩ := hrel
    clear hrow hb1
    by_cases hlt : k < l.length
    · rcases HR.out with h3 | ⟨b, o, rfl, hb, hcell⟩
      · have := sv_nil h3; omega
      · have hcl : wr.cell? ⟨b, o + k, none⟩ = some (.string l[k]) := (hnx.cell (p := ⟨b, o + k, none⟩) (by rw [HB.out]; exact hb)).trans (hcell k _ (sv_at hlt))
        have hml := mix_length (sv l) (.string ByteArray.empty) k (by rw [sv_length]; exact hk)
        rw [sv_length] at hml
        have hc0 : ∃ u, wr.cell? ⟨B, k, none⟩ = some u := ⟨_, (hown.cellAt k (by omega)).trans (List.getElem?_eq_getElem (by rw [hml]; exact hlt))⟩
        obtain ⟨u, hu⟩ := hc0
        have hf := hown.frozenAt k
        have hst := hown.stored k (.string l[k])
        rw [mix_set _ _ _ k (sv_at hlt)] at hst
        have R2 : Below B w (wr.setCell ⟨B, k, none⟩ (.string l[k])) := hnx.setCell (p := ⟨B, k, none⟩) (Nat.le_refl _) _
        have R1 := hst.1
        have HML := Lib.hid hml
        clear hst hown hml hcell
        go_wp2
        go_roundw
        case rel => exact ⟨k + 1, by omega, by go_num, R1, R2⟩
        case measure => simp [intOf]; omega
    · obtain rfl : k = l.length := by omega
      have hma := mix_all (sv l) (.string ByteArray.empty)
      rw [sv_length] at hma
      rw [hma] at hown
      clear hma
      go_wp2
      go_ret
      have hBe := HB.out
      clear HB HR
      subst hBe
      exact ⟨rfl, hown, hnx⟩

set_option maxHeartbeats 1000000 in
/-- The comparison of two rows that read alike. -/
theorem eqStrs_same (a a' : Option Addr) (c c' : Nat) (l : List ByteArray) (w : World) (hr : RowAt w a c (sv l)) (hr' : RowAt w a' c' (sv l)) (hn : l.length ≤ 1048576) :
    Calls Try.prog 18 #[.slice a l.length c, .slice a' l.length c'] w fun e w' => e = .returned (.bool true) ∧ ∃ k, w' = w.drewN k := by
  obtain ⟨h1, h2, h3⟩ := hr
  obtain ⟨h1', h2', h3'⟩ := hr'
  have hni : (l.length : Int) ≤ 1048576 := by omega
  have HR := Lib.hid h3
  have HR' := Lib.hid h3'
  clear h1 h1' h2 h2' h3 h3'
  go_enter Try.func18, Try.ntmps18
  go_wp2
  go_loopw [5] (fun i wr => ∃ k d : Nat, k ≤ l.length ∧ i = .int .i64 k ∧ wr = w.drewN d) (fun i _ => l.length - (intOf i).toNat)
  case atStart => exact ⟨0, 0, Nat.zero_le _, rfl, rfl⟩
  case round =>
    obtain ⟨k, d, hk, rfl, rfl⟩ := hrel
    by_cases hlt : k < l.length
    · rcases HR.out with h3 | ⟨b, o, rfl, hb, hcell⟩
      · have := sv_nil h3; omega
      rcases HR'.out with h3 | ⟨b', o', rfl, hb', hcell'⟩
      · have := sv_nil h3; omega
      obtain ⟨x, hx⟩ : ∃ x, x = l[k] := ⟨_, rfl⟩
      have hcl : w.cell? ⟨b, o + k, none⟩ = some (.string x) := by rw [hx]; exact hcell k _ (sv_at hlt)
      have hcl' : w.cell? ⟨b', o' + k, none⟩ = some (.string x) := by rw [hx]; exact hcell' k _ (sv_at hlt)
      have hlti : (k : Int) < (l.length : Int) := by omega
      clear hx hcell hcell'
      go_wp2
      go_quiet (fail)
      go_wp2
      go_roundw
      case rel => exact ⟨k + 1, _, by omega, by go_num, rfl⟩
      case measure => simp [intOf]; omega
    · obtain rfl : k = l.length := by omega
      go_wp2
      go_ret
      exact ⟨rfl, _, rfl⟩

end Go.Proofs.Ytfjnfgeielgihaa
