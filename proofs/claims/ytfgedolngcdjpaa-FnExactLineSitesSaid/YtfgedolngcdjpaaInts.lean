/- The contracts of the laws' helpers on lists of integers, tables and Fields: their size, their copy, their comparison. Condition: they read as such. -/
import Derived.Test.YtfgedolngcdjpaaRows
import Derived.Test.YtfgedolngcdjpaaMem
import Derived.Lib.Hide
import Derived.Deep.QuietTactic
import Derived.BigQuiet
namespace Go.Proofs.Ytfgedolngcdjpaa
open Go.RowKit

theorem infoInt : (Try.prog.info? 3).map (fun i => (i.zero, i.size, i.bytes)) = some (some (.int .i64 0), 1, 8) := by kernel_rfl
theorem infoInts : (Try.prog.info? 22).map (fun i => (i.zero, i.size, i.bytes)) = some (some (.slice none 0 0), 1, 24) := by kernel_rfl

set_option maxHeartbeats 1000000 in
/-- The copy of a list: a row of its own with the same numbers. -/
theorem toInts_any (r : Row) (w : World) (hr : r.At w) (hn : r.l.length ≤ 1048576) :
    Calls Try.prog 8 #[.slice r.a r.l.length r.c] w fun e w' => e = .returned (.slice (some ⟨w.heap.size, 0, none⟩) r.l.length r.l.length) ∧ w'.ownsRow w.heap.size 3 1 (.slice (some ⟨w.heap.size, 0, none⟩) r.l.length r.l.length) r.l.length (iv r.l) ∧ Below w.heap.size w w' := by
  obtain ⟨a, c, l⟩ := r
  obtain ⟨h1, h2, h3⟩ := hr
  simp only at h1 h2 h3 hn ⊢
  rw [iv_length] at h1
  unfold maxLen at h2
  obtain ⟨i0, hi, hz0, hz1, hz2⟩ := info_parts infoInt
  obtain ⟨B, hB⟩ : ∃ B, B = w.heap.size := ⟨_, rfl⟩
  have HB := Lib.hid hB
  have hni : (l.length : Int) ≤ 1048576 := by omega
  have hm0 := mix_zero (iv l) (.int .i64 0)
  rw [iv_length] at hm0
  have HM0 := Lib.hid hm0
  have HR := Lib.hid h3
  clear hm0 h3
  go_enter Try.func8, Try.ntmps8
  go_wp2_with (at_make; refine wpList_make_full _ rfl _ _ 22 rfl w.heap.size 3 i0 (.int .i64 0) 1 Try.underlying22 hi hz0 hz1 .i64 .i64 _ _ l.length rfl rfl rfl rfl (by rw [hz2]; omega) (by unfold maxLen; omega) (Nat.le_refl _) ?_; intro w1 hown1 hgrow1)
  have hrow : w1.ownsRow w.heap.size 3 1 (.slice (some ⟨w.heap.size, 0, none⟩) l.length l.length) l.length (mix (iv l) (.int .i64 0) 0) := by
    rw [HM0.out, ← made_row]; rw [Nat.mul_one] at hown1; exact hown1
  have hb1 : Below w.heap.size w w1 := (Below.refl _ _).grown hgrow1 (Nat.le_refl _) (fun k h => by cases h)
  clear hown1 hgrow1
  rw [← hB] at hrow hb1 ⊢
  clear hB
  go_loopw [4] (fun i wr => ∃ k : Nat, k ≤ l.length ∧ i = .int .i64 k ∧ wr.ownsRow B 3 1 (.slice (some ⟨B, 0, none⟩) l.length l.length) l.length (mix (iv l) (.int .i64 0) k) ∧ Below B w wr) (fun i _ => l.length - (intOf i).toNat)
  case atStart => exact ⟨0, Nat.zero_le _, rfl, hrow, hb1⟩
  case round =>
    obtain ⟨k, hk, rfl, hown, hnx⟩ := hrel
    clear hrow hb1
    by_cases hlt : k < l.length
    · rcases HR.out with h3 | ⟨b, o, rfl, hb, hcell⟩
      · have h3' := congrArg List.length (iv_nil h3); rw [List.length_nil] at h3'; omega
      · have hcl : wr.cell? ⟨b, o + k, none⟩ = some (.int .i64 l[k]) := (hnx.cell (p := ⟨b, o + k, none⟩) (by rw [HB.out]; exact hb)).trans (hcell k _ (iv_at hlt))
        obtain ⟨x, hx⟩ : ∃ x, x = l[k] := ⟨_, rfl⟩
        have hml := mix_length (iv l) (.int .i64 0) k (by rw [iv_length]; exact hk)
        rw [iv_length] at hml
        have hc0 : ∃ u, wr.cell? ⟨B, k, none⟩ = some u := ⟨_, (hown.cellAt k (by omega)).trans (List.getElem?_eq_getElem (by rw [hml]; exact hlt))⟩
        obtain ⟨u, hu⟩ := hc0
        have hf := hown.frozenAt k
        have hst := hown.stored k (.int .i64 l[k])
        rw [mix_set _ _ _ k (iv_at hlt)] at hst
        have R2 : Below B w (wr.setCell ⟨B, k, none⟩ (.int .i64 l[k])) := hnx.setCell (p := ⟨B, k, none⟩) (Nat.le_refl _) _
        have R1 := hst.1
        rw [← hx] at R1 R2 hcl
        have HML := Lib.hid hml
        clear hst hown hml hcell hx
        go_wp2
        go_roundw
        case rel => exact ⟨k + 1, by omega, by go_num, R1, R2⟩
        case measure => simp [intOf]; omega
    · obtain rfl : k = l.length := by omega
      have hma := mix_all (iv l) (.int .i64 0)
      rw [iv_length] at hma
      rw [hma] at hown
      clear hma
      go_wp2
      go_ret
      have hBe := HB.out
      clear HB HR
      subst hBe
      exact ⟨rfl, hown, hnx⟩

theorem toInts_row (r : Row) (w : World) (hr : r.At w) (hn : r.l.length ≤ 1048576) :
    Calls Try.prog 8 #[.slice r.a r.l.length r.c] w fun e w' => ∃ s : Row, e = .returned (.slice s.a s.l.length s.c) ∧ s.l = r.l ∧ s.a = some ⟨w.heap.size, 0, none⟩ ∧ s.Own 3 w' ∧ s.In w.heap.size w'.heap.size w' ∧ Below w.heap.size w w' := by
  refine (toInts_any r w hr hn).mono ?_
  rintro e w' ⟨rfl, ho, hb⟩
  have hlt := (owns_lt ho).1
  refine ⟨⟨some ⟨w.heap.size, 0, none⟩, r.l.length, r.l⟩, rfl, rfl, rfl, .inr ⟨_, rfl, owns_base ho⟩, ?_, hb⟩
  obtain ⟨q1, q2, q3⟩ := row_of_owns ho
  refine ⟨q1, q2, ?_⟩
  rcases q3 with q3 | ⟨b, o, e, hbb, hc⟩
  · exact .inl q3
  · simp only [Option.some.injEq, Addr.mk.injEq] at e
    obtain ⟨rfl, rfl, _⟩ := e
    exact .inr ⟨_, _, rfl, Nat.le_refl _, hlt, hlt, hc⟩

set_option maxHeartbeats 600000 in
/-- The comparison of two lists that are the same. -/
theorem eqInts_same (r s : Row) (w : World) (hr : r.At w) (hs : s.At w) (he : r.l = s.l) (hn : r.l.length ≤ 1048576) :
    Calls Try.prog 11 #[r.val, s.val] w fun e w' => e = .returned (.bool true) ∧ ∃ k, w' = w.drewN k := by
  obtain ⟨a, c, l⟩ := r
  obtain ⟨a', c', l'⟩ := s
  simp only at he hn
  subst he
  obtain ⟨h1, h2, h3⟩ := hr
  obtain ⟨h1', h2', h3'⟩ := hs
  simp only at h3 h3'
  have hni : (l.length : Int) ≤ 1048576 := by omega
  have HR := Lib.hid h3
  have HR' := Lib.hid h3'
  clear h1 h1' h2 h2' h3 h3'
  show Calls _ _ #[.slice a l.length c, .slice a' l.length c'] w _
  go_enter Try.func11, Try.ntmps11
  go_wp2
  go_loopw [5] (fun i wr => ∃ k d : Nat, k ≤ l.length ∧ i = .int .i64 k ∧ wr = w.drewN d) (fun i _ => l.length - (intOf i).toNat)
  case atStart => exact ⟨0, 0, Nat.zero_le _, rfl, rfl⟩
  case round =>
    obtain ⟨k, d, hk, rfl, rfl⟩ := hrel
    by_cases hlt : k < l.length
    · rcases HR.out with h3 | ⟨b, o, rfl, hb, hcell⟩
      · have h3' := congrArg List.length (iv_nil h3); rw [List.length_nil] at h3'; omega
      rcases HR'.out with h3 | ⟨b', o', rfl, hb', hcell'⟩
      · have h3' := congrArg List.length (iv_nil h3); rw [List.length_nil] at h3'; omega
      obtain ⟨x, hx⟩ : ∃ x, x = l[k] := ⟨_, rfl⟩
      have hcl : w.cell? ⟨b, o + k, none⟩ = some (.int .i64 x) := by rw [hx]; exact hcell k _ (iv_at hlt)
      have hcl' : w.cell? ⟨b', o' + k, none⟩ = some (.int .i64 x) := by rw [hx]; exact hcell' k _ (iv_at hlt)
      have hlti : (k : Int) < (l.length : Int) := by omega
      clear hx hcell hcell'
      go_wp2
      go_quiet (fail)
      go_wp2
      go_roundw
      case rel => exact ⟨k + 1, _, by omega, by go_num, rfl⟩
      case measure => simp [intOf]; omega
    · obtain rfl : k = l.length := by omega
      go_wp2
      go_ret
      exact ⟨rfl, _, rfl⟩

end Go.Proofs.Ytfgedolngcdjpaa
