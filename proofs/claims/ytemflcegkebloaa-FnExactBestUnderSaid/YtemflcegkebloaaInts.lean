/- The contracts of the laws' helpers on lists of integers, tables and Fields: their size, their copy, their comparison. Condition: they read as such. -/
import Derived.Test.YtemflcegkebloaaRows
import Derived.Test.YtemflcegkebloaaMem
import Derived.Lib.Hide
import Derived.Deep.QuietTactic
import Derived.BigQuiet
namespace Go.Proofs.Ytemflcegkebloaa
open Go.RowKit

theorem infoInt : (Try.prog.info? 3).map (fun i => (i.zero, i.size, i.bytes)) = some (some (.int .i64 0), 1, 8) := by kernel_rfl
theorem infoInts : (Try.prog.info? 22).map (fun i => (i.zero, i.size, i.bytes)) = some (some (.slice none 0 0), 1, 24) := by kernel_rfl

set_option maxHeartbeats 600000 in
theorem szInts_any (a : Option Addr) (c n : Nat) (left : Int) (w : World) (hn : n ≤ maxLen) (hl0 : 0 ≤ left) (hl1 : left ≤ 1048576) :
    Calls Try.prog 25 #[.slice a n c, .int .i64 left] w fun e w' => (∃ r : Int, e = .returned (.int .i64 r) ∧ (0 ≤ r → r + n ≤ left) ∧ r ≤ 1048576) ∧ w' = w := by
  unfold maxLen at hn
  have hni : (n : Int) ≤ 9223372036854775807 := by omega
  by_cases hneg : left - (n : Int) < 0
  · go_enter Try.func25, Try.ntmps25
    go_wp2
    go_ret
    exact ⟨⟨-1, rfl, fun h => by omega, by omega⟩, rfl⟩
  · go_enter Try.func25, Try.ntmps25
    go_wp2
    go_ret
    exact ⟨⟨left - n, rfl, fun h => by omega, by omega⟩, rfl⟩

set_option maxHeartbeats 1000000 in
theorem szTab_any (T : Tab) (left : Int) (w : World) (hT : T.At w) (hl0 : 0 ≤ left) (hl1 : left ≤ 1048576) :
    Calls Try.prog 26 #[T.val, .int .i64 left] w fun e w' => (∃ r : Int, e = .returned (.int .i64 r) ∧ (0 ≤ r → r + T.R.length + tot T.con ≤ left) ∧ r ≤ 1048576) ∧ w' = w := by
  obtain ⟨a, c, R⟩ := T
  obtain ⟨⟨h1, h2, h3⟩, hrows⟩ := hT
  simp only at h1 h2 h3 hrows
  rw [tv_length] at h1
  have hlim : R.length ≤ 9223372036854775807 := by unfold maxLen at h2; omega
  have hni : (R.length : Int) ≤ 9223372036854775807 := by omega
  have hmax : ∀ r ∈ R, r.l.length ≤ maxLen := fun r hr => by obtain ⟨q1, q2, _⟩ := hrows r hr; rw [iv_length] at q1; omega
  have HM := Lib.hid hmax
  have H3 := Lib.hid h3
  have hcon : Hid (∀ k (h : k < R.length), tot ((Tab.con ⟨a, c, R⟩).take (k + 1)) = tot ((Tab.con ⟨a, c, R⟩).take k) + R[k].l.length) := Lib.hid fun k h => by
    rw [tot_step (by simpa [Tab.con] using h)]; simp [Tab.con]
  have hall : Hid (tot ((Tab.con ⟨a, c, R⟩).take R.length) = tot (Tab.con ⟨a, c, R⟩)) := Lib.hid (by have := tot_all (Tab.con ⟨a, c, R⟩); simpa [Tab.con] using this)
  obtain ⟨T, hT⟩ : ∃ T, T = Tab.con ⟨a, c, R⟩ := ⟨_, rfl⟩
  show Calls _ _ #[.slice a R.length c, .int .i64 left] w _
  rw [← hT] at hcon hall ⊢
  clear h1 h2 h3 hrows hmax hT
  have cs := fun (a' : Option Addr) (c' n : Nat) (left' : Int) (hn : n ≤ maxLen) (h0 : 0 ≤ left') (h1 : left' ≤ 1048576) => szInts_any a' c' n left' w hn h0 h1
  have CS := Lib.hid cs
  clear cs
  by_cases hneg : left - (R.length : Int) < 0
  · go_enter Try.func26, Try.ntmps26
    go_wp2
    go_ret
    exact ⟨⟨-1, rfl, fun h => by omega, by omega⟩, rfl⟩
  go_enter Try.func26, Try.ntmps26
  go_wp2
  go_loopw [1, 5] (fun x i wr => ∃ (k : Nat) (r : Int), k ≤ R.length ∧ i = .int .i64 k ∧ x = .int .i64 r ∧ 0 ≤ r ∧ r ≤ 1048576 ∧ r + R.length + tot (T.take k) ≤ left ∧ w = wr) (fun _ i _ => R.length - (intOf i).toNat)
  case atStart => exact ⟨0, left - R.length, Nat.zero_le _, rfl, rfl, by omega, by omega, by simp [tot], rfl⟩
  case round =>
    obtain ⟨k, r, hk, rfl, rfl, hr0, hr1, hsum, rfl⟩ := hrel
    have HS := Lib.hid hsum
    clear hsum
    by_cases hlt : k < R.length
    · have hlti : (k : Int) < (R.length : Int) := by omega
      rcases H3.out with h3 | ⟨b, o, rfl, hb, hcell⟩
      · have h3' := congrArg List.length h3; rw [tv_length, List.length_nil] at h3'; omega
      obtain ⟨x, hx⟩ : ∃ x, x = R[k] := ⟨_, rfl⟩
      have hcl : w.cell? ⟨b, o + k, none⟩ = some (.slice x.a x.l.length x.c) := by rw [hx]; exact hcell k _ (tv_at hlt)
      have hxm : x.l.length ≤ maxLen := HM.out x (by rw [hx]; exact List.getElem_mem hlt)
      have HX := hcon.out k hlt
      rw [← hx] at HX
      have HXX := Lib.hid HX
      clear hx hcell HX H3
      go_wp2_with fail
      refine (CS.out x.a x.c x.l.length r hxm hr0 hr1).mono ?_
      rintro e W ⟨⟨r', rfl, hr', hr1'⟩, rfl⟩
      by_cases hng : r' < 0
      · go_wp2
        go_ret
        exact ⟨⟨-1, rfl, fun h => by omega, by omega⟩, rfl⟩
      · have hr2 := hr' (by omega)
        go_wp2
        go_roundw
        case rel => exact ⟨k + 1, r', by omega, by go_num, rfl, by omega, hr1', by have := HS.out; have := HXX.out; omega, by first | rfl | trivial⟩
        case measure => simp [intOf]; omega
    · obtain rfl : k = R.length := by omega
      go_wp2
      go_ret
      exact ⟨⟨r, rfl, fun _ => by have := HS.out; rw [hall.out] at this; omega, hr1⟩, rfl⟩

set_option maxHeartbeats 600000 in
theorem szFld_any (F : Fld) (left : Int) (w : World) (hF : F.At w) (hl0 : 0 ≤ left) (hl1 : left ≤ 1048576) :
    Calls Try.prog 6 #[F.val, .int .i64 left] w fun e w' => (∃ r : Int, e = .returned (.int .i64 r) ∧ (0 ≤ r → r + F.o.l.length + F.t.R.length + tot F.t.con ≤ left) ∧ r ≤ 1048576) ∧ Below w.heap.size w w' := by
  have hb := (Below.refl w.heap.size w).alloc (Nat.le_refl _) (Obj.cells #[F.o.val, F.t.val] 25)
  obtain ⟨w1, hw1⟩ : ∃ w1, w1 = w.alloc (Obj.cells #[F.o.val, F.t.val] 25) := ⟨_, rfl⟩
  have c1 := szInts_any F.o.a F.o.c F.o.l.length left w1 (by obtain ⟨⟨q1, q2, _⟩, _⟩ := hF; rw [iv_length] at q1; omega) hl0 hl1
  have c2 := fun r (h0 : 0 ≤ r) (h1 : r ≤ 1048576) => szTab_any F.t r w1 (hF.2.on (by rw [hw1]; exact hb)) h0 h1
  have C1 := Lib.hid c1
  have C2 := Lib.hid c2
  have h0 : w1.cell? ⟨w.heap.size, 1, none⟩ = some (.slice F.t.a F.t.R.length F.t.c) := by rw [hw1]; simp [Row.val, Tab.val]
  have HW := Lib.hid hw1
  rw [← hw1] at hb
  clear c1 c2 hF hw1
  show Calls _ _ #[.agg #[.slice F.o.a F.o.l.length F.o.c, .slice F.t.a F.t.R.length F.t.c], .int .i64 left] w _
  go_enter Try.func6, Try.ntmps6
  go_wp2_with fail
  rw [show w.alloc (Obj.cells #[Value.slice F.o.a F.o.l.length F.o.c, Value.slice F.t.a F.t.R.length F.t.c] 25) = w1 from HW.out.symm]
  refine C1.out.mono ?_
  rintro e W ⟨⟨r, rfl, h1, h2⟩, rfl⟩
  by_cases hng : r < 0
  · go_wp2
    go_ret
    exact ⟨⟨-1, rfl, fun h => by omega, by omega⟩, hb⟩
  have h1' := h1 (by omega)
  go_wp2_with fail
  refine (C2.out r (by omega) h2).mono ?_
  rintro e W ⟨⟨r', rfl, h3, h4⟩, rfl⟩
  by_cases hng : r' < 0
  · go_wp2
    go_ret
    exact ⟨⟨-1, rfl, fun h => by omega, by omega⟩, hb⟩
  have h3' := h3 (by omega)
  go_wp2
  go_ret
  exact ⟨⟨r', rfl, fun _ => by omega, h4⟩, hb⟩

set_option maxHeartbeats 1000000 in
/-- The copy of a list: a row of its own with the same numbers. -/
theorem toInts_any (r : Row) (w : World) (hr : r.At w) (hn : r.l.length ≤ 1048576) :
    Calls Try.prog 30 #[.slice r.a r.l.length r.c] w fun e w' => e = .returned (.slice (some ⟨w.heap.size, 0, none⟩) r.l.length r.l.length) ∧ w'.ownsRow w.heap.size 3 1 (.slice (some ⟨w.heap.size, 0, none⟩) r.l.length r.l.length) r.l.length (iv r.l) ∧ Below w.heap.size w w' := by
  obtain ⟨a, c, l⟩ := r
  obtain ⟨h1, h2, h3⟩ := hr
  simp only at h1 h2 h3 hn ⊢
  rw [iv_length] at h1
  unfold maxLen at h2
  obtain ⟨i0, hi, hz0, hz1, hz2⟩ := info_parts infoInt
  obtain ⟨B, hB⟩ : ∃ B, B = w.heap.size := ⟨_, rfl⟩
  have HB := Lib.hid hB
  have hni : (l.length : Int) ≤ 1048576 := by omega
  have hm0 := mix_zero (iv l) (.int .i64 0)
  rw [iv_length] at hm0
  have HM0 := Lib.hid hm0
  have HR := Lib.hid h3
  clear hm0 h3
  go_enter Try.func30, Try.ntmps30
  go_wp2_with (at_make; refine wpList_make_full _ rfl _ _ 22 rfl w.heap.size 3 i0 (.int .i64 0) 1 Try.underlying22 hi hz0 hz1 .i64 .i64 _ _ l.length rfl rfl rfl rfl (by rw [hz2]; omega) (by unfold maxLen; omega) (Nat.le_refl _) ?_; intro w1 hown1 hgrow1)
  have hrow : w1.ownsRow w.heap.size 3 1 (.slice (some ⟨w.heap.size, 0, none⟩) l.length l.length) l.length (mix (iv l) (.int .i64 0) 0) := by
    rw [HM0.out, ← made_row]; rw [Nat.mul_one] at hown1; exact hown1
  have hb1 : Below w.heap.size w w1 := (Below.refl _ _).grown hgrow1 (Nat.le_refl _) (fun k h => by cases h)
  clear hown1 hgrow1
  rw [← hB] at hrow hb1 ⊢
  clear hB
  go_loopw [4] (fun i wr => ∃ k : Nat, k ≤ l.length ∧ i = .int .i64 k ∧ wr.ownsRow B 3 1 (.slice (some ⟨B, 0, none⟩) l.length l.length) l.length (mix (iv l) (.int .i64 0) k) ∧ Below B w wr) (fun i _ => l.length - (intOf i).toNat)
  case atStart => exact ⟨0, Nat.zero_le _, rfl, hrow, hb1⟩
  case round =>
    obtain ⟨k, hk, rfl, hown, hnx⟩ := hrel
    clear hrow hb1
    by_cases hlt : k < l.length
    · rcases HR.out with h3 | ⟨b, o, rfl, hb, hcell⟩
      · have h3' := congrArg List.length (iv_nil h3); rw [List.length_nil] at h3'; omega
      · have hcl : wr.cell? ⟨b, o + k, none⟩ = some (.int .i64 l[k]) := (hnx.cell (p := ⟨b, o + k, none⟩) (by rw [HB.out]; exact hb)).trans (hcell k _ (iv_at hlt))
        obtain ⟨x, hx⟩ : ∃ x, x = l[k] := ⟨_, rfl⟩
        have hml := mix_length (iv l) (.int .i64 0) k (by rw [iv_length]; exact hk)
        rw [iv_length] at hml
        have hc0 : ∃ u, wr.cell? ⟨B, k, none⟩ = some u := ⟨_, (hown.cellAt k (by omega)).trans (List.getElem?_eq_getElem (by rw [hml]; exact hlt))⟩
        obtain ⟨u, hu⟩ := hc0
        have hf := hown.frozenAt k
        have hst := hown.stored k (.int .i64 l[k])
        rw [mix_set _ _ _ k (iv_at hlt)] at hst
        have R2 : Below B w (wr.setCell ⟨B, k, none⟩ (.int .i64 l[k])) := hnx.setCell (p := ⟨B, k, none⟩) (Nat.le_refl _) _
        have R1 := hst.1
        rw [← hx] at R1 R2 hcl
        have HML := Lib.hid hml
        clear hst hown hml hcell hx
        go_wp2
        go_roundw
        case rel => exact ⟨k + 1, by omega, by go_num, R1, R2⟩
        case measure => simp [intOf]; omega
    · obtain rfl : k = l.length := by omega
      have hma := mix_all (iv l) (.int .i64 0)
      rw [iv_length] at hma
      rw [hma] at hown
      clear hma
      go_wp2
      go_ret
      have hBe := HB.out
      clear HB HR
      subst hBe
      exact ⟨rfl, hown, hnx⟩

theorem toInts_row (r : Row) (w : World) (hr : r.At w) (hn : r.l.length ≤ 1048576) :
    Calls Try.prog 30 #[.slice r.a r.l.length r.c] w fun e w' => ∃ s : Row, e = .returned (.slice s.a s.l.length s.c) ∧ s.l = r.l ∧ s.a = some ⟨w.heap.size, 0, none⟩ ∧ s.Own 3 w' ∧ s.In w.heap.size w'.heap.size w' ∧ Below w.heap.size w w' := by
  refine (toInts_any r w hr hn).mono ?_
  rintro e w' ⟨rfl, ho, hb⟩
  have hlt := (owns_lt ho).1
  refine ⟨⟨some ⟨w.heap.size, 0, none⟩, r.l.length, r.l⟩, rfl, rfl, rfl, .inr ⟨_, rfl, owns_base ho⟩, ?_, hb⟩
  obtain ⟨q1, q2, q3⟩ := row_of_owns ho
  refine ⟨q1, q2, ?_⟩
  rcases q3 with q3 | ⟨b, o, e, hbb, hc⟩
  · exact .inl q3
  · simp only [Option.some.injEq, Addr.mk.injEq] at e
    obtain ⟨rfl, rfl, _⟩ := e
    exact .inr ⟨_, _, rfl, Nat.le_refl _, hlt, hlt, hc⟩

set_option maxHeartbeats 600000 in
/-- The comparison of two lists that are the same. -/
theorem eqInts_same (r s : Row) (w : World) (hr : r.At w) (hs : s.At w) (he : r.l = s.l) (hn : r.l.length ≤ 1048576) :
    Calls Try.prog 10 #[r.val, s.val] w fun e w' => e = .returned (.bool true) ∧ ∃ k, w' = w.drewN k := by
  obtain ⟨a, c, l⟩ := r
  obtain ⟨a', c', l'⟩ := s
  simp only at he hn
  subst he
  obtain ⟨h1, h2, h3⟩ := hr
  obtain ⟨h1', h2', h3'⟩ := hs
  simp only at h3 h3'
  have hni : (l.length : Int) ≤ 1048576 := by omega
  have HR := Lib.hid h3
  have HR' := Lib.hid h3'
  clear h1 h1' h2 h2' h3 h3'
  show Calls _ _ #[.slice a l.length c, .slice a' l.length c'] w _
  go_enter Try.func10, Try.ntmps10
  go_wp2
  go_loopw [5] (fun i wr => ∃ k d : Nat, k ≤ l.length ∧ i = .int .i64 k ∧ wr = w.drewN d) (fun i _ => l.length - (intOf i).toNat)
  case atStart => exact ⟨0, 0, Nat.zero_le _, rfl, rfl⟩
  case round =>
    obtain ⟨k, d, hk, rfl, rfl⟩ := hrel
    by_cases hlt : k < l.length
    · rcases HR.out with h3 | ⟨b, o, rfl, hb, hcell⟩
      · have h3' := congrArg List.length (iv_nil h3); rw [List.length_nil] at h3'; omega
      rcases HR'.out with h3 | ⟨b', o', rfl, hb', hcell'⟩
      · have h3' := congrArg List.length (iv_nil h3); rw [List.length_nil] at h3'; omega
      obtain ⟨x, hx⟩ : ∃ x, x = l[k] := ⟨_, rfl⟩
      have hcl : w.cell? ⟨b, o + k, none⟩ = some (.int .i64 x) := by rw [hx]; exact hcell k _ (iv_at hlt)
      have hcl' : w.cell? ⟨b', o' + k, none⟩ = some (.int .i64 x) := by rw [hx]; exact hcell' k _ (iv_at hlt)
      have hlti : (k : Int) < (l.length : Int) := by omega
      clear hx hcell hcell'
      go_wp2
      go_quiet (fail)
      go_wp2
      go_roundw
      case rel => exact ⟨k + 1, _, by omega, by go_num, rfl⟩
      case measure => simp [intOf]; omega
    · obtain rfl : k = l.length := by omega
      go_wp2
      go_ret
      exact ⟨rfl, _, rfl⟩

end Go.Proofs.Ytemflcegkebloaa
