/- The contracts of the tests whether a Field is valid, on both sides. Condition: the Field reads as such. -/
import Derived.Test.YtemflcegkebloaaBetween
namespace Go.Proofs.Ytemflcegkebloaa
open Go.RowKit

theorem l1In_any (x a b : Int) (w : World) :
    Calls Try.prog 61 #[.int .i64 x, .int .i64 a, .int .i64 b] w fun e w' => e = .returned (.bool (decide (a ≤ x) && decide (x ≤ b))) ∧ w' = w := by
  by_cases h : a ≤ x
  · go_enter Try.func61, Try.ntmps61
    go_wp2
    go_ret
    exact ⟨by simp [h], rfl⟩
  · go_enter Try.func61, Try.ntmps61
    go_wp2
    go_ret
    exact ⟨by simp; omega, rfl⟩

set_option maxHeartbeats 600000 in
theorem l2Row_any (r : Row) (n : Nat) (w : World) (hr : r.At w) :
    Calls Try.prog 60 #[.slice r.a r.l.length r.c, .int .i64 n, .int .i64 99] w fun e w' => e = .returned (.bool (rowB n r.l)) ∧ w' = w := by
  obtain ⟨a, c, l⟩ := r
  obtain ⟨h1, h2, h3⟩ := hr
  simp only at h1 h2 h3 ⊢
  rw [iv_length] at h1
  unfold maxLen at h2
  have hni : (l.length : Int) ≤ 9223372036854775807 := by omega
  have HR := Lib.hid h3
  clear h3
  have ci := Lib.hid fun x W => l1In_any x 0 99 W
  go_enter Try.func60, Try.ntmps60
  go_wp2
  go_loopw [7] (fun i wr => ∃ k : Nat, k ≤ l.length ∧ i = .int .i64 k ∧ w = wr ∧ (l.take k).all (upTo 99) = true) (fun i _ => l.length - (intOf i).toNat)
  case atStart => exact ⟨0, Nat.zero_le _, rfl, rfl, by simp⟩
  case round =>
    obtain ⟨k, hk, rfl, rfl, hall⟩ := hrel
    have HALL := Lib.hid hall
    clear hall
    by_cases hlt : k < l.length
    · have hlti : (k : Int) < (l.length : Int) := by omega
      rcases HR.out with h3 | ⟨b, o, rfl, hb, hcell⟩
      · have h3' := congrArg List.length (iv_nil h3); rw [List.length_nil] at h3'; omega
      obtain ⟨x, hx⟩ : ∃ x, x = l[k] := ⟨_, rfl⟩
      have hcl : w.cell? ⟨b, o + k, none⟩ = some (.int .i64 x) := by rw [hx]; exact hcell k _ (iv_at hlt)
      have HX := Lib.hid hx
      clear hx hcell
      by_cases hp : upTo 99 x = true
      · have hp' : (decide (0 ≤ x) && decide (x ≤ 99)) = true := hp
        have ci1 := Lib.hid (fun W => by have := ci.out x W; rw [hp'] at this; exact this : ∀ W, Calls Try.prog 61 #[.int .i64 x, .int .i64 0, .int .i64 99] W fun e w' => e = .returned (.bool true) ∧ w' = W)
        have HS : Hid ((l.take (k + 1)).all (upTo 99) = true) := Lib.hid (all_take hlt HALL.out (by rw [← HX.out]; exact hp))
        clear hp hp'
        go_wp2_with fail
        refine (ci1.out _).mono ?_
        rintro e W ⟨rfl, rfl⟩
        go_wp2
        go_roundw
        case rel => exact ⟨k + 1, by omega, by go_num, by first | rfl | trivial, HS.out⟩
        case measure => simp [intOf]; omega
      · have hp1 : upTo 99 x = false := by simpa using hp
        have hp' : (decide (0 ≤ x) && decide (x ≤ 99)) = false := hp1
        have ci1 := Lib.hid (fun W => by have := ci.out x W; rw [hp'] at this; exact this : ∀ W, Calls Try.prog 61 #[.int .i64 x, .int .i64 0, .int .i64 99] W fun e w' => e = .returned (.bool false) ∧ w' = W)
        have HS : Hid (l.all (upTo 99) = false) := Lib.hid (all_out hlt (by rw [← HX.out]; exact hp1))
        clear hp hp' hp1
        go_wp2_with fail
        refine (ci1.out _).mono ?_
        rintro e W ⟨rfl, rfl⟩
        go_wp2
        go_ret
        exact ⟨by unfold rowB; rw [HS.out]; rfl, rfl⟩
    · obtain rfl : k = l.length := by omega
      have HS := Lib.hid (all_end HALL.out)
      go_wp2
      go_ret
      exact ⟨by unfold rowB; rw [HS.out, Bool.true_and, ← nat_eqB]; rfl, rfl⟩

theorem allWithin_any (r : Row) (w : World) (hr : r.At w) :
    Calls Try.prog 79 #[.slice r.a r.l.length r.c, .int .i64 99] w fun e w' => e = .returned (.bool (r.l.all (upTo 99))) ∧ Below w.heap.size w w' := allWithinM_any 99 r w hr

set_option maxHeartbeats 1000000 in
theorem l2Good_any (F : Fld) (w : World) (hF : F.At w) :
    Calls Try.prog 45 #[F.val] w fun e w' => e = .returned (.bool F.good) ∧ Below w.heap.size w w' := by
  have hb := below_alloc w (Obj.cells #[F.o.val, F.t.val] 29)
  obtain ⟨wA, hA⟩ : ∃ wA, wA = w.alloc (Obj.cells #[F.o.val, F.t.val] 29) := ⟨_, rfl⟩
  have bx : Box2 wA w.heap.size F.o.val F.t.val 29 := by rw [hA]; exact Box2.made _ _ _ _
  rw [← hA] at hb
  have hF' := hF.on hb
  have HCO := Lib.hid (l2Row_any F.o F.o.l.length wA hF'.1)
  obtain ⟨⟨oa, oc, ol⟩, ⟨a, c, R⟩⟩ := F
  have x0 : wA.cell? ⟨w.heap.size, 0, none⟩ = some (.slice oa ol.length oc) := bx.c0
  have x1 : wA.cell? ⟨w.heap.size, 1, none⟩ = some (.slice a R.length c) := bx.c1
  obtain ⟨⟨g1, g2, _⟩, ⟨h1, h2, h3⟩, hrows⟩ := hF'
  simp only at g1 g2 h1 h2 h3 hrows HCO
  rw [tv_length] at h1
  rw [iv_length] at g1
  unfold maxLen at h2 g2
  have hni : (R.length : Int) ≤ 9223372036854775807 := by omega
  have hoi : (ol.length : Int) ≤ 9223372036854775807 := by omega
  have HR := Lib.hid h3
  have HW := Lib.hid hrows
  have HA := Lib.hid hA
  have CI := Lib.hid fun x W => l1In_any x 1 7 W
  have HG : Hid (Fld.good ⟨⟨oa, oc, ol⟩, ⟨a, c, R⟩⟩ = goodB ol (R.map Row.l)) := Lib.hid rfl
  rw [HG.out]
  clear h3 hrows hA bx hF HG
  show Calls _ _ #[.agg #[.slice oa ol.length oc, .slice a R.length c]] w _
  go_enter Try.func45, Try.ntmps45
  go_wp2
  go_loopw [4] (fun i wr => ∃ k : Nat, k ≤ R.length ∧ i = .int .i64 k ∧ wA = wr ∧ ((R.map Row.l).take k).all (rowB ol.length) = true) (fun i _ => R.length - (intOf i).toNat)
  case atStart => exact ⟨0, Nat.zero_le _, rfl, HA.out, by simp⟩
  case round =>
    obtain ⟨k, hk, rfl, rfl, hall⟩ := hrel
    have HALL := Lib.hid hall
    clear hall
    by_cases hlt : k < R.length
    · have hlti : (k : Int) < (R.length : Int) := by omega
      rcases HR.out with h3 | ⟨b, o, rfl, hbb, hcell⟩
      · have h3' := congrArg List.length h3; rw [tv_length, List.length_nil] at h3'; omega
      obtain ⟨x, hx⟩ : ∃ x, x = R[k] := ⟨_, rfl⟩
      have hcl : wA.cell? ⟨b, o + k, none⟩ = some (.slice x.a x.l.length x.c) := by rw [hx]; exact hcell k _ (tv_at hlt)
      have CR := l2Row_any x ol.length wA (HW.out x (by rw [hx]; exact List.getElem_mem hlt))
      have HX : Hid ((R.map Row.l)[k]'(by simpa using hlt) = x.l) := Lib.hid (by rw [hx]; simp)
      clear hx hcell
      by_cases hp : rowB ol.length x.l = true
      · rw [hp] at CR
        have CR1 := Lib.hid CR
        have HS : Hid (((R.map Row.l).take (k + 1)).all (rowB ol.length) = true) := Lib.hid (all_take (by simpa using hlt) HALL.out (by rw [HX.out]; exact hp))
        clear hp CR
        go_wp2_with fail
        refine CR1.out.mono ?_
        rintro e W ⟨rfl, rfl⟩
        go_wp2
        go_roundw
        case rel => exact ⟨k + 1, by omega, by go_num, by first | rfl | trivial, HS.out⟩
        case measure => simp [intOf]; omega
      · have hp1 : rowB ol.length x.l = false := by simpa using hp
        rw [hp1] at CR
        have CR1 := Lib.hid CR
        have HS : Hid (goodB ol (R.map Row.l) = false) := Lib.hid (by
          have : (R.map Row.l).all (rowB ol.length) = false := all_out (by simpa using hlt) (by rw [HX.out]; exact hp1)
          unfold goodB; rw [this]; simp)
        clear hp hp1 CR
        go_wp2_with fail
        refine CR1.out.mono ?_
        rintro e W ⟨rfl, rfl⟩
        go_wp2
        go_ret
        exact ⟨by rw [HS.out]; rfl, hb⟩
    · obtain rfl : k = R.length := by omega
      have HS : Hid ((R.map Row.l).all (rowB ol.length) = true) := Lib.hid (all_end (by rw [List.length_map]; exact HALL.out))
      by_cases hn : 1 ≤ ol.length ∧ ol.length ≤ 7
      · have c1 : Hid (∀ W, Calls Try.prog 61 #[.int .i64 (ol.length : Int), .int .i64 1, .int .i64 7] W fun e w' => e = .returned (.bool true) ∧ w' = W) := Lib.hid fun W => by
          have := CI.out ol.length W; rw [decide_eq_true (by omega : (1 : Int) ≤ ol.length), decide_eq_true (by omega : (ol.length : Int) ≤ 7)] at this; exact this
        go_wp2_with fail
        refine (c1.out _).mono ?_
        rintro e W ⟨rfl, rfl⟩
        obtain ⟨v, hv⟩ : ∃ v, v = rowB ol.length ol := ⟨_, rfl⟩
        rw [← hv] at HCO
        have HV := Lib.hid hv
        clear hv
        go_wp2_with fail
        refine HCO.out.mono ?_
        rintro e W ⟨rfl, rfl⟩
        have HF : Hid (goodB ol (R.map Row.l) = (v && decide (R.length ≤ 7))) := Lib.hid (by
          unfold goodB
          rw [HS.out, HV.out]
          unfold rowB
          rw [decide_eq_true hn.1, decide_eq_true hn.2, List.length_map]
          simp)
        cases v with
        | false =>
          go_wp2
          go_ret
          exact ⟨by rw [HF.out]; rfl, hb⟩
        | true =>
          go_wp2
          go_ret
          refine ⟨?_, hb⟩
          rw [HF.out]
          have : decide ((R.length : Int) ≤ 7) = decide (R.length ≤ 7) := by rw [Bool.eq_iff_iff]; simp; omega
          rw [Bool.true_and, ← this]; rfl
      · have hgo : Hid (goodB ol (R.map Row.l) = false) := Lib.hid (by
          rw [Bool.eq_false_iff]; intro h; have := goodB_iff.1 h; omega)
        have c1 : Hid (∀ W, Calls Try.prog 61 #[.int .i64 (ol.length : Int), .int .i64 1, .int .i64 7] W fun e w' => e = .returned (.bool false) ∧ w' = W) := Lib.hid fun W => by
          have := CI.out ol.length W
          rw [show (decide ((1 : Int) ≤ ol.length) && decide ((ol.length : Int) ≤ 7)) = false by rw [Bool.and_eq_false_iff]; simp; omega] at this; exact this
        go_wp2_with fail
        refine (c1.out _).mono ?_
        rintro e W ⟨rfl, rfl⟩
        go_wp2
        go_ret
        exact ⟨by rw [hgo.out]; rfl, hb⟩

set_option maxHeartbeats 1000000 in
theorem implIsField_any (F : Fld) (w : World) (hF : F.At w) :
    Calls Try.prog 64 #[F.val] w fun e w' => e = .returned (.bool F.good) ∧ Below w.heap.size w w' := by
  have hb := below_alloc w (Obj.cells #[F.o.val, F.t.val] 29)
  obtain ⟨wA, hA⟩ : ∃ wA, wA = w.alloc (Obj.cells #[F.o.val, F.t.val] 29) := ⟨_, rfl⟩
  have bx : Box2 wA w.heap.size F.o.val F.t.val 29 := by rw [hA]; exact Box2.made _ _ _ _
  rw [← hA] at hb
  have hF' := hF.on hb
  have HCO := Lib.hid (allWithin_any F.o wA hF'.1)
  obtain ⟨⟨oa, oc, ol⟩, ⟨a, c, R⟩⟩ := F
  have x0 : wA.cell? ⟨w.heap.size, 0, none⟩ = some (.slice oa ol.length oc) := bx.c0
  have x1 : wA.cell? ⟨w.heap.size, 1, none⟩ = some (.slice a R.length c) := bx.c1
  obtain ⟨⟨g1, g2, _⟩, ⟨h1, h2, h3⟩, hrows⟩ := hF'
  simp only at g1 g2 h1 h2 h3 hrows HCO
  rw [tv_length] at h1
  rw [iv_length] at g1
  unfold maxLen at h2 g2
  have hni : (R.length : Int) ≤ 9223372036854775807 := by omega
  have hoi : (ol.length : Int) ≤ 9223372036854775807 := by omega
  have HR := Lib.hid h3
  have HW := Lib.hid hrows
  have HA := Lib.hid hA
  have HG : Hid (Fld.good ⟨⟨oa, oc, ol⟩, ⟨a, c, R⟩⟩ = goodB ol (R.map Row.l)) := Lib.hid rfl
  rw [HG.out]
  clear h3 hrows hA bx hF HG
  show Calls _ _ #[.agg #[.slice oa ol.length oc, .slice a R.length c]] w _
  by_cases hn : ¬ (1 ≤ ol.length ∧ ol.length ≤ 7 ∧ R.length ≤ 7)
  · have hgo : Hid (goodB ol (R.map Row.l) = false) := Lib.hid (by
      rw [Bool.eq_false_iff]; intro h; have := goodB_iff.1 h; rw [List.length_map] at this; omega)
    rw [hgo.out]
    go_enter Try.func64, Try.ntmps64
    go_wp2
    all_goals go_ret
    all_goals exact ⟨rfl, by rw [← show wA = w.alloc (Obj.cells #[Value.slice oa ol.length oc, Value.slice a R.length c] 29) from HA.out]; exact hb⟩
  have hn1 : 1 ≤ ol.length := by omega
  have hn2 : ol.length ≤ 7 := by omega
  have hn3 : R.length ≤ 7 := by omega
  obtain ⟨v, hv⟩ : ∃ v, v = ol.all (upTo 99) := ⟨_, rfl⟩
  have HV := Lib.hid hv
  rw [← hv] at HCO
  clear hn hv
  go_enter Try.func64, Try.ntmps64
  go_wp2_with fail
  rw [← show wA = w.alloc (Obj.cells #[Value.slice oa ol.length oc, Value.slice a R.length c] 29) from HA.out]
  refine HCO.out.mono ?_
  rintro e w1 ⟨rfl, hb1⟩
  cases v with
  | false =>
    have hgo : Hid (goodB ol (R.map Row.l) = false) := Lib.hid (by unfold goodB; rw [← HV.out]; simp)
    go_wp2
    go_ret
    exact ⟨by rw [hgo.out]; rfl, hb.trans (hb1.mono hb.size)⟩
  | true =>
    have hx1 : w1.cell? ⟨w.heap.size, 1, none⟩ = some (.slice a R.length c) := (hb1.cell (p := ⟨w.heap.size, 1, none⟩) (World.block_lt_of_cell? _ _ x1)).trans x1
    have HB := Lib.hid (hb.trans (hb1.mono hb.size))
    have HW1 := Lib.hid (fun r hr => (HW.out r hr).on hb1 : ∀ r ∈ R, r.At w1)
    have HR1 := Lib.hid (HR.out.imp id fun ⟨b, o, e, hlt, hc⟩ => ⟨b, o, e, Nat.lt_of_lt_of_le hlt hb1.size, fun j x hj => (hb1.cell (p := ⟨b, o + j, none⟩) hlt).trans (hc j x hj)⟩ : tv R = [] ∨ ∃ b o, a = some ⟨b, o, none⟩ ∧ b < w1.heap.size ∧ ∀ j x, (tv R)[j]? = some x → w1.cell? ⟨b, o + j, none⟩ = some x)
    have hlt1 : w.heap.size < w1.heap.size := World.block_lt_of_cell? _ _ hx1
    clear hb1 HW HR x0 x1 HA HCO
    go_wp2
    go_loopw [30] (fun i wr => ∃ k : Nat, k ≤ R.length ∧ i = .int .i64 k ∧ Below w1.heap.size w1 wr ∧ ((R.map Row.l).take k).all (rowB ol.length) = true) (fun i _ => R.length - (intOf i).toNat)
    case atStart => exact ⟨0, Nat.zero_le _, rfl, Below.refl _ _, by simp⟩
    case round =>
      obtain ⟨k, hk, rfl, hnx, hall⟩ := hrel
      have HALL := Lib.hid hall
      clear hall
      by_cases hlt : k < R.length
      · have hlti : (k : Int) < (R.length : Int) := by omega
        rcases HR1.out with h3 | ⟨b, o, rfl, hbb, hcell⟩
        · have h3' := congrArg List.length h3; rw [tv_length, List.length_nil] at h3'; omega
        obtain ⟨x, hx⟩ : ∃ x, x = R[k] := ⟨_, rfl⟩
        have hcl : wr.cell? ⟨b, o + k, none⟩ = some (.slice x.a x.l.length x.c) := (hnx.cell (p := ⟨b, o + k, none⟩) hbb).trans (by rw [hx]; exact hcell k _ (tv_at hlt))
        have hxw := (HW1.out x (by rw [hx]; exact List.getElem_mem hlt)).on hnx
        have CA := allWithin_any x wr hxw
        have HX : Hid ((R.map Row.l)[k]'(by simpa using hlt) = x.l) := Lib.hid (by rw [hx]; simp)
        clear hx hcell hxw
        by_cases hl : x.l.length = ol.length
        · by_cases hp : x.l.all (upTo 99) = true
          · rw [hp] at CA
            have CA1 := Lib.hid CA
            have HS : Hid (((R.map Row.l).take (k + 1)).all (rowB ol.length) = true) := Lib.hid (all_take (by simpa using hlt) HALL.out (by rw [HX.out]; unfold rowB; rw [hp, hl]; simp))
            have hli : ((x.l.length : Int) != (ol.length : Int)) = false := by rw [nat_neB, hl]; simp
            clear hp CA hl
            go_wp2_with fail
            refine CA1.out.mono ?_
            rintro e W ⟨rfl, hb3⟩
            have R2 := hnx.trans (hb3.mono hnx.size)
            clear hb3 hnx
            go_wp2
            go_roundw
            case rel => exact ⟨k + 1, by omega, by go_num, R2, HS.out⟩
            case measure => simp [intOf]; omega
          · have hp1 : x.l.all (upTo 99) = false := by simpa using hp
            rw [hp1] at CA
            have CA1 := Lib.hid CA
            have HS : Hid (goodB ol (R.map Row.l) = false) := Lib.hid (by
              have : (R.map Row.l).all (rowB ol.length) = false := all_out (by simpa using hlt) (by rw [HX.out]; unfold rowB; rw [hp1]; simp)
              unfold goodB; rw [this]; simp)
            have hli : ((x.l.length : Int) != (ol.length : Int)) = false := by rw [nat_neB, hl]; simp
            clear hp hp1 CA hl
            go_wp2_with fail
            refine CA1.out.mono ?_
            rintro e W ⟨rfl, hb3⟩
            go_wp2
            go_ret
            exact ⟨by rw [HS.out]; rfl, HB.out.trans ((hnx.trans (hb3.mono hnx.size)).mono HB.out.size)⟩
        · have HS : Hid (goodB ol (R.map Row.l) = false) := Lib.hid (by
            have : (R.map Row.l).all (rowB ol.length) = false := all_out (by simpa using hlt) (by rw [HX.out]; unfold rowB; simp [hl])
            unfold goodB; rw [this]; simp)
          have hli : ((x.l.length : Int) != (ol.length : Int)) = true := by rw [nat_neB]; simp [hl]
          clear CA hl
          go_wp2
          go_ret
          exact ⟨by rw [HS.out]; rfl, HB.out.trans (hnx.mono HB.out.size)⟩
      · obtain rfl : k = R.length := by omega
        have HS : Hid (goodB ol (R.map Row.l) = true) := Lib.hid (by
          have : (R.map Row.l).all (rowB ol.length) = true := all_end (by rw [List.length_map]; exact HALL.out)
          unfold goodB; rw [this, ← HV.out, List.length_map]; simp [hn1, hn2, hn3])
        go_wp2
        go_ret
        exact ⟨by rw [HS.out]; rfl, HB.out.trans (hnx.mono HB.out.size)⟩
end Go.Proofs.Ytemflcegkebloaa
