/- The contracts of the tests whether a System is valid, on both sides. Condition: the System reads as such. -/
import Derived.Test.YtbngmjmcmdfphaaPlainSys
import Derived.Test.YtbngmjmcmdfphaaSets
import Derived.Test.YtbngmjmcmdfphaaSysPost
namespace Go.Proofs.Ytbngmjmcmdfphaa
open Go.RowKit

set_option maxHeartbeats 1000000 in
theorem l6Sets_any (T : Tab) (n : Nat) (w : World) (hT : T.At w) (hn : n ≤ 8) :
    Calls Try.prog 47 #[.int .i64 (n : Int), .slice T.a T.R.length T.c] w fun e w' => e = .returned (.bool (T.con.all (setB n) && decide (T.con.length ≤ 8))) ∧ DrewTo w w' := by
  obtain ⟨a, c, R⟩ := T
  obtain ⟨⟨h1, h2, h3⟩, hrows⟩ := hT
  simp only at h1 h2 h3 hrows
  rw [tv_length] at h1
  unfold maxLen at h2
  have hni : (R.length : Int) ≤ 9223372036854775807 := by omega
  have hn8 : (n : Int) ≤ 8 := by omega
  have HR := Lib.hid h3
  have HW := Lib.hid hrows
  have HC : Hid (Tab.con ⟨a, c, R⟩ = R.map Row.l) := Lib.hid rfl
  rw [HC.out]
  clear h3 hrows HC
  show Calls _ _ #[.int .i64 (n : Int), .slice a R.length c] w _
  go_enter Try.func47, Try.ntmps47
  go_wp2
  go_loopw [5] (fun i wr => ∃ k : Nat, k ≤ R.length ∧ i = .int .i64 k ∧ DrewTo w wr ∧ ((R.map Row.l).take k).all (setB n) = true) (fun i _ => R.length - (intOf i).toNat)
  case atStart => exact ⟨0, Nat.zero_le _, rfl, DrewTo.refl _, by simp⟩
  case round =>
    obtain ⟨k, hk, rfl, hdw, hall⟩ := hrel
    have HALL := Lib.hid hall
    clear hall
    by_cases hlt : k < R.length
    · have hlti : (k : Int) < (R.length : Int) := by omega
      rcases HR.out with h3 | ⟨b, o, rfl, hbb, hcell⟩
      · have h3' := congrArg List.length h3; rw [tv_length, List.length_nil] at h3'; omega
      obtain ⟨x, hx⟩ : ∃ x, x = R[k] := ⟨_, rfl⟩
      have hcl : wr.cell? ⟨b, o + k, none⟩ = some (.slice x.a x.l.length x.c) := by rw [hdw.cell, hx]; exact hcell k _ (tv_at hlt)
      have CR := rising_any x n wr ((HW.out x (by rw [hx]; exact List.getElem_mem hlt)).on hdw.below) (by omega)
      have HX : Hid ((R.map Row.l)[k]'(by simpa using hlt) = x.l) := Lib.hid (by rw [hx]; simp)
      clear hx hcell
      by_cases hp : setB n x.l = true
      · rw [hp] at CR
        have CR1 := Lib.hid CR
        have HS : Hid (((R.map Row.l).take (k + 1)).all (setB n) = true) := Lib.hid (all_take (by simpa using hlt) HALL.out (by rw [HX.out]; exact hp))
        clear hp CR
        go_wp2_with fail
        refine CR1.out.mono ?_
        rintro e W ⟨rfl, d, rfl⟩
        have hdw2 := hdw.more d
        go_wp2
        go_roundw
        case rel => exact ⟨k + 1, by omega, by go_num, hdw2, HS.out⟩
        case measure => simp [intOf]; omega
      · have hp1 : setB n x.l = false := by simpa using hp
        rw [hp1] at CR
        have CR1 := Lib.hid CR
        have HS : Hid ((R.map Row.l).all (setB n) = false) := Lib.hid (all_out (by simpa using hlt) (by rw [HX.out]; exact hp1))
        clear hp hp1 CR
        go_wp2_with fail
        refine CR1.out.mono ?_
        rintro e W ⟨rfl, d, rfl⟩
        go_wp2
        go_ret
        exact ⟨by rw [HS.out]; rfl, hdw.more d⟩
    · obtain rfl : k = R.length := by omega
      have HS : Hid ((R.map Row.l).all (setB n) = true) := Lib.hid (all_end (by rw [List.length_map]; exact HALL.out))
      go_wp2
      go_ret
      refine ⟨?_, hdw⟩
      rw [HS.out, List.length_map]
      have : decide ((R.length : Int) ≤ 8) = decide (R.length ≤ 8) := by rw [Bool.eq_iff_iff]; simp; omega
      rw [Bool.true_and, ← this]; rfl

/-- A System that has been laid as a function's own variable. -/
theorem laid_sys (S : Sys) (w : World) (t : TypeId) (hS : S.At w) : ∃ wA, wA = w.alloc (Obj.cells #[.int .i64 S.n, .slice S.f.t.a S.f.t.R.length S.f.t.c, .slice S.f.o.a S.f.o.l.length S.f.o.c] t) ∧ Below w.heap.size w wA ∧ Box3 wA w.heap.size (.int .i64 S.n) (.slice S.f.t.a S.f.t.R.length S.f.t.c) (.slice S.f.o.a S.f.o.l.length S.f.o.c) t ∧ S.f.At wA ∧ wA.heap.size = w.heap.size + 1 :=
  ⟨_, rfl, below_alloc _ _, Box3.made _ _ _ _ _, hS.on (below_alloc _ _), size_alloc _ _⟩

set_option maxHeartbeats 1500000 in
theorem l6Good_any (S : Sys) (w : World) (hS : S.At w) :
    Calls Try.prog 24 #[.agg #[.int .i64 S.n, .slice S.f.t.a S.f.t.R.length S.f.t.c, .slice S.f.o.a S.f.o.l.length S.f.o.c]] w fun e w' => e = .returned (.bool S.good) ∧ Below w.heap.size w w' := by
  obtain ⟨wA, hA, hb, bx, hFA, _⟩ := laid_sys S w 29 hS
  obtain ⟨m, ⟨⟨oa, oc, ol⟩, T⟩⟩ := S
  have x0 : wA.cell? ⟨w.heap.size, 0, none⟩ = some (.int .i64 m) := bx.c0
  have x1 : wA.cell? ⟨w.heap.size, 1, none⟩ = some (.slice T.a T.R.length T.c) := bx.c1
  have x2 : wA.cell? ⟨w.heap.size, 2, none⟩ = some (.slice oa ol.length oc) := bx.c2
  obtain ⟨⟨g1, g2, g3⟩, hTA⟩ := hFA
  simp only at g1 g2 g3 hTA
  rw [iv_length] at g1
  unfold maxLen at g2
  have hoi : (ol.length : Int) ≤ 9223372036854775807 := by omega
  have HR := Lib.hid g3
  have HTA := Lib.hid hTA
  have HA := Lib.hid hA
  have CI := Lib.hid fun x a b W => l1In_any x a b W
  have HG : Hid (Sys.good ⟨m, ⟨⟨oa, oc, ol⟩, T⟩⟩ = sysB m ol T.con) := Lib.hid rfl
  rw [HG.out]
  have hTl : Hid (T.con.length = T.R.length) := Lib.hid (con_length T)
  clear g3 hTA hA bx hS HG
  show Calls _ _ #[.agg #[.int .i64 m, .slice T.a T.R.length T.c, .slice oa ol.length oc]] w _
  go_enter Try.func24, Try.ntmps24
  go_wp2
  go_loopw [3] (fun i wr => ∃ k : Nat, k ≤ ol.length ∧ i = .int .i64 k ∧ wA = wr ∧ (ol.take k).all (fromTo 1 99) = true) (fun i _ => ol.length - (intOf i).toNat)
  case atStart => exact ⟨0, Nat.zero_le _, rfl, HA.out, by simp⟩
  case round =>
    obtain ⟨k, hk, rfl, rfl, hall⟩ := hrel
    have HALL := Lib.hid hall
    clear hall
    by_cases hlt : k < ol.length
    · have hlti : (k : Int) < (ol.length : Int) := by omega
      rcases HR.out with h3 | ⟨b, o, rfl, hbb, hcell⟩
      · have h3' := congrArg List.length (iv_nil h3); rw [List.length_nil] at h3'; omega
      obtain ⟨x, hx⟩ : ∃ x, x = ol[k] := ⟨_, rfl⟩
      have hcl : wA.cell? ⟨b, o + k, none⟩ = some (.int .i64 x) := by rw [hx]; exact hcell k _ (iv_at hlt)
      have HX := Lib.hid hx
      clear hx hcell
      have c1 := CI.out x 1 99 wA
      by_cases hp : fromTo 1 99 x = true
      · rw [show (decide (1 ≤ x) && decide (x ≤ 99)) = true from hp] at c1
        have C1 := Lib.hid c1
        have HS : Hid ((ol.take (k + 1)).all (fromTo 1 99) = true) := Lib.hid (all_take hlt HALL.out (by rw [← HX.out]; exact hp))
        clear hp c1
        go_wp2_with fail
        refine C1.out.mono ?_
        rintro e W ⟨rfl, rfl⟩
        go_wp2
        go_roundw
        case rel => exact ⟨k + 1, by omega, by go_num, by first | rfl | trivial, HS.out⟩
        case measure => simp [intOf]; omega
      · have hp1 : fromTo 1 99 x = false := by simpa using hp
        rw [show (decide (1 ≤ x) && decide (x ≤ 99)) = false from hp1] at c1
        have C1 := Lib.hid c1
        have HS : Hid (sysB m ol T.con = false) := Lib.hid (sysB_noCost (all_out hlt (by rw [← HX.out]; exact hp1)))
        clear hp hp1 c1
        go_wp2_with fail
        refine C1.out.mono ?_
        rintro e W ⟨rfl, rfl⟩
        go_wp2
        go_ret
        exact ⟨by rw [HS.out]; rfl, hb⟩
    · obtain rfl : k = ol.length := by omega
      have HS : Hid (ol.all (fromTo 1 99) = true) := Lib.hid (all_end HALL.out)
      have c1 := CI.out m 0 8 wA
      by_cases hm : 0 ≤ m ∧ m ≤ 8
      · obtain ⟨n, rfl⟩ : ∃ n : Nat, m = n := ⟨m.toNat, by omega⟩
        have hn : n ≤ 8 := by omega
        rw [show (decide ((0 : Int) ≤ n) && decide ((n : Int) ≤ 8)) = true by simp [hm.1]; omega] at c1
        have C1 := Lib.hid c1
        have c2 := l6Sets_any T n wA HTA.out hn
        obtain ⟨v, hv⟩ : ∃ v, v = (T.con.all (setB n) && decide (T.con.length ≤ 8)) := ⟨_, rfl⟩
        rw [← hv] at c2
        have C2 := Lib.hid c2
        have HV := Lib.hid hv
        clear c1 c2 hv hm
        go_wp2_with fail
        refine C1.out.mono ?_
        rintro e W ⟨rfl, rfl⟩
        go_wp2_with fail
        refine C2.out.mono ?_
        rintro e W ⟨rfl, d, rfl⟩
        have hbd := hb.trans ((below_draws _ d).mono hb.size)
        have HF : Hid (sysB (n : Int) ol T.con = (v && decide (ol.length = T.R.length))) := Lib.hid (by
          rw [HV.out, ← hTl.out]
          unfold sysB
          rw [HS.out, Int.toNat_natCast, show decide ((0 : Int) ≤ (n : Int)) = true by simp, show decide ((n : Int) ≤ 8) = true by simp; omega]
          generalize T.con.all (setB n) = x
          generalize decide (T.con.length ≤ 8) = y
          generalize decide (ol.length = T.con.length) = z
          cases x <;> cases y <;> cases z <;> rfl)
        cases v with
        | false =>
          go_wp2
          go_ret
          exact ⟨by rw [HF.out]; rfl, hbd⟩
        | true =>
          have hti : (T.R.length : Int) ≤ 9223372036854775807 := by obtain ⟨⟨q1, q2, _⟩, _⟩ := HTA.out; rw [tv_length] at q1; unfold maxLen at q2; omega
          go_wp2
          go_ret
          refine ⟨?_, hbd⟩
          rw [HF.out, Bool.true_and, ← nat_eqB]; rfl
      · have hgo : Hid (sysB m ol T.con = false) := Lib.hid (sysB_no (fun h => hm ⟨h.1, h.2.1⟩))
        rw [show (decide ((0 : Int) ≤ m) && decide (m ≤ 8)) = false by rw [Bool.and_eq_false_iff, decide_eq_false_iff_not, decide_eq_false_iff_not]; omega] at c1
        have C1 := Lib.hid c1
        clear c1 hm
        go_wp2_with fail
        refine C1.out.mono ?_
        rintro e W ⟨rfl, rfl⟩
        go_wp2
        go_ret
        exact ⟨by rw [hgo.out]; rfl, hb⟩

set_option maxHeartbeats 1500000 in
theorem implIsSystem_any (S : Sys) (w : World) (hS : S.At w) :
    Calls Try.prog 40 #[.agg #[.int .i64 S.n, .slice S.f.t.a S.f.t.R.length S.f.t.c, .slice S.f.o.a S.f.o.l.length S.f.o.c]] w fun e w' => e = .returned (.bool S.good) ∧ Below w.heap.size w w' := by
  obtain ⟨wA, hA, hb, bx, hFA, _⟩ := laid_sys S w 29 hS
  obtain ⟨m, ⟨⟨oa, oc, ol⟩, ⟨a, c, R⟩⟩⟩ := S
  have x0 : wA.cell? ⟨w.heap.size, 0, none⟩ = some (.int .i64 m) := bx.c0
  have x1 : wA.cell? ⟨w.heap.size, 1, none⟩ = some (.slice a R.length c) := bx.c1
  have x2 : wA.cell? ⟨w.heap.size, 2, none⟩ = some (.slice oa ol.length oc) := bx.c2
  obtain ⟨⟨g1, g2, g3⟩, ⟨h1, h2, h3⟩, hrows⟩ := hFA
  simp only at g1 g2 g3 h1 h2 h3 hrows
  rw [iv_length] at g1
  rw [tv_length] at h1
  unfold maxLen at g2 h2
  have hoi : (ol.length : Int) ≤ 9223372036854775807 := by omega
  have hni : (R.length : Int) ≤ 9223372036854775807 := by omega
  have HO := Lib.hid g3
  have HR := Lib.hid h3
  have HW := Lib.hid hrows
  have HA := Lib.hid hA
  have HG : Hid (Sys.good ⟨m, ⟨⟨oa, oc, ol⟩, ⟨a, c, R⟩⟩⟩ = sysB m ol (R.map Row.l)) := Lib.hid rfl
  rw [HG.out]
  clear g3 h3 hrows bx hS HG
  show Calls _ _ #[.agg #[.int .i64 m, .slice a R.length c, .slice oa ol.length oc]] w _
  change wA = w.alloc (Obj.cells #[.int .i64 m, .slice a R.length c, .slice oa ol.length oc] 29) at hA
  have HA := Lib.hid hA
  by_cases hgo : ¬ (0 ≤ m ∧ m ≤ 8 ∧ R.length ≤ 8 ∧ ol.length = R.length)
  · have HN : Hid (sysB m ol (R.map Row.l) = false) := Lib.hid (sysB_no (by rw [List.length_map]; exact hgo))
    rw [HN.out]
    by_cases a1 : m < 0
    · rw [hA] at x0
      clear hA
      go_enter Try.func40, Try.ntmps40
      go_wp2
      go_ret
      exact ⟨rfl, by rw [← HA.out]; exact hb⟩
    by_cases a2 : 8 < m
    · rw [hA] at x0
      clear hA
      go_enter Try.func40, Try.ntmps40
      go_wp2
      go_ret
      exact ⟨rfl, by rw [← HA.out]; exact hb⟩
    by_cases a3 : 8 < R.length
    · have a3' : (8 : Int) < (R.length : Int) := by omega
      clear hA
      go_enter Try.func40, Try.ntmps40
      go_wp2
      go_ret
      exact ⟨rfl, by rw [← HA.out]; exact hb⟩
    have a4 : ((ol.length : Int) != (R.length : Int)) = true := by rw [nat_neB]; simp; omega
    have a3' : ¬ (8 : Int) < (R.length : Int) := by omega
    clear hA hgo
    go_enter Try.func40, Try.ntmps40
    go_wp2
    go_ret
    exact ⟨rfl, by rw [← HA.out]; exact hb⟩
  have hm0 : 0 ≤ m := by omega
  have hm1 : m ≤ 8 := by omega
  have hR8 : R.length ≤ 8 := by omega
  have hoR : ol.length = R.length := by omega
  obtain ⟨n, rfl⟩ : ∃ n : Nat, m = n := ⟨m.toNat, by omega⟩
  have hne : ((ol.length : Int) != (R.length : Int)) = false := by rw [nat_neB, hoR]; simp
  have HOR := Lib.hid hoR
  have hRi : (R.length : Int) ≤ 8 := by omega
  have ho1 : R.length ≤ ol.length := by omega
  have ho2 : ol.length ≤ R.length := by omega
  clear hgo hoR hA
  go_enter Try.func40, Try.ntmps40
  go_wp2
  go_loopw [3, 4, 5, 32] (fun _ _ _ i wr => ∃ k : Nat, k ≤ R.length ∧ i = .int .i64 k ∧ wA = wr ∧ (ol.take k).all (fromTo 1 99) = true ∧ ((R.map Row.l).take k).all (setB n) = true) (fun _ _ _ i _ => R.length - (intOf i).toNat)
  case atStart => exact ⟨0, Nat.zero_le _, rfl, HA.out, by simp, by simp⟩
  case round =>
    obtain ⟨k, hk, rfl, rfl, hall, hall2⟩ := hrel
    have HALL := Lib.hid hall
    have HALL2 := Lib.hid hall2
    clear hall hall2
    by_cases hlt : k < R.length
    · have hlti : (k : Int) < (R.length : Int) := by omega
      have hlto : k < ol.length := by omega
      have hltoi : (k : Int) < (ol.length : Int) := by omega
      rcases HR.out with h3 | ⟨b, o, rfl, hbb, hcell⟩
      · have h3' := congrArg List.length h3; rw [tv_length, List.length_nil] at h3'; omega
      rcases HO.out with h3 | ⟨b', o', rfl, hbb', hcell'⟩
      · have h3' := congrArg List.length (iv_nil h3); rw [List.length_nil] at h3'; omega
      obtain ⟨x, hx⟩ : ∃ x, x = R[k] := ⟨_, rfl⟩
      obtain ⟨y, hy⟩ : ∃ y, y = ol[k] := ⟨_, rfl⟩
      have hcl : wA.cell? ⟨b, o + k, none⟩ = some (.slice x.a x.l.length x.c) := by rw [hx]; exact hcell k _ (tv_at hlt)
      have hcl' : wA.cell? ⟨b', o' + k, none⟩ = some (.int .i64 y) := by rw [hy]; exact hcell' k _ (iv_at hlto)
      have CR := ascends_any x n wA (HW.out x (by rw [hx]; exact List.getElem_mem hlt)) (by omega)
      have HX : Hid ((R.map Row.l)[k]'(by simpa using hlt) = x.l) := Lib.hid (by rw [hx]; simp)
      have HY := Lib.hid hy
      clear hx hcell hy hcell'
      by_cases hp : fromTo 1 99 y = true
      · have hq := fromTo_iff.1 hp
        obtain ⟨q1, q2⟩ := hq
        have HS1 : Hid ((ol.take (k + 1)).all (fromTo 1 99) = true) := Lib.hid (all_take hlto HALL.out (by rw [← HY.out]; exact hp))
        by_cases hp2 : setB n x.l = true
        · rw [hp2] at CR
          have CR1 := Lib.hid CR
          have HS : Hid (((R.map Row.l).take (k + 1)).all (setB n) = true) := Lib.hid (all_take (by simpa using hlt) HALL2.out (by rw [HX.out]; exact hp2))
          clear hp hp2 CR
          go_wp2_with fail
          refine CR1.out.mono ?_
          rintro e W ⟨rfl, rfl⟩
          go_wp2
          go_roundw
          case rel => exact ⟨k + 1, by omega, by go_num, by first | rfl | trivial, HS1.out, HS.out⟩
          case measure => simp [intOf]; omega
        · have hp1 : setB n x.l = false := by simpa using hp2
          rw [hp1] at CR
          have CR1 := Lib.hid CR
          have HS : Hid (sysB (n : Int) ol (R.map Row.l) = false) := Lib.hid (sysB_noSet (by rw [Int.toNat_natCast]; exact all_out (by simpa using hlt) (by rw [HX.out]; exact hp1)))
          clear hp hp2 hp1 CR
          go_wp2_with fail
          refine CR1.out.mono ?_
          rintro e W ⟨rfl, rfl⟩
          go_wp2
          go_ret
          exact ⟨by rw [HS.out]; rfl, hb⟩
      · have hp1 : fromTo 1 99 y = false := by simpa using hp
        have HS : Hid (sysB (n : Int) ol (R.map Row.l) = false) := Lib.hid (sysB_noCost (all_out hlto (by rw [← HY.out]; exact hp1)))
        have hq : ¬ (1 ≤ y ∧ y ≤ 99) := fun h => hp (fromTo_iff.2 h)
        clear hp hp1 CR
        by_cases q1 : y < 1
        · go_wp2
          go_ret
          exact ⟨by rw [HS.out]; rfl, hb⟩
        · have q2 : 99 < y := by omega
          go_wp2
          go_ret
          exact ⟨by rw [HS.out]; rfl, hb⟩
    · obtain rfl : k = R.length := by omega
      have HS : Hid (sysB (n : Int) ol (R.map Row.l) = true) := Lib.hid (sysB_iff.2 ⟨hm0, hm1, by rw [List.length_map]; exact hR8, by rw [List.length_map]; exact HOR.out, all_end (by rw [HOR.out]; exact HALL.out), by rw [Int.toNat_natCast]; exact all_end (by rw [List.length_map]; exact HALL2.out)⟩)
      go_wp2
      go_ret
      exact ⟨by rw [HS.out]; rfl, hb⟩

end Go.Proofs.Ytbngmjmcmdfphaa
