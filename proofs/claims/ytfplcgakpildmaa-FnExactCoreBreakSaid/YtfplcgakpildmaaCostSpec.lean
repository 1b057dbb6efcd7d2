/- The cost of a set of clients and the table of all costs, as the model has them. Condition: a valid Field. -/
import Derived.Test.YtfplcgakpildmaaPartSpec
namespace Go.Proofs.Ytfplcgakpildmaa
open Go.RowKit

theorem bits_some {k m : Nat} (hk : k < 2 ^ m) (h : bitsTo k m = []) : k = 0 := by
  apply Nat.eq_of_testBit_eq
  intro i
  rw [Nat.zero_testBit]
  by_cases hi : i < m
  · cases hb : k.testBit i with
    | false => rfl
    | true =>
      have : i ∈ bitsTo k m := List.mem_filter.2 ⟨List.mem_range.2 hi, hb⟩
      rw [h] at this; cases this
  · exact Nat.testBit_lt_two_pow (Nat.lt_of_lt_of_le hk (Nat.pow_le_pow_right (by omega) (by omega)))
theorem bits_lt {k m j : Nat} (h : j ∈ bitsTo k m) : j < m := List.mem_range.1 (List.mem_filter.1 h).1
theorem bitsTo_zero (m : Nat) : bitsTo 0 m = [] := by unfold bitsTo; simp

set_option maxRecDepth 16000 in
set_option maxHeartbeats 1500000 in
theorem l9Cost_any (F : Fld) (s : Row) (k : Nat) (w : World) (hF : F.At w) (hg : F.good = true) (hs : s.At w) (hT : s.l = up (bitsTo k F.t.R.length)) (hk : k < 2 ^ F.t.R.length) :
    Calls Try.prog 36 #[.agg #[.slice F.o.a F.o.l.length F.o.c, .slice F.t.a F.t.R.length F.t.c], .slice s.a s.l.length s.c] w fun e w' => e = .returned (.int .i64 (costC F k)) ∧ Below w.heap.size w w' := by
  obtain ⟨wA, hA, hbA, bx, hFA, hszA⟩ := laid_fld F w 29 hF
  have hsz := good_sizes hg
  have hTb : ∀ j ∈ bitsTo k F.t.R.length, j < F.t.R.length := fun j hj => bits_lt hj
  have hT7 := bitsTo_len k F.t.R.length
  have CP := Lib.hid (l9Part_any F s (bitsTo k F.t.R.length) wA hFA (hs.on hbA) hT hTb (by omega))
  have HBX : Hid (Box2 wA w.heap.size (.slice F.o.a F.o.l.length F.o.c) (.slice F.t.a F.t.R.length F.t.c) 29) := Lib.hid bx
  have HA : Hid (wA = w.alloc (Obj.cells #[.slice F.o.a F.o.l.length F.o.c, .slice F.t.a F.t.R.length F.t.c] 29)) := Lib.hid hA
  have x0 := HBX.out.c0
  have x1 := HBX.out.c1
  rw [HA.out] at x0 x1
  obtain ⟨T, hTT⟩ : ∃ T, T = bitsTo k F.t.R.length := ⟨_, rfl⟩
  have HC0 : Hid (T = [] → costC F k = 0) := Lib.hid (fun h0 => by rw [bits_some hk (by rw [← hTT]; exact h0)]; rfl)
  have HC1 : Hid (T ≠ [] → ∀ (a : Option Addr) (c : Nat), totT (partF F a c T) (firstB (totT (partF F a c T)) (allSets F.o.l.length)) = costC F k) := Lib.hid (fun h0 a c => by
    refine part_cost hg a c (fun j hj => hTb j (by rw [← hTT]; exact hj)) ?_ hTT
    intro hk0; rw [hTT, hk0, bitsTo_zero] at h0; exact h0 rfl)
  have HPG : Hid (∀ (a : Option Addr) (c : Nat), (partF F a c T).good = true) := Lib.hid (fun a c => partF_good hg a c (fun j hj => hTb j (by rw [← hTT]; exact hj)) (by rw [hTT]; omega))
  rw [hT, up_length, ← hTT]
  rw [← hTT] at CP hT7
  have HSL : Hid (s.l.length = T.length) := Lib.hid (by rw [hT, up_length, hTT])
  rw [HSL.out] at CP
  have HN7 := Lib.hid hsz.2.1
  have HN1 := Lib.hid hsz.1
  have hti : (T.length : Int) ≤ 7 := by omega
  have HBA := Lib.hid hbA
  obtain ⟨n, hn⟩ : ∃ n, n = T.length := ⟨_, rfl⟩
  have HN := Lib.hid hn
  rw [← hn] at CP hti ⊢
  clear hF hA hbA bx hFA hszA hsz hTb hT7 hs hT hk hTT hn hg
  by_cases h0 : n = 0
  · subst h0
    rw [HC0.out (List.eq_nil_of_length_eq_zero HN.out.symm)]
    go_enter Try.func36, Try.ntmps36
    go_wp2
    go_ret
    exact ⟨rfl, by rw [← HA.out]; exact HBA.out⟩
  · have hn0 : ((n : Int) == 0) = false := beq_false_of_ne (by omega)
    have hTne : T ≠ [] := fun e => h0 (by rw [HN.out, e]; rfl)
    have HCC := Lib.hid (HC1.out hTne)
    clear h0 hTne
    go_enter Try.func36, Try.ntmps36
    go_wp2_with fail
    rw [← HA.out]
    refine (show Calls _ _ _ _ _ from CP.out).mono ?_
    rintro e W1 ⟨a, c, rfl, hP, hb1⟩
    obtain ⟨W2, hW2⟩ : ∃ u, u = W1.alloc (Obj.cells #[.slice F.o.a F.o.l.length F.o.c, .slice a n c] 29) := ⟨_, rfl⟩
    have hb2 : Below W1.heap.size W1 W2 := by rw [hW2]; exact below_alloc _ _
    have bx2 : Box2 W2 W1.heap.size (.slice F.o.a F.o.l.length F.o.c) (.slice a n c) 29 := by rw [hW2]; exact Box2.made _ _ _ _
    have hP2 := hP.on hb2
    have hpl : (partF F a c T).t.R.length = n := by rw [partF_len, HN.out]
    have hpo : (partF F a c T).o = F.o := rfl
    have hpta : (partF F a c T).t.a = a := rfl
    have hptc : (partF F a c T).t.c = c := rfl
    obtain ⟨v, hv⟩ : ∃ v, v = costC F k := ⟨_, rfl⟩
    have hU := all_ok HN7.out (firstB_all (φ := totT (partF F a c T)) HN7.out HN1.out)
    have CB := Lib.hid (fun u (hu : Below W2.heap.size W2 u) => by have := l2Best_any (partF F a c T) u (hP2.on hu) (HPG.out a c); unfold Fld.val Row.val Tab.val at this; rw [hpl, hpo, hpta, hptc] at this; exact this)
    have CT := Lib.hid (fun u (hu : Below W2.heap.size W2 u) (y : Row) (hy : y.At u) (hyl : y.l = up (firstB (totT (partF F a c T)) (allSets F.o.l.length))) => by have := l2Total_totT (partF F a c T) y _ u (hP2.on hu) hy (HPG.out a c) hyl hU.1 hU.2.1.2 hU.2.2; rw [HCC.out, ← hv] at this; unfold Fld.val Row.val Tab.val at this; rw [hpl, hpo, hpta, hptc] at this; exact this)
    have HS : Hid (∀ u, Below W2.heap.size W2 u → ((u.cell? ⟨W1.heap.size, 0, none⟩ = some (.slice F.o.a F.o.l.length F.o.c) ∧ u.cell? ⟨W1.heap.size, 1, none⟩ = some (.slice a n c)) ∧ Below W2.heap.size W2 u)) := Lib.hid fun u hu => ⟨⟨(bx2.on hu).c0, (bx2.on hu).c1⟩, hu⟩
    have s0 := HS.out W2.drew (Below.refl _ _).drew
    have HW2 := Lib.hid hW2
    have HB2 := Lib.hid (HBA.out.trans ((hb1.trans (hb2.mono hb1.size)).mono HBA.out.size))
    have hszB2 := HB2.out.size
    have HVV : Hid (v = costC F k) := Lib.hid hv
    clear hb1 hb2 bx2 hP hP2 hpl hpo hpta hptc hU hW2 hv x0 x1
    go_wp2_with fail
    rw [← HW2.out]
    go_region_held3 (fun u => ((u.cell? ⟨W1.heap.size, 0, none⟩ = some (.slice F.o.a F.o.l.length F.o.c) ∧ u.cell? ⟨W1.heap.size, 1, none⟩ = some (.slice a n c)) ∧ Below W2.heap.size W2 u)) (first | exact s0 | exact keep_reg HS.out (by first | assumption | exact And.right (by assumption)) hb1) (first | (go_at_call 65; refine (show Calls _ _ _ _ _ from CB.out _ (by first | assumption | exact And.right (by assumption))).mono ?_; rintro e u1 ⟨y, rfl, hy, hb1⟩; have HY := Lib.hid hy; clear hy) | (go_at_call 64; refine (show Calls _ _ _ _ _ from CT.out _ (by first | assumption | exact And.right (by assumption)) y HY.out.ins.at HY.out.l).mono ?_; rintro e u2 ⟨rfl, hb1⟩))
    refine at_exit (W := W2) (by first | assumption | exact And.right (by assumption)) ?_
    intro W8 hb8
    go_wp2
    go_ret
    exact ⟨by rw [← HVV.out]; rfl, HB2.out.trans (hb8.mono hszB2)⟩

theorem costs_take (F : Fld) {c : Nat} (h : c < 2 ^ F.t.R.length) : (costs F).take (c + 1) = (costs F).take c ++ [costC F c] := by
  rw [List.take_succ_eq_append_getElem (by rw [costs_len]; exact h)]
  simp [costs]
theorem shl_m : ∀ m < 8, wrap64 ((2 : Int) ^ m) = ((2 ^ m : Nat) : Int) := by decide +kernel

set_option maxRecDepth 32000 in
set_option maxHeartbeats 2000000 in
theorem l9Table_any (F : Fld) (w : World) (hF : F.At w) (hg : F.good = true) :
    Calls Try.prog 43 #[.agg #[.slice F.o.a F.o.l.length F.o.c, .slice F.t.a F.t.R.length F.t.c]] w fun e w' => ∃ t : Row, e = .returned (.slice t.a t.l.length t.c) ∧ t.l = costs F ∧ t.Own 3 w' ∧ t.In w.heap.size w'.heap.size w' ∧ Below w.heap.size w w' := by
  obtain ⟨i0, hi, hz0, hz1, hz2⟩ := info_parts infoInt
  obtain ⟨wA, hA, hbA, bx, hFA, hszA⟩ := laid_fld F w 29 hF
  have hsz := good_sizes hg
  have HFA := Lib.hid hFA
  have HBX : Hid (Box2 wA w.heap.size (.slice F.o.a F.o.l.length F.o.c) (.slice F.t.a F.t.R.length F.t.c) 29) := Lib.hid bx
  have HA : Hid (wA = w.alloc (Obj.cells #[.slice F.o.a F.o.l.length F.o.c, .slice F.t.a F.t.R.length F.t.c] 29)) := Lib.hid hA
  have HG := Lib.hid hg
  obtain ⟨m, hm⟩ : ∃ m, m = F.t.R.length := ⟨_, rfl⟩
  have HM := Lib.hid hm
  have hm7 : m ≤ 7 := by omega
  have hmi : (m : Int) ≤ 7 := by omega
  obtain ⟨N, hN⟩ : ∃ N, N = 2 ^ m := ⟨_, rfl⟩
  have HN := Lib.hid hN
  have hsh : wrap64 ((2 : Int) ^ m) = (N : Int) := by rw [hN]; exact shl_m _ (by omega)
  have hN7 : N ≤ 128 := by rw [hN]; have := Nat.pow_le_pow_right (show 0 < 2 by omega) hm7; simpa using this
  have hNi : (N : Int) ≤ 128 := by omega
  have HCN : Hid ((costs F).length = N) := Lib.hid (by rw [costs_len, hN, hm])
  have H0 := Lib.hid (empty_own wA)
  have HB0 := Lib.hid (below_alloc wA (.cells #[] 3))
  have HSZ := Lib.hid hszA
  rw [← hm]
  clear hF hA hFA bx hm hsz hg hN hszA
  have HBA := Lib.hid hbA
  clear hbA
  go_enter Try.func43, Try.ntmps43
  go_wp2
  go_loopw [3, 4] (fun out i wr => ∃ j : Nat, j ≤ N ∧ i = .int .i64 (j : Int) ∧ wr.ownsRow wA.heap.size 3 1 out j (iv ((costs F).take j)) ∧ Below wA.heap.size wA wr) (fun _ i _ => N - (intOf i).toNat)
  case atStart =>
    have e := HA.out
    rw [← HM.out] at e
    have h0 := H0.out
    have h1 := HB0.out
    have hz := HSZ.out
    rw [hz] at h0
    refine ⟨0, Nat.zero_le _, rfl, ?_, ?_⟩
    · rw [← e, hz]; exact h0
    · rw [← e]; exact h1
  case round =>
    obtain ⟨j, hj, rfl, hown0, hnx⟩ := hrel
    have y0 : wr.cell? ⟨w.heap.size, 0, none⟩ = some (.slice F.o.a F.o.l.length F.o.c) := (HBX.out.on hnx).c0
    have y1 : wr.cell? ⟨w.heap.size, 1, none⟩ = some (.slice F.t.a m F.t.c) := by rw [HM.out]; exact (HBX.out.on hnx).c1
    by_cases hlt : j < N
    · have hlti : (j : Int) < (N : Int) := by omega
      obtain ⟨v, hv⟩ : ∃ v, v = costC F j := ⟨_, rfl⟩
      have hjm : j < 2 ^ F.t.R.length := by rw [← HM.out, ← HN.out]; exact hlt
      have HV : Hid ((costs F).take (j + 1) = (costs F).take j ++ [v]) := Lib.hid (by rw [costs_take F hjm, hv])
      have C1 := Lib.hid (fun u => by have := l2Bits_any m j u hm7 (by omega); exact this)
      have C2 := Lib.hid (fun u (hu : Below wA.heap.size wA u) (y : Row) (hy : y.At u) (hl : y.l = up (bitsT m j)) => by have := l9Cost_any F y j u (HFA.out.on hu) HG.out hy (by rw [← HM.out]; exact hl) hjm; rw [← hv, ← HM.out] at this; exact this)
      have hd0 : Below wr.heap.size wr wr.drew := (Below.refl _ _).drew
      have HO := Lib.hid (owns_below hown0 hd0)
      have hN : Below wA.heap.size wA wr.drew := hnx.drew
      have hszr : wA.heap.size ≤ wr.drew.heap.size := hnx.size
      have HS : Hid (∀ u, Below wA.heap.size wA u → ((u.cell? ⟨w.heap.size, 0, none⟩ = some (.slice F.o.a F.o.l.length F.o.c) ∧ u.cell? ⟨w.heap.size, 1, none⟩ = some (.slice F.t.a m F.t.c)) ∧ Below wA.heap.size wA u)) := Lib.hid fun u hu => ⟨⟨(HBX.out.on hu).c0, by rw [HM.out]; exact (HBX.out.on hu).c1⟩, hu⟩
      have s0 := HS.out _ hN
      clear hv hown0 hd0 hnx hjm
      go_wp2_with fail
      go_region_held3 (fun u => ((u.cell? ⟨w.heap.size, 0, none⟩ = some (.slice F.o.a F.o.l.length F.o.c) ∧ u.cell? ⟨w.heap.size, 1, none⟩ = some (.slice F.t.a m F.t.c)) ∧ Below wA.heap.size wA u)) (first | exact s0 | exact HS.out _ (by assumption)) (first | (go_at_call 52; refine (show Calls _ _ _ _ _ from C1.out _).mono ?_; rintro e u1 ⟨y, rfl, hyl, hyo, hyi, hb1⟩; have HYL := Lib.hid hyl; have HYI := Lib.hid hyi; have hB1 : Below wA.heap.size wA u1 := hN.trans (hb1.mono hszr); have HB1 := Lib.hid hb1; have hsz1 := hb1.size; clear hyl hyo hyi hb1) | (go_at_call 36; refine (show Calls _ _ _ _ _ from C2.out _ hB1 y HYI.out.at HYL.out).mono ?_; rintro e u2 ⟨rfl, hb2⟩; have hown := owns_below (owns_below HO.out HB1.out) hb2; have hsz2 := hb2.size; have hB2 : Below wA.heap.size wA u2 := hB1.trans (hb2.mono (by omega)); have hB3 : Below wA.heap.size wA (u2.alloc (.cells #[.int .i64 v] 3)) := hB2.alloc (by omega) _; clear hb2) | (refine step_append_lies _ rfl (.tmp 14) (.tmp 22) 22 rfl wA.heap.size 3 i0 (.int .i64 0) 1 8 Try.underlying22 hi hz0 hz1 hz2 rfl (by decide) _ _ _ rfl (hown.alloc _) ⟨u2.heap.size, 0, none⟩ 1 1 [.int .i64 v] rfl rfl (one_cell _ _ _) (by simp [Value.oneCell']) (by omega) (by unfold maxLen; omega) (by omega) (by simp; omega) _ rfl ?_; intro g cap w1 hown' hgrow hat hlt1; have hB4 : Below wA.heap.size wA w1 := hB3.grown hgrow (by simp; omega) (fun j hj => (hown.lt j hj).1)))
      have R1 : w1.ownsRow wA.heap.size 3 1 (.slice (some ⟨g, 0, none⟩) (j + 1) cap) (j + 1) (iv ((costs F).take (j + 1))) := by rw [HV.out]; simpa [iv] using hown'
      clear hown' hgrow hown hat s0 hB1 hB2 hB3 hsz1 hsz2 y0 y1
      go_wp2
      go_roundw
      case rel => exact ⟨j + 1, by omega, by first | rfl | go_num | (push_cast; rfl), R1, hB4⟩
      case measure => simp [intOf]; omega
    · obtain rfl : j = N := by omega
      have HE := Lib.hid (row_of_own (l := costs F) (by rw [HCN.out]; have := hown0; rw [List.take_of_length_le (by rw [HCN.out]; exact Nat.le_refl _)] at this; exact this))
      have HBW := Lib.hid (HBA.out.trans (hnx.mono HBA.out.size))
      have hszw := HBA.out.size
      clear hown0 hnx
      go_wp2
      go_ret
      obtain ⟨t, ht, htl, hto, hti⟩ := HE.out
      exact ⟨t, congrArg Ending.returned ht, htl, hto, hti.wide hszw (Nat.le_refl _), HBW.out⟩
end Go.Proofs.Ytfplcgakpildmaa
