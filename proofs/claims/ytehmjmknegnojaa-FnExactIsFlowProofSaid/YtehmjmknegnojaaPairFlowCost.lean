/- Both sides of FlowCost answer alike. Condition: the arguments read as such. -/
import Derived.Test.YtehmjmknegnojaaPairIsFlow
namespace Go.Proofs.Ytehmjmknegnojaa
open Go.RowKit

set_option maxRecDepth 16000 in
set_option maxHeartbeats 1500000 in
theorem l7Cost_any (F : Fld) (Y : Tab) (w : World) (hF : F.At w) (hY : Y.At w) (h : Flowed F Y.con) :
    Calls Try.prog 47 #[F.val, .slice Y.a Y.R.length Y.c] w fun e w' => e = .returned (.int .i64 (costV Y.con F.t.con)) ∧ Below w.heap.size w w' := by
  obtain ⟨wA, hA, hbA, bx, hFA, hszA⟩ := laid_fld F w 29 hF
  have hsz := good_sizes h.good
  have hlen := h.len
  rw [con_lenT] at hlen
  have hyi : (Y.R.length : Int) ≤ 7 := by omega
  have hri : (F.t.R.length : Int) ≤ 7 := by omega
  have HC : Hid (∀ k (h : k < Y.R.length) (h' : k < F.t.R.length), ∃ bt ot bf of, Y.a = some ⟨bt, ot, none⟩ ∧ F.t.a = some ⟨bf, of, none⟩ ∧ wA.cell? ⟨bt, ot + k, none⟩ = some (.slice Y.R[k].a Y.R[k].l.length Y.R[k].c) ∧ wA.cell? ⟨bf, of + k, none⟩ = some (.slice F.t.R[k].a F.t.R[k].l.length F.t.R[k].c) ∧ Y.R[k].At wA ∧ F.t.R[k].At wA) := Lib.hid fun k h h' => by
    obtain ⟨bt, ot, hta, _, hct⟩ := tabAll (hY.on hbA) (by omega)
    obtain ⟨bf, of, hfa, _, hcf⟩ := tabAll (hF.on hbA).2 (by omega)
    exact ⟨bt, ot, bf, of, hta, hfa, hct k h, hcf k h', (hY.on hbA).2 _ (List.getElem_mem h), (hF.on hbA).2.2 _ (List.getElem_mem h')⟩
  have x1 : wA.cell? ⟨w.heap.size, 1, none⟩ = some (.slice F.t.a F.t.R.length F.t.c) := bx.c1
  have HX1 := Lib.hid x1
  have HFL := Lib.hid h
  have HLN := Lib.hid hlen
  have HA := Lib.hid hA
  clear hF hY h hA bx hsz hlen x1 hFA
  show Calls _ _ #[.agg #[.slice F.o.a F.o.l.length F.o.c, .slice F.t.a F.t.R.length F.t.c], _] w _
  go_enter Try.func47, Try.ntmps47
  go_wp2
  go_loopw [5, 6, 7] (fun sv jv _ wr => ∃ k : Nat, k ≤ Y.R.length ∧ jv = .int .i64 k ∧ sv = .int .i64 (costTo Y.con F.t.con k) ∧ DrewTo wA wr) (fun _ jv _ _ => Y.R.length - (intOf jv).toNat)
  case atStart => exact ⟨0, Nat.zero_le _, rfl, by rw [cost_zero], by rw [HA.out]; exact DrewTo.refl _⟩
  case round =>
    obtain ⟨k, hk, rfl, rfl, hdw⟩ := hrel
    obtain ⟨V, rfl⟩ : ∃ V, V = wr := ⟨_, rfl⟩
    by_cases hlt : k < Y.R.length
    · have hlti : (k : Int) < (Y.R.length : Int) := by omega
      have hltR : k < F.t.R.length := by have := HLN.out; omega
      have hltRi : (k : Int) < (F.t.R.length : Int) := by omega
      obtain ⟨bt, ot, bf, of, hta, hfa, hct, hcf, hya, hfa2⟩ := HC.out k hlt hltR
      obtain ⟨y, hy⟩ : ∃ x, x = Y.R[k] := ⟨_, rfl⟩
      obtain ⟨f, hf⟩ : ∃ x, x = F.t.R[k] := ⟨_, rfl⟩
      rw [← hy] at hct hya
      rw [← hf] at hcf hfa2
      obtain ⟨h1, h2, h3⟩ := HFL.out.row k (by rw [con_lenT]; exact hlt)
      have hb := HFL.out.cost k (by rw [con_lenT]; omega)
      have hst := cost_step Y.con F.t.con k
      rw [conY_at hlt, ← hy] at h1 h2 hst
      rw [con_getD hltR, ← hf] at h2 h3 hst
      have hsz := good_sizes HFL.out.good
      have hy7 : y.l.length ≤ 7 := by omega
      have hyi7 : (y.l.length : Int) ≤ 7 := by omega
      obtain ⟨c, hc⟩ : ∃ c, c = costTo Y.con F.t.con k := ⟨_, rfl⟩
      rw [← hc] at hst hb ⊢
      have hcb : -979020 ≤ c ∧ c ≤ 979020 := by omega
      have HST := Lib.hid hst
      have HDT := Lib.hid h2
      have HLL : Hid (y.l.length ≤ f.l.length) := Lib.hid (by omega)
      have HIN : Hid (∀ a, a < y.l.length → ∃ b2 o2 b3 o3, y.a = some ⟨b2, o2, none⟩ ∧ f.a = some ⟨b3, o3, none⟩ ∧ wA.cell? ⟨b2, o2 + a, none⟩ = some (.int .i64 (y.l.getD a 0)) ∧ wA.cell? ⟨b3, o3 + a, none⟩ = some (.int .i64 (f.l.getD a 0))) := Lib.hid fun a ha => by
        obtain ⟨b2, o2, g1, _, g2⟩ := rowAll hya (by omega)
        obtain ⟨b3, o3, g3, _, g4⟩ := rowAll hfa2 (by omega)
        exact ⟨b2, o2, b3, o3, g1, g3, g2 a ha, g4 a (by omega)⟩
      have hfi := row_lim hfa2
      have HCT := Lib.hid hct
      have HCF := Lib.hid hcf
      have HFA := Lib.hid hfa
      have HDW := Lib.hid hdw
      rw [hta]
      clear hta hfa hya hfa2 hy hf h1 h2 h3 hst hc hsz hct hcf hb hdw
      go_wp2
      go_loopw [5, 7] (fun sv jv wr => ∃ a : Nat, a ≤ y.l.length ∧ jv = .int .i64 a ∧ sv = .int .i64 (c + dotTo y.l f.l a) ∧ DrewTo wA wr) (fun _ jv _ => y.l.length - (intOf jv).toNat)
      case atStart => exact ⟨0, Nat.zero_le _, rfl, by rw [dot_zero, Int.add_zero], HDW.out⟩
      case round =>
        obtain ⟨a, ha, rfl, rfl, hdw⟩ := hrel
        have hct : wr.cell? ⟨bt, ot + k, none⟩ = some (.slice y.a y.l.length y.c) := by rw [hdw.cell]; exact HCT.out
        by_cases hla : a < y.l.length
        · have hlai : (a : Int) < (y.l.length : Int) := by omega
          have hlfi : (a : Int) < (f.l.length : Int) := by have := HLL.out; omega
          obtain ⟨b2, o2, b3, o3, hya, hfa, hc1', hc2'⟩ := HIN.out a hla
          have hcf : wr.cell? ⟨bf, of + k, none⟩ = some (.slice (some ⟨b3, o3, none⟩) f.l.length f.c) := by rw [hdw.cell, ← hfa]; exact HCF.out
          have z1 : wr.cell? ⟨w.heap.size, 1, none⟩ = some (.slice (some ⟨bf, of, none⟩) F.t.R.length F.t.c) := by rw [hdw.cell, ← HFA.out]; exact HX1.out
          have hm := HDT.out.at a
          have hs := HDT.out.sum a
          have hst := dot_step y.l f.l a
          obtain ⟨x, hx⟩ : ∃ x, x = y.l.getD a 0 := ⟨_, rfl⟩
          obtain ⟨u, hu⟩ : ∃ u, u = f.l.getD a 0 := ⟨_, rfl⟩
          obtain ⟨s, hs'⟩ : ∃ s, s = c + dotTo y.l f.l a := ⟨_, rfl⟩
          rw [← hx, ← hu] at hm hst
          rw [← hx] at hc1'
          rw [← hu] at hc2'
          have hc1 : wr.cell? ⟨b2, o2 + a, none⟩ = some (.int .i64 x) := by rw [hdw.cell]; exact hc1'
          have hc2 : wr.cell? ⟨b3, o3 + a, none⟩ = some (.int .i64 u) := by rw [hdw.cell]; exact hc2'
          obtain ⟨z, hz⟩ : ∃ z, z = x * u := ⟨_, rfl⟩
          rw [← hz] at hm hst
          have HS : Hid (c + dotTo y.l f.l (a + 1) = s + z) := Lib.hid (by rw [hst, hs']; omega)
          have e1 : IntKind.i64.wrap (x * u) = z := by rw [← hz]; exact IntWalk.i64_in _ (by omega)
          have e2 : IntKind.i64.wrap (s + z) = s + z := IntWalk.i64_in _ (by omega)
          rw [hya] at hct
          rw [← hs']
          clear hya hfa hx hu hs' hz hc1' hc2' hst
          go_wp2
          go_quiet (fail)
          go_wp2
          go_roundw
          case rel => exact ⟨a + 1, by omega, by go_num, by rw [HS.out], hdw.more _⟩
          case measure => simp [intOf]; omega
        · obtain rfl : a = y.l.length := by omega
          go_wp2
          go_roundw
          case rel => exact ⟨k + 1, by omega, by go_num, by rw [HST.out], hdw⟩
          case measure => simp [intOf]; omega
    · obtain rfl : k = Y.R.length := by omega
      have HE : Hid (costV Y.con F.t.con = costTo Y.con F.t.con Y.R.length) := Lib.hid (by unfold costV; rw [con_lenT])
      go_wp2
      go_ret
      exact ⟨by rw [HE.out]; rfl, hbA.trans (hdw.below.mono hbA.size)⟩

set_option maxRecDepth 16000 in
set_option maxHeartbeats 1000000 in
theorem specFlowCost_any (F : Fld) (r n s : Row) (Y : Tab) (w : World) (hF : F.At w) (hr : r.At w) (hn : n.At w) (hs : s.At w) (hY : Y.At w) (hYs : Y.Small) (b : Bool) (v : Int) (hb : b = (givenB F r.l n.l s && flowB F r.l n.l s.l Y.con)) (hv : v = if b then costV Y.con F.t.con else 0) :
    Calls Try.prog 23 #[F.val, .slice r.a r.l.length r.c, .slice n.a n.l.length n.c, .slice s.a s.l.length s.c, .slice Y.a Y.R.length Y.c] w (PInt v b w) := by
  obtain ⟨wA, hA, hbA, bx, hFA, _⟩ := laid_fld F w 29 hF
  obtain ⟨g, hg⟩ : ∃ g, g = givenB F r.l n.l s := ⟨_, rfl⟩
  obtain ⟨q, hq⟩ : ∃ q, q = flowB F r.l n.l s.l Y.con := ⟨_, rfl⟩
  have cv := l7Given_any F r n s wA hFA (hr.on hbA) (hn.on hbA) (hs.on hbA)
  rw [← hg] at cv
  have CV := Lib.hid cv
  have CF := Lib.hid (fun W (hW : Below wA.heap.size wA W) (h : g = true) => by
    obtain ⟨T, hS⟩ := supplied (hg.symm.trans h)
    have := l7Flow_any F r n s Y T W (hFA.on hW) ((hr.on hbA).on hW) ((hn.on hbA).on hW) ((hs.on hbA).on hW) ((hY.on hbA).on hW) hYs hS
    rw [hS.same, ← hq] at this; exact this : ∀ W, Below wA.heap.size wA W → g = true → Calls Try.prog 44 #[F.val, .slice r.a r.l.length r.c, .slice n.a n.l.length n.c, .slice s.a s.l.length s.c, .slice Y.a Y.R.length Y.c] W fun e w' => e = .returned (.bool q) ∧ Below W.heap.size W w')
  have CC := Lib.hid (fun W (hW : Below wA.heap.size wA W) (h : g = true) (h' : q = true) => l7Cost_any F Y W (hFA.on hW) ((hY.on hbA).on hW) (flowed_of (hg.symm.trans h) (hq.symm.trans h')))
  have HB : Hid (b = (g && q)) := Lib.hid (by rw [hg, hq]; exact hb)
  have HV := Lib.hid hv
  have HBX := Lib.hid bx
  have HA := Lib.hid hA
  clear hF hr hn hs hY hYs hA bx hFA hb hv hg hq cv
  unfold PInt
  show Calls _ _ #[.agg #[F.o.val, F.t.val], _, _, _, _] w _
  go_enter Try.func23, Try.ntmps23
  go_wp2_with fail
  rw [show w.alloc (Obj.cells #[F.o.val, F.t.val] 29) = wA from HA.out.symm]
  refine (show Calls _ _ _ _ _ from CV.out).mono ?_
  rintro e W1 ⟨rfl, hb1⟩
  have hbw := hbA.trans (hb1.mono hbA.size)
  cases g with
  | false =>
    go_wp2
    go_ret2
    exact ⟨by rw [HV.out, HB.out]; rfl, hbw⟩
  | true =>
    have y0 := (HBX.out.on hb1).c0
    have y1 := (HBX.out.on hb1).c1
    have CF1 := Lib.hid (CF.out W1 hb1 (by first | rfl | trivial))
    have HB1 := Lib.hid hb1
    clear hb1
    go_wp2_with fail
    refine (show Calls _ _ _ _ _ from CF1.out).mono ?_
    rintro e W2 ⟨rfl, hb2⟩
    have hbw2 := hbw.trans (hb2.mono hbw.size)
    cases q with
    | false =>
      go_wp2
      go_ret2
      exact ⟨by rw [HV.out, HB.out]; rfl, hbw2⟩
    | true =>
      have HB2 : Hid (Below wA.heap.size wA W2) := Lib.hid (HB1.out.trans (hb2.mono HB1.out.size))
      have CC1 := Lib.hid (CC.out W2 HB2.out (by first | rfl | trivial) (by first | rfl | trivial))
      clear hb2 y0 y1
      have y0 := (HBX.out.on HB2.out).c0
      have y1 := (HBX.out.on HB2.out).c1
      go_wp2_with fail
      refine (show Calls _ _ _ _ _ from CC1.out).mono ?_
      rintro e W3 ⟨rfl, hb3⟩
      go_wp2
      go_ret2
      exact ⟨by rw [HV.out, HB.out]; rfl, hbw2.trans (hb3.mono hbw2.size)⟩

theorem small_con {X Y : Tab} (hs : Y.Small) (h : X.con = Y.con) : X.Small := by
  have h2 := hs
  unfold Tab.Small at h2 ⊢
  rw [h]
  have : X.R.length = Y.R.length := by rw [← con_lenT, ← con_lenT, h]
  omega
theorem flowCost_pair (F : Fld) (r n s : Row) (Y : Tab) (_ : F.Small) (_ : r.l.length ≤ 1048576) (_ : n.l.length ≤ 1048576) (_ : s.l.length ≤ 1048576) (hYs : Y.Small) : ∃ (v : Int) (b : Bool),
    (∀ (G : Fld) (x1 x2 x3 : Row) (X : Tab) (W : World), G.At W → x1.At W → x2.At W → x3.At W → X.At W → G.Like F → x1.l = r.l → x2.l = n.l → x3.l = s.l → X.con = Y.con → Calls Try.prog 23 #[G.val, .slice x1.a x1.l.length x1.c, .slice x2.a x2.l.length x2.c, .slice x3.a x3.l.length x3.c, .slice X.a X.R.length X.c] W (PInt v b W)) ∧
    (∀ (G : Fld) (x1 x2 x3 : Row) (X : Tab) (W : World), G.At W → x1.At W → x2.At W → x3.At W → X.At W → G.Like F → x1.l = r.l → x2.l = n.l → x3.l = s.l → X.con = Y.con → Calls Try.prog 24 #[G.val, .slice x1.a x1.l.length x1.c, .slice x2.a x2.l.length x2.c, .slice x3.a x3.l.length x3.c, .slice X.a X.R.length X.c] W (PInt v b W)) := by
  refine ⟨if (givenB F r.l n.l s && flowB F r.l n.l s.l Y.con) = true then costV Y.con F.t.con else 0, (givenB F r.l n.l s && flowB F r.l n.l s.l Y.con), fun G x1 x2 x3 X W hG h1 h2 h3 h4 hl e1 e2 e3 e4 => specFlowCost_any G x1 x2 x3 X W hG h1 h2 h3 h4 (small_con hYs e4) _ _ ?_ ?_, fun G x1 x2 x3 X W hG h1 h2 h3 h4 hl e1 e2 e3 e4 => implFlowCost_any G x1 x2 x3 X W hG h1 h2 h3 h4 (small_con hYs e4) _ _ ?_ ?_⟩
  all_goals first | (rw [e1, e2, e3, e4, givenB_like hl e3, flowB_like hl]; done) | (rw [e4, hl.2]; done)
end Go.Proofs.Ytehmjmknegnojaa
