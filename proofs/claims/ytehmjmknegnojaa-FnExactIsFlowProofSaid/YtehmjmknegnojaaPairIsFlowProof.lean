/- Both sides of IsFlowProof answer alike. Condition: the arguments read as such. -/
import Derived.Test.YtehmjmknegnojaaPairFlowCost
namespace Go.Proofs.Ytehmjmknegnojaa
open Go.RowKit

/-- What IsFlowProof answers: of cost and yield, and whether there are both. -/
def ProofIs (c y : Int) (g h l b : Bool) : Prop := b = (g && h) ∧ l = (g && h && decide (c = y))

set_option maxRecDepth 16000 in
set_option maxHeartbeats 1500000 in
theorem specFlowProof_any (F : Fld) (r n s u p : Row) (Y : Tab) (w : World) (hF : F.At w) (hr : r.At w) (hn : n.At w) (hs : s.At w) (hu : u.At w) (hp : p.At w) (hY : Y.At w) (hYs : Y.Small) (c y : Int) (g h l b : Bool)
    (hg : g = (givenB F r.l n.l s && flowB F r.l n.l s.l Y.con)) (hc : c = if g then costV Y.con F.t.con else 0) (hh : h = (givenB F r.l n.l s && flowPricesB F s.l u.l p.l)) (hy : y = if h then yieldV r.l n.l u.l p.l else 0) (ha : ProofIs c y g h l b) :
    Calls Try.prog 29 #[F.val, .slice r.a r.l.length r.c, .slice n.a n.l.length n.c, .slice s.a s.l.length s.c, .slice Y.a Y.R.length Y.c, .slice u.a u.l.length u.c, .slice p.a p.l.length p.c] w (PBool2 l b w) := by
  obtain ⟨wA, hA, hbA, bx, hFA, _⟩ := laid_fld F w 29 hF
  have CC := Lib.hid (specFlowCost_any F r n s Y wA hFA (hr.on hbA) (hn.on hbA) (hs.on hbA) (hY.on hbA) hYs g c hg hc)
  have CY := Lib.hid (fun W (hW : Below wA.heap.size wA W) => specYield_any F r n s u p W (hFA.on hW) ((hr.on hbA).on hW) ((hn.on hbA).on hW) ((hs.on hbA).on hW) ((hu.on hbA).on hW) ((hp.on hbA).on hW) h y hh hy)
  have HB := Lib.hid ha.1
  have HL := Lib.hid ha.2
  have HBX := Lib.hid bx
  have HA := Lib.hid hA
  clear hF hr hn hs hu hp hY hYs hg hc hh hy ha hA bx hFA
  unfold PBool2
  show Calls _ _ #[.agg #[F.o.val, F.t.val], _, _, _, _, _, _] w _
  go_enter Try.func29, Try.ntmps29
  go_wp2_with fail
  rw [show w.alloc (Obj.cells #[F.o.val, F.t.val] 29) = wA from HA.out.symm]
  refine (show Calls _ _ _ _ _ from CC.out).mono ?_
  rintro e W1 ⟨rfl, hb1⟩
  have hbw := hbA.trans (hb1.mono hbA.size)
  have y0 := (HBX.out.on hb1).c0
  have y1 := (HBX.out.on hb1).c1
  have CY1 := Lib.hid (CY.out W1 hb1)
  clear hb1
  go_wp2_with fail
  refine (show Calls _ _ _ _ _ from CY1.out).mono ?_
  rintro e W2 ⟨rfl, hb2⟩
  have hbw2 := hbw.trans (hb2.mono hbw.size)
  clear y0 y1 hb2
  cases g with
  | false =>
    go_wp2
    go_ret2
    exact ⟨by rw [HL.out, HB.out]; rfl, hbw2⟩
  | true =>
    cases h with
    | false =>
      go_wp2
      go_ret2
      exact ⟨by rw [HL.out, HB.out]; rfl, hbw2⟩
    | true =>
      have HL2 : Hid (l = decide (c = y)) := Lib.hid (by rw [HL.out]; simp)
      have HB2 : Hid (b = true) := Lib.hid (by rw [HB.out]; rfl)
      go_wp2
      go_ret2
      exact ⟨by rw [HL2.out, HB2.out]; simp [BEq.beq], hbw2⟩

set_option maxRecDepth 16000 in
set_option maxHeartbeats 1500000 in
theorem implFlowProof_any (F : Fld) (r n s u p : Row) (Y : Tab) (w : World) (hF : F.At w) (hr : r.At w) (hn : n.At w) (hs : s.At w) (hu : u.At w) (hp : p.At w) (hY : Y.At w) (hYs : Y.Small) (hsm : s.l.length ≤ 1048576) (c y : Int) (g h l b : Bool)
    (hg : g = (givenB F r.l n.l s && flowB F r.l n.l s.l Y.con)) (hc : c = if g then costV Y.con F.t.con else 0) (hh : h = (givenB F r.l n.l s && flowPricesB F s.l u.l p.l)) (hy : y = if h then yieldV r.l n.l u.l p.l else 0) (ha : ProofIs c y g h l b) :
    Calls Try.prog 30 #[F.val, .slice r.a r.l.length r.c, .slice n.a n.l.length n.c, .slice s.a s.l.length s.c, .slice Y.a Y.R.length Y.c, .slice u.a u.l.length u.c, .slice p.a p.l.length p.c] w (PBool2 l b w) := by
  obtain ⟨wA, hA, hbA, bx, hFA, _⟩ := laid_fld F w 29 hF
  have CC := Lib.hid (implFlowCost_any F r n s Y wA hFA (hr.on hbA) (hn.on hbA) (hs.on hbA) (hY.on hbA) hYs g c hg hc)
  have CY := Lib.hid (fun W (hW : Below wA.heap.size wA W) => implYield_any F r n s u p W (hFA.on hW) ((hr.on hbA).on hW) ((hn.on hbA).on hW) ((hs.on hbA).on hW) ((hu.on hbA).on hW) ((hp.on hbA).on hW) hsm h y hh hy)
  have HB := Lib.hid ha.1
  have HL := Lib.hid ha.2
  have HBX := Lib.hid bx
  have HA := Lib.hid hA
  clear hF hr hn hs hu hp hY hYs hg hc hh hy ha hA bx hFA
  unfold PBool2
  show Calls _ _ #[.agg #[F.o.val, F.t.val], _, _, _, _, _, _] w _
  go_enter Try.func30, Try.ntmps30
  go_wp2_with fail
  rw [show w.alloc (Obj.cells #[F.o.val, F.t.val] 29) = wA from HA.out.symm]
  refine (show Calls _ _ _ _ _ from CC.out).mono ?_
  rintro e W1 ⟨rfl, hb1⟩
  have hbw := hbA.trans (hb1.mono hbA.size)
  have y0 := (HBX.out.on hb1).c0
  have y1 := (HBX.out.on hb1).c1
  have CY1 := Lib.hid (CY.out W1 hb1)
  clear hb1
  go_wp2_with fail
  refine (show Calls _ _ _ _ _ from CY1.out).mono ?_
  rintro e W2 ⟨rfl, hb2⟩
  have hbw2 := hbw.trans (hb2.mono hbw.size)
  clear y0 y1 hb2
  cases g with
  | false =>
    go_wp2
    go_ret2
    exact ⟨by rw [HL.out, HB.out]; rfl, hbw2⟩
  | true =>
    cases h with
    | false =>
      go_wp2
      go_ret2
      exact ⟨by rw [HL.out, HB.out]; rfl, hbw2⟩
    | true =>
      have HL2 : Hid (l = decide (c = y)) := Lib.hid (by rw [HL.out]; simp)
      have HB2 : Hid (b = true) := Lib.hid (by rw [HB.out]; rfl)
      go_wp2
      go_ret2
      exact ⟨by rw [HL2.out, HB2.out]; simp [BEq.beq], hbw2⟩

theorem isFlowProof_pair (F : Fld) (r n s : Row) (Y : Tab) (u p : Row) (_ : F.Small) (_ : r.l.length ≤ 1048576) (_ : n.l.length ≤ 1048576) (_ : s.l.length ≤ 1048576) (_ : u.l.length ≤ 1048576) (_ : p.l.length ≤ 1048576) (hYs : Y.Small) : ∃ (v : Bool) (b : Bool),
    (∀ (G : Fld) (x1 x2 x3 x4 x5 : Row) (X : Tab) (W : World), G.At W → x1.At W → x2.At W → x3.At W → x4.At W → x5.At W → X.At W → G.Like F → x1.l = r.l → x2.l = n.l → x3.l = s.l → x4.l = u.l → x5.l = p.l → X.con = Y.con → Calls Try.prog 29 #[G.val, .slice x1.a x1.l.length x1.c, .slice x2.a x2.l.length x2.c, .slice x3.a x3.l.length x3.c, .slice X.a X.R.length X.c, .slice x4.a x4.l.length x4.c, .slice x5.a x5.l.length x5.c] W (PBool2 v b W)) ∧
    (∀ (G : Fld) (x1 x2 x3 x4 x5 : Row) (X : Tab) (W : World), G.At W → x1.At W → x2.At W → x3.At W → x4.At W → x5.At W → X.At W → G.Like F → x1.l = r.l → x2.l = n.l → x3.l = s.l → x4.l = u.l → x5.l = p.l → X.con = Y.con → Calls Try.prog 30 #[G.val, .slice x1.a x1.l.length x1.c, .slice x2.a x2.l.length x2.c, .slice x3.a x3.l.length x3.c, .slice X.a X.R.length X.c, .slice x4.a x4.l.length x4.c, .slice x5.a x5.l.length x5.c] W (PBool2 v b W)) := by
  obtain ⟨g, hg⟩ : ∃ g, g = (givenB F r.l n.l s && flowB F r.l n.l s.l Y.con) := ⟨_, rfl⟩
  obtain ⟨h, hh⟩ : ∃ h, h = (givenB F r.l n.l s && flowPricesB F s.l u.l p.l) := ⟨_, rfl⟩
  obtain ⟨c, hc⟩ : ∃ c, c = if g = true then costV Y.con F.t.con else 0 := ⟨_, rfl⟩
  obtain ⟨y, hy⟩ : ∃ y, y = if h = true then yieldV r.l n.l u.l p.l else 0 := ⟨_, rfl⟩
  refine ⟨(g && h && decide (c = y)), (g && h), fun G x1 x2 x3 x4 x5 X W hG h1 h2 h3 h4 h5 h6 hl e1 e2 e3 e4 e5 e6 => specFlowProof_any G x1 x2 x3 x4 x5 X W hG h1 h2 h3 h4 h5 h6 (small_con hYs e6) c y g h _ _ ?_ ?_ ?_ ?_ ⟨rfl, rfl⟩, fun G x1 x2 x3 x4 x5 X W hG h1 h2 h3 h4 h5 h6 hl e1 e2 e3 e4 e5 e6 => implFlowProof_any G x1 x2 x3 x4 x5 X W hG h1 h2 h3 h4 h5 h6 (small_con hYs e6) (by rw [e3]; assumption) c y g h _ _ ?_ ?_ ?_ ?_ ⟨rfl, rfl⟩⟩
  all_goals first | (rw [e1, e2, e3, e6, givenB_like hl e3, flowB_like hl]; exact hg) | (rw [e6, hl.2]; exact hc) | (rw [e1, e2, e3, e4, e5, givenB_like hl e3, flowPricesB_like hl]; exact hh) | (rw [e1, e2, e4, e5]; exact hy)
end Go.Proofs.Ytehmjmknegnojaa
