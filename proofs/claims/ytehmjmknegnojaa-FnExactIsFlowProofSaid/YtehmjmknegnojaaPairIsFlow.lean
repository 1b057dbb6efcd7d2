/- Both sides of IsFlow answer alike. Condition: the arguments read as such. -/
import Derived.Test.YtehmjmknegnojaaFlowIsI
import Derived.Test.YtehmjmknegnojaaFlowSpecB
namespace Go.Proofs.Ytehmjmknegnojaa
open Go.RowKit

theorem Supplied.same {F : Fld} {r n : List Int} {s : Row} {T : List Nat} (h : Supplied F r n s T) (D : List (List Int)) : flowS F r n s.l D = flowB F r n s.l D := flow_eq h.rl h.nl (fun x hx => (h.rb x hx).1) (fun x hx => (h.nb x hx).1)

set_option maxRecDepth 16000 in
set_option maxHeartbeats 1000000 in
theorem specIsFlow_any (F : Fld) (r n s : Row) (Y : Tab) (w : World) (hF : F.At w) (hr : r.At w) (hn : n.At w) (hs : s.At w) (hY : Y.At w) (hYs : Y.Small) (l b : Bool) (hb : b = givenB F r.l n.l s) (hl : l = (givenB F r.l n.l s && flowB F r.l n.l s.l Y.con)) :
    Calls Try.prog 19 #[F.val, .slice r.a r.l.length r.c, .slice n.a n.l.length n.c, .slice s.a s.l.length s.c, .slice Y.a Y.R.length Y.c] w (PBool2 l b w) := by
  obtain ⟨wA, hA, hbA, bx, hFA, _⟩ := laid_fld F w 29 hF
  have cv := l7Given_any F r n s wA hFA (hr.on hbA) (hn.on hbA) (hs.on hbA)
  rw [← hb] at cv
  have CV := Lib.hid cv
  have CF := Lib.hid (fun W (hW : Below wA.heap.size wA W) (h : b = true) => by
    have h2 := hb.symm.trans h
    obtain ⟨T, hS⟩ := supplied h2
    have := l7Flow_any F r n s Y T W (hFA.on hW) ((hr.on hbA).on hW) ((hn.on hbA).on hW) ((hs.on hbA).on hW) ((hY.on hbA).on hW) hYs hS
    rw [hS.same, show flowB F r.l n.l s.l Y.con = l by rw [hl, h2]; rfl] at this; exact this : ∀ W, Below wA.heap.size wA W → b = true → Calls Try.prog 44 #[F.val, .slice r.a r.l.length r.c, .slice n.a n.l.length n.c, .slice s.a s.l.length s.c, .slice Y.a Y.R.length Y.c] W fun e w' => e = .returned (.bool l) ∧ Below W.heap.size W w')
  have HL : Hid (b = false → l = false) := Lib.hid fun h => by rw [hl, ← hb, h]; rfl
  have HBX := Lib.hid bx
  have HA := Lib.hid hA
  clear hF hr hn hs hY hYs hA bx hFA hb hl cv
  unfold PBool2
  show Calls _ _ #[.agg #[F.o.val, F.t.val], _, _, _, _] w _
  go_enter Try.func19, Try.ntmps19
  go_wp2_with fail
  rw [show w.alloc (Obj.cells #[F.o.val, F.t.val] 29) = wA from HA.out.symm]
  refine (show Calls _ _ _ _ _ from CV.out).mono ?_
  rintro e W1 ⟨rfl, hb1⟩
  have hbw := hbA.trans (hb1.mono hbA.size)
  cases b with
  | false =>
    have HE := Lib.hid (HL.out (by first | rfl | trivial))
    go_wp2
    go_ret2
    exact ⟨by rw [HE.out]; rfl, hbw⟩
  | true =>
    have y0 := (HBX.out.on hb1).c0
    have y1 := (HBX.out.on hb1).c1
    have CF1 := Lib.hid (CF.out W1 hb1 (by first | rfl | trivial))
    clear hb1
    go_wp2_with fail
    refine (show Calls _ _ _ _ _ from CF1.out).mono ?_
    rintro e W2 ⟨rfl, hb2⟩
    go_wp2
    go_ret2
    exact ⟨rfl, hbw.trans (hb2.mono hbw.size)⟩

theorem isFlow_pair (F : Fld) (r n s : Row) (Y : Tab) (_ : F.Small) (_ : r.l.length ≤ 1048576) (_ : n.l.length ≤ 1048576) (_ : s.l.length ≤ 1048576) (_ : Y.Small) : ∃ (v : Bool) (b : Bool),
    (∀ (G : Fld) (x1 x2 x3 : Row) (X : Tab) (W : World), G.At W → x1.At W → x2.At W → x3.At W → X.At W → G.Like F → x1.l = r.l → x2.l = n.l → x3.l = s.l → X.con = Y.con → Calls Try.prog 19 #[G.val, .slice x1.a x1.l.length x1.c, .slice x2.a x2.l.length x2.c, .slice x3.a x3.l.length x3.c, .slice X.a X.R.length X.c] W (PBool2 v b W)) ∧
    (∀ (G : Fld) (x1 x2 x3 : Row) (X : Tab) (W : World), G.At W → x1.At W → x2.At W → x3.At W → X.At W → G.Like F → x1.l = r.l → x2.l = n.l → x3.l = s.l → X.con = Y.con → Calls Try.prog 21 #[G.val, .slice x1.a x1.l.length x1.c, .slice x2.a x2.l.length x2.c, .slice x3.a x3.l.length x3.c, .slice X.a X.R.length X.c] W (PBool2 v b W)) := by
  have sm : ∀ X : Tab, X.con = Y.con → X.Small := fun X h => by
    have h1 := Tab.Small.rows ‹Y.Small› h
    have h2 := ‹Y.Small›
    unfold Tab.Small at h2 ⊢
    rw [h]
    have : X.R.length = Y.R.length := by rw [← con_lenT, ← con_lenT, h]
    omega
  refine ⟨(givenB F r.l n.l s && flowB F r.l n.l s.l Y.con), givenB F r.l n.l s, fun G x1 x2 x3 X W hG h1 h2 h3 h4 hl e1 e2 e3 e4 => specIsFlow_any G x1 x2 x3 X W hG h1 h2 h3 h4 (sm X e4) _ _ ?_ ?_, fun G x1 x2 x3 X W hG h1 h2 h3 h4 hl e1 e2 e3 e4 => implIsFlow_any G x1 x2 x3 X W hG h1 h2 h3 h4 (sm X e4) _ _ ?_ ?_⟩
  all_goals first | (rw [e1, e2, e3, e4, givenB_like hl e3, flowB_like hl]; done) | (rw [e1, e2, givenB_like hl e3]; done)
end Go.Proofs.Ytehmjmknegnojaa
