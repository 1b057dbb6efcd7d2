/- The contract of IsFlow on the program's side. Condition: the arguments read as such. -/
import Derived.Test.YtehmjmknegnojaaFlowValid
namespace Go.Proofs.Ytehmjmknegnojaa
open Go.RowKit

set_option maxRecDepth 16000 in
set_option maxHeartbeats 1000000 in
theorem implIsFlow_any (F : Fld) (r n s : Row) (Y : Tab) (w : World) (hF : F.At w) (hr : r.At w) (hn : n.At w) (hs : s.At w) (hY : Y.At w) (hYs : Y.Small) (l b : Bool) (hb : b = givenB F r.l n.l s) (hl : l = (givenB F r.l n.l s && flowB F r.l n.l s.l Y.con)) :
    Calls Try.prog 21 #[F.val, .slice r.a r.l.length r.c, .slice n.a n.l.length n.c, .slice s.a s.l.length s.c, .slice Y.a Y.R.length Y.c] w (PBool2 l b w) := by
  obtain ⟨wA, hA, hbA, bx, hFA, hszA⟩ := laid_fld F w 29 hF
  obtain ⟨wB, hB, hbB, bx2, _⟩ := laid_box #[.slice F.o.a F.o.l.length F.o.c, .slice F.t.a F.t.R.length F.t.c, .slice r.a r.l.length r.c, .slice n.a n.l.length n.c, .slice s.a s.l.length s.c] wA 59
  have x0 : wA.cell? ⟨w.heap.size, 0, none⟩ = some (.slice F.o.a F.o.l.length F.o.c) := bx.c0
  have x1 : wA.cell? ⟨w.heap.size, 1, none⟩ = some (.slice F.t.a F.t.R.length F.t.c) := bx.c1
  rw [hA] at x0 x1
  change (w.alloc (Obj.cells #[.slice F.o.a F.o.l.length F.o.c, .slice F.t.a F.t.R.length F.t.c] 29)).cell? _ = _ at x0 x1
  have hbw := hbA.trans (hbB.mono hbA.size)
  have cv := valid_any F r n s wB (hF.on hbw) (hr.on hbw) (hn.on hbw) (hs.on hbw)
  rw [← hb] at cv hl
  have CV := Lib.hid cv
  have CW := Lib.hid (fun W (hW : Below wB.heap.size wB W) => by
    have := flowValid_any F r n s Y W ((hF.on hbw).on hW) ((hr.on hbw).on hW) ((hn.on hbw).on hW) ((hs.on hbw).on hW) ((hY.on hbw).on hW) hYs
    rw [← hb, ← hl] at this; exact this)
  rw [hszA] at bx2
  have HBX := Lib.hid bx2
  have e := hB
  rw [hA] at e
  have HB := Lib.hid e
  have HBW := Lib.hid hbw
  have HL := Lib.hid hl
  clear hF hr hn hs hY hYs hb hl hA hB e bx bx2 hFA cv hbA hbB hszA hbw
  unfold PBool2
  show Calls _ _ #[.agg #[.slice F.o.a F.o.l.length F.o.c, .slice F.t.a F.t.R.length F.t.c], _, _, _, _] w _
  go_enter Try.func21, Try.ntmps21
  go_wp2_with fail
  rw [show (w.alloc (Obj.cells #[Value.slice F.o.a F.o.l.length F.o.c, Value.slice F.t.a F.t.R.length F.t.c] 29)).alloc (Obj.cells #[.slice F.o.a F.o.l.length F.o.c, .slice F.t.a F.t.R.length F.t.c, .slice r.a r.l.length r.c, .slice n.a n.l.length n.c, .slice s.a s.l.length s.c] 59) = wB from HB.out.symm]
  clear x0 x1
  refine (show Calls _ _ _ _ _ from CV.out).mono ?_
  rintro e W1 ⟨rfl, hb1⟩
  have hbw1 := HBW.out.trans (hb1.mono HBW.out.size)
  cases b with
  | false =>
    go_wp2
    go_ret2
    exact ⟨by rw [HL.out]; rfl, hbw1⟩
  | true =>
    have y0 := (HBX.out.on hb1).cell 0 rfl
    have y1 := (HBX.out.on hb1).cell 1 rfl
    have y2 := (HBX.out.on hb1).cell 2 rfl
    have y3 := (HBX.out.on hb1).cell 3 rfl
    have y4 := (HBX.out.on hb1).cell 4 rfl
    have CW1 := Lib.hid (CW.out W1 hb1)
    clear hb1
    go_wp2_with fail
    refine (show Calls _ _ _ _ _ from CW1.out).mono ?_
    rintro e W2 ⟨rfl, hb2⟩
    go_wp2
    go_ret2
    exact ⟨rfl, hbw1.trans (hb2.mono hbw1.size)⟩
end Go.Proofs.Ytehmjmknegnojaa
