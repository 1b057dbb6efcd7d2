/- A Field's box and a valuation's box laid one after the other; GainOf on both sides. Condition: the arguments read as such. -/
import Derived.Test.YtmddijibplkngaaWorthAsk
namespace Go.Proofs.Ytmddijibplkngaa
open Go.RowKit

/-- The world behind the two boxes that the functions of gains lay at their beginning. -/
structure Laid2 (F : Fld) (u : Int) (w wB : World) : Prop where
  eq : (w.alloc (Obj.cells #[.slice F.o.a F.o.l.length F.o.c, .slice F.t.a F.t.R.length F.t.c] 29)).alloc (Obj.cells #[.slice F.o.a F.o.l.length F.o.c, .slice F.t.a F.t.R.length F.t.c, .int .i64 u] 55) = wB
  c0 : (w.alloc (Obj.cells #[.slice F.o.a F.o.l.length F.o.c, .slice F.t.a F.t.R.length F.t.c] 29)).cell? ⟨w.heap.size, 0, none⟩ = some (.slice F.o.a F.o.l.length F.o.c)
  c1 : (w.alloc (Obj.cells #[.slice F.o.a F.o.l.length F.o.c, .slice F.t.a F.t.R.length F.t.c] 29)).cell? ⟨w.heap.size, 1, none⟩ = some (.slice F.t.a F.t.R.length F.t.c)
  box : Box2 wB w.heap.size (.slice F.o.a F.o.l.length F.o.c) (.slice F.t.a F.t.R.length F.t.c) 29
  val : BoxV wB (w.heap.size + 1) F u 55
  below : Below w.heap.size w wB
theorem laid2 (F : Fld) (u : Int) (w : World) : ∃ wB, Laid2 F u w wB := by
  refine ⟨_, rfl, ?_, ?_, ?_, ?_, ?_⟩
  · exact (Box2.made w _ _ _).c0
  · exact (Box2.made w _ _ _).c1
  · exact (Box2.made w _ _ _).later _
  · have := BoxV.made (w.alloc (Obj.cells #[.slice F.o.a F.o.l.length F.o.c, .slice F.t.a F.t.R.length F.t.c] 29)) F u 55
    rw [size_alloc] at this; exact this
  · exact (below_alloc _ _).alloc (by rw [size_alloc]; omega) _

set_option maxRecDepth 16000 in
set_option maxHeartbeats 1000000 in
theorem implGainOf_any (F : Fld) (u : Int) (s : Row) (w : World) (hF : F.At w) (hs : s.At w) (hsm : s.l.length ≤ 1048576) (b : Bool) (hb0 : b = askG F u s.l) (v : Int) (hv : v = if b then gainT F u (nats s.l) else 0) :
    Calls Try.prog 15 #[F.val, .int .i64 u, .slice s.a s.l.length s.c] w (PInt v b w) := by
  obtain ⟨wB, L⟩ := laid2 F u w
  have x0 := L.c0
  have x1 := L.c1
  have hFB := hF.on L.below
  have hsB := hs.on L.below
  have CH := Lib.hid (by have := hasSet_any F u s wB hFB hsB; rw [← hb0] at this; exact this)
  have HL := Lib.hid L
  have HV := Lib.hid hv
  have CG := Lib.hid (fun (h : b = true) W (hW : Below wB.heap.size wB W) => gain_any F u s (nats s.l) W (hFB.on hW) (hsB.on hW) (worthy_of (by rw [← hb0]; exact h) hsm))
  clear hF hs hsm hb0 hv L hFB hsB
  unfold PInt
  show Calls _ _ #[.agg #[.slice F.o.a F.o.l.length F.o.c, .slice F.t.a F.t.R.length F.t.c], _, _] w _
  go_enter Try.func15, Try.ntmps15
  go_wp2_with fail
  rw [HL.out.eq]
  clear x0 x1
  refine (show Calls _ _ _ _ _ from CH.out).mono ?_
  rintro e W1 ⟨rfl, hb1⟩
  have hbw1 := HL.out.below.trans (hb1.mono HL.out.below.size)
  cases b with
  | false =>
    have : v = 0 := HV.out
    subst this
    go_wp2
    go_ret2
    exact ⟨rfl, hbw1⟩
  | true =>
    have HV2 : Hid (v = gainT F u (nats s.l)) := Lib.hid HV.out
    have y0 := (HL.out.val.on hb1).c0
    have y1 := (HL.out.val.on hb1).c1
    have y2 := (HL.out.val.on hb1).c2
    have CG1 := Lib.hid (CG.out rfl W1 hb1)
    clear hb1
    go_wp2_with fail
    refine (show Calls _ _ _ _ _ from CG1.out).mono ?_
    rintro e W2 ⟨rfl, hb2⟩
    go_wp2
    go_ret2
    exact ⟨by rw [HV2.out]; rfl, hbw1.trans (hb2.mono hbw1.size)⟩

set_option maxRecDepth 16000 in
set_option maxHeartbeats 1000000 in
theorem specGainOf_any (F : Fld) (u : Int) (s : Row) (w : World) (hF : F.At w) (hs : s.At w) (hsm : s.l.length ≤ 1048576) (b : Bool) (hb0 : b = askG F u s.l) (v : Int) (hv : v = if b then gainT F u (nats s.l) else 0) :
    Calls Try.prog 12 #[F.val, .int .i64 u, .slice s.a s.l.length s.c] w (PInt v b w) := by
  obtain ⟨wA, hA, hbA, bx, hFA, hszA⟩ := laid_fld F w 29 hF
  have x0 := bx.c0
  have x1 := bx.c1
  rw [hA] at x0 x1
  have HBX := Lib.hid bx
  have HA := Lib.hid hA
  obtain ⟨g, hg⟩ : ∃ g, g = worthB F u := ⟨_, rfl⟩
  obtain ⟨c, hc⟩ : ∃ c, c = setB F.o.l.length s.l := ⟨_, rfl⟩
  have CW := Lib.hid (by have := l8Good_any F u wA hFA; rw [← hg] at this; exact this)
  have CS := Lib.hid (fun W (h : Below wA.heap.size wA W) => by have := l2Set_any F s W (hFA.on h) ((hs.on hbA).on h); rw [← hc] at this; exact this : ∀ W, Below wA.heap.size wA W → Calls Try.prog 38 #[F.val, .slice s.a s.l.length s.c] W fun e w' => e = .returned (.bool c) ∧ Below W.heap.size W w')
  have CG := Lib.hid (fun (h : b = true) W (hW : Below wA.heap.size wA W) => l8Gain_any F u s (nats s.l) W (hFA.on hW) ((hs.on hbA).on hW) (worthy_of (by rw [← hb0]; exact h) hsm))
  have HB : Hid (b = (g && c)) := Lib.hid (by rw [hb0, hg, hc]; rfl)
  have HV := Lib.hid hv
  clear hF hs hsm hb0 hv bx hFA hA hg hc
  unfold PInt
  show Calls _ _ #[.agg #[F.o.val, F.t.val], _, _] w _
  go_enter Try.func12, Try.ntmps12
  go_wp2_with fail
  rw [show w.alloc (Obj.cells #[F.o.val, F.t.val] 29) = wA from HA.out.symm]
  clear x0 x1
  refine (show Calls _ _ _ _ _ from CW.out).mono ?_
  rintro e W1 ⟨rfl, hb1⟩
  have hbw1 := hbA.trans (hb1.mono hbA.size)
  cases g with
  | false =>
    obtain rfl : b = false := HB.out
    have : v = 0 := HV.out
    subst this
    go_wp2
    go_ret2
    exact ⟨rfl, hbw1⟩
  | true =>
    have y0 := (HBX.out.on hb1).c0
    have y1 := (HBX.out.on hb1).c1
    have CS1 := Lib.hid (CS.out W1 hb1)
    go_wp2_with fail
    clear y0 y1
    refine (show Calls _ _ _ _ _ from CS1.out).mono ?_
    rintro e W2 ⟨rfl, hb2⟩
    have hbw2 := hbw1.trans (hb2.mono hbw1.size)
    have hb12 := hb1.trans (hb2.mono hb1.size)
    cases c with
    | false =>
      obtain rfl : b = false := HB.out
      have : v = 0 := HV.out
      subst this
      go_wp2
      go_ret2
      exact ⟨rfl, hbw2⟩
    | true =>
      obtain rfl : b = true := HB.out
      have HV2 : Hid (v = gainT F u (nats s.l)) := Lib.hid HV.out
      have y0 := (HBX.out.on hb12).c0
      have y1 := (HBX.out.on hb12).c1
      have CG1 := Lib.hid (CG.out rfl W2 hb12)
      clear hb1 hb2 hb12
      go_wp2_with fail
      refine (show Calls _ _ _ _ _ from CG1.out).mono ?_
      rintro e W3 ⟨rfl, hb3⟩
      go_wp2
      go_ret2
      exact ⟨by rw [HV2.out]; rfl, hbw2.trans (hb3.mono hbw2.size)⟩
end Go.Proofs.Ytmddijibplkngaa
