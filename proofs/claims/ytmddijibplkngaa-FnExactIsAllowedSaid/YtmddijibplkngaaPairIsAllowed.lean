/- Both sides of IsAllowed answer alike. Condition: the arguments read as such. -/
import Derived.Test.YtmddijibplkngaaClassRule
namespace Go.Proofs.Ytmddijibplkngaa
open Go.RowKit Go.Shelf

def askA (F : Fld) (c m s : List Int) : Bool := (F.good && setB F.o.l.length s) && classB F.o.l.length c m
theorem askA_like {F G : Fld} (h : G.Like F) (c m s : List Int) : askA G c m s = askA F c m s := by unfold askA; rw [h.good, h.1]
theorem classed_of {F : Fld} {c m s : Row} (h : askA F c.l m.l s.l = true) (hs : s.l.length ≤ 1048576) : Classed F.o.l.length c m s (nats s.l) := by
  unfold askA at h
  rw [Bool.and_eq_true, Bool.and_eq_true] at h
  obtain ⟨⟨_, h2⟩, h3⟩ := h
  obtain ⟨T, hT, hl⟩ := set_nat h2
  refine ⟨h3, ?_, ?_, ?_⟩
  · rw [hT, nats_up]
  · rw [hT, nats_up]; exact hl
  · rw [hT, nats_up]; rw [hT, up_length] at hs; exact hs

set_option maxRecDepth 100000 in
set_option maxHeartbeats 1500000 in
theorem implIsAllowed_any (F : Fld) (c m s : Row) (w : World) (hF : F.At w) (hc : c.At w) (hm : m.At w) (hs : s.At w) (hsm : s.l.length ≤ 1048576) (b : Bool) (hb0 : b = askA F c.l m.l s.l) (v : Bool) (hv : v = (b && allowB c.l m.l (nats s.l))) :
    Calls Try.prog 30 #[F.val, .slice c.a c.l.length c.c, .slice m.a m.l.length m.c, .slice s.a s.l.length s.c] w (PBool2 v b w) := by
  obtain ⟨wA, hA⟩ : ∃ u, u = w.alloc (Obj.cells #[.slice F.o.a F.o.l.length F.o.c, .slice F.t.a F.t.R.length F.t.c] 29) := ⟨_, rfl⟩
  have hbA : Below w.heap.size w wA := by rw [hA]; exact below_alloc _ _
  have bx : Box2 wA w.heap.size (.slice F.o.a F.o.l.length F.o.c) (.slice F.t.a F.t.R.length F.t.c) 29 := by rw [hA]; exact Box2.made w _ _ _
  have hszA : wA.heap.size = w.heap.size + 1 := by rw [hA]; exact size_alloc _ _
  obtain ⟨wB, hB, hbB, bc⟩ := laid_class F c m wA
  rw [hszA] at bc
  have x0 := bx.c0
  have x1 := bx.c1
  have x0B := (bx.on hbB).c0
  have x1B := (bx.on hbB).c1
  rw [hB, hA] at x0B x1B
  rw [hA] at x0 x1
  have hbw := hbA.trans (hbB.mono hbA.size)
  have hFB := hF.on hbw
  obtain ⟨u1, hu1⟩ : ∃ u, u = F.good := ⟨_, rfl⟩
  obtain ⟨u2, hu2⟩ : ∃ u, u = setB F.o.l.length s.l := ⟨_, rfl⟩
  obtain ⟨u3, hu3⟩ : ∃ u, u = classB F.o.l.length c.l m.l := ⟨_, rfl⟩
  have C1 := Lib.hid (by have := implIsField_any F wB hFB; rw [← hu1] at this; exact (this : Calls Try.prog 60 #[.agg #[.slice F.o.a F.o.l.length F.o.c, .slice F.t.a F.t.R.length F.t.c]] wB fun e w' => e = .returned (.bool u1) ∧ Below wB.heap.size wB w'))
  have C2 := Lib.hid (fun W (hW : Below wB.heap.size wB W) => by have := isSiteSet_any F s W (hFB.on hW) ((hs.on hbw).on hW); rw [← hu2] at this; exact (this : Calls Try.prog 61 #[.agg #[.slice F.o.a F.o.l.length F.o.c, .slice F.t.a F.t.R.length F.t.c], .slice s.a s.l.length s.c] W fun e w' => e = .returned (.bool u2) ∧ Below W.heap.size W w'))
  have C3 := Lib.hid (fun W (hW : Below wB.heap.size wB W) => by have := classValid_any F c m W (hFB.on hW) ((hc.on hbw).on hW) ((hm.on hbw).on hW); rw [← hu3] at this; exact this)
  have C4 := Lib.hid (fun (h : b = true) W (hW : Below wB.heap.size wB W) => classAllows_any F c m s (nats s.l) W ((hc.on hbw).on hW) ((hm.on hbw).on hW) ((hs.on hbw).on hW) (classed_of (by rw [← hb0]; exact h) hsm))
  have HB0 : Hid (b = ((u1 && u2) && u3)) := Lib.hid (by rw [hb0, hu1, hu2, hu3]; rfl)
  have HV := Lib.hid hv
  have HBX := Lib.hid (bx.on hbB)
  have HBC := Lib.hid bc
  have HAB : Hid ((w.alloc (Obj.cells #[.slice F.o.a F.o.l.length F.o.c, .slice F.t.a F.t.R.length F.t.c] 29)).alloc (Obj.cells #[.slice F.o.a F.o.l.length F.o.c, .slice F.t.a F.t.R.length F.t.c, .slice c.a c.l.length c.c, .slice m.a m.l.length m.c] 71) = wB) := Lib.hid (by rw [hB, hA])
  have HBW := Lib.hid hbw
  clear hF hc hm hs hsm hb0 hv hA hB hbA hbB bx bc hszA hFB hu1 hu2 hu3 hbw
  unfold PBool2
  show Calls _ _ #[.agg #[.slice F.o.a F.o.l.length F.o.c, .slice F.t.a F.t.R.length F.t.c], _, _, _] w _
  go_enter Try.func30, Try.ntmps30
  go_wp2_with fail
  rw [HAB.out]
  clear x0 x1 x0B x1B
  refine (show Calls _ _ _ _ _ from C1.out).mono ?_
  rintro e W1 ⟨rfl, hb1⟩
  have hw1 := HBW.out.trans (hb1.mono HBW.out.size)
  cases u1 with
  | false =>
    obtain rfl : b = false := HB0.out
    have : v = false := HV.out
    subst this
    go_wp2
    go_ret2
    exact ⟨rfl, hw1⟩
  | true =>
    have y0 := (HBX.out.on hb1).c0
    have y1 := (HBX.out.on hb1).c1
    have C21 := Lib.hid (C2.out W1 hb1)
    go_wp2_with fail
    clear y0 y1
    refine (show Calls _ _ _ _ _ from C21.out).mono ?_
    rintro e W2 ⟨rfl, hb2⟩
    have hw2 := hw1.trans (hb2.mono hw1.size)
    have hb12 := hb1.trans (hb2.mono hb1.size)
    clear hb1 hb2 hw1
    cases u2 with
    | false =>
      obtain rfl : b = false := HB0.out
      have : v = false := HV.out
      subst this
      go_wp2
      go_ret2
      exact ⟨rfl, hw2⟩
    | true =>
      have y0 := (HBC.out.on hb12).c0
      have y1 := (HBC.out.on hb12).c1
      have y2 := (HBC.out.on hb12).c2
      have y3 := (HBC.out.on hb12).c3
      have C31 := Lib.hid (C3.out W2 hb12)
      go_wp2_with fail
      clear y0 y1 y2 y3
      refine (show Calls _ _ _ _ _ from C31.out).mono ?_
      rintro e W3 ⟨rfl, hb3⟩
      have hw3 := hw2.trans (hb3.mono hw2.size)
      have hb13 := hb12.trans (hb3.mono hb12.size)
      clear hb12 hb3 hw2
      cases u3 with
      | false =>
        obtain rfl : b = false := HB0.out
        have : v = false := HV.out
        subst this
        go_wp2
        go_ret2
        exact ⟨rfl, hw3⟩
      | true =>
        obtain rfl : b = true := HB0.out
        have y0 := (HBC.out.on hb13).c0
        have y1 := (HBC.out.on hb13).c1
        have y2 := (HBC.out.on hb13).c2
        have y3 := (HBC.out.on hb13).c3
        have C41 := Lib.hid (C4.out (by first | rfl | trivial) W3 hb13)
        have HV2 : Hid (v = allowB c.l m.l (nats s.l)) := Lib.hid (by rw [HV.out]; rfl)
        clear hb13
        go_wp2_with fail
        refine (show Calls _ _ _ _ _ from C41.out).mono ?_
        rintro e W4 ⟨rfl, hb4⟩
        go_wp2
        go_ret2
        exact ⟨by rw [HV2.out]; rfl, hw3.trans (hb4.mono hw3.size)⟩

set_option maxRecDepth 100000 in
set_option maxHeartbeats 1500000 in
theorem specIsAllowed_any (F : Fld) (c m s : Row) (w : World) (hF : F.At w) (hc : c.At w) (hm : m.At w) (hs : s.At w) (hsm : s.l.length ≤ 1048576) (b : Bool) (hb0 : b = askA F c.l m.l s.l) (v : Bool) (hv : v = (b && allowB c.l m.l (nats s.l))) :
    Calls Try.prog 29 #[F.val, .slice c.a c.l.length c.c, .slice m.a m.l.length m.c, .slice s.a s.l.length s.c] w (PBool2 v b w) := by
  obtain ⟨wA, hA⟩ : ∃ u, u = w.alloc (Obj.cells #[.slice F.o.a F.o.l.length F.o.c, .slice F.t.a F.t.R.length F.t.c] 29) := ⟨_, rfl⟩
  have hbA : Below w.heap.size w wA := by rw [hA]; exact below_alloc _ _
  have bx : Box2 wA w.heap.size (.slice F.o.a F.o.l.length F.o.c) (.slice F.t.a F.t.R.length F.t.c) 29 := by rw [hA]; exact Box2.made w _ _ _
  have x0 := bx.c0
  have x1 := bx.c1
  rw [hA] at x0 x1
  have hFA := hF.on hbA
  obtain ⟨u1, hu1⟩ : ∃ u, u = F.good := ⟨_, rfl⟩
  obtain ⟨u2, hu2⟩ : ∃ u, u = setB F.o.l.length s.l := ⟨_, rfl⟩
  obtain ⟨u3, hu3⟩ : ∃ u, u = classB F.o.l.length c.l m.l := ⟨_, rfl⟩
  have C1 := Lib.hid (by have := l2Good_any F wA hFA; rw [← hu1] at this; exact (this : Calls Try.prog 57 #[.agg #[.slice F.o.a F.o.l.length F.o.c, .slice F.t.a F.t.R.length F.t.c]] wA _))
  have C2 := Lib.hid (fun W (hW : Below wA.heap.size wA W) => by have := l2Set_any F s W (hFA.on hW) ((hs.on hbA).on hW); rw [← hu2] at this; exact (this : Calls Try.prog 38 #[.agg #[.slice F.o.a F.o.l.length F.o.c, .slice F.t.a F.t.R.length F.t.c], .slice s.a s.l.length s.c] W fun e w' => e = .returned (.bool u2) ∧ Below W.heap.size W w'))
  have C3 := Lib.hid (fun W (hW : Below wA.heap.size wA W) => by have := l8Classes_any F c m W (hFA.on hW) ((hc.on hbA).on hW) ((hm.on hbA).on hW); rw [← hu3] at this; exact this)
  have C4 := Lib.hid (fun (h : b = true) W (hW : Below wA.heap.size wA W) => l8Allowed_any F.o.l.length c m s (nats s.l) W ((hc.on hbA).on hW) ((hm.on hbA).on hW) ((hs.on hbA).on hW) (classed_of (by rw [← hb0]; exact h) hsm))
  have HB0 : Hid (b = ((u1 && u2) && u3)) := Lib.hid (by rw [hb0, hu1, hu2, hu3]; rfl)
  have HV := Lib.hid hv
  have HBX := Lib.hid bx
  have HA := Lib.hid hA.symm
  have HBW := Lib.hid hbA
  clear hF hc hm hs hsm hb0 hv hA hbA bx hFA hu1 hu2 hu3
  unfold PBool2
  show Calls _ _ #[.agg #[.slice F.o.a F.o.l.length F.o.c, .slice F.t.a F.t.R.length F.t.c], _, _, _] w _
  go_enter Try.func29, Try.ntmps29
  go_wp2_with fail
  rw [HA.out]
  clear x0 x1
  refine (show Calls _ _ _ _ _ from C1.out).mono ?_
  rintro e W1 ⟨rfl, hb1⟩
  have hw1 := HBW.out.trans (hb1.mono HBW.out.size)
  cases u1 with
  | false =>
    obtain rfl : b = false := HB0.out
    have : v = false := HV.out
    subst this
    go_wp2
    go_ret2
    exact ⟨rfl, hw1⟩
  | true =>
    have y0 := (HBX.out.on hb1).c0
    have y1 := (HBX.out.on hb1).c1
    have C31 := Lib.hid (C3.out W1 hb1)
    go_wp2_with fail
    clear y0 y1
    refine (show Calls _ _ _ _ _ from C31.out).mono ?_
    rintro e W2 ⟨rfl, hb2⟩
    have hw2 := hw1.trans (hb2.mono hw1.size)
    have hb12 := hb1.trans (hb2.mono hb1.size)
    clear hb1 hb2 hw1
    cases u3 with
    | false =>
      obtain rfl : b = false := by rw [HB0.out]; simp
      have : v = false := HV.out
      subst this
      go_wp2
      go_ret2
      exact ⟨rfl, hw2⟩
    | true =>
      have y0 := (HBX.out.on hb12).c0
      have y1 := (HBX.out.on hb12).c1
      have C21 := Lib.hid (C2.out W2 hb12)
      go_wp2_with fail
      clear y0 y1
      refine (show Calls _ _ _ _ _ from C21.out).mono ?_
      rintro e W3 ⟨rfl, hb3⟩
      have hw3 := hw2.trans (hb3.mono hw2.size)
      have hb13 := hb12.trans (hb3.mono hb12.size)
      clear hb12 hb3 hw2
      cases u2 with
      | false =>
        obtain rfl : b = false := HB0.out
        have : v = false := HV.out
        subst this
        go_wp2
        go_ret2
        exact ⟨rfl, hw3⟩
      | true =>
        obtain rfl : b = true := HB0.out
        have C41 := Lib.hid (C4.out (by first | rfl | trivial) W3 hb13)
        have HV2 : Hid (v = allowB c.l m.l (nats s.l)) := Lib.hid (by rw [HV.out]; rfl)
        clear hb13
        go_wp2_with fail
        refine (show Calls _ _ _ _ _ from C41.out).mono ?_
        rintro e W4 ⟨rfl, hb4⟩
        go_wp2
        go_ret2
        exact ⟨by rw [HV2.out]; rfl, hw3.trans (hb4.mono hw3.size)⟩

theorem isAllowed_pair (F : Fld) (c m s : Row) (_ : F.Small) (_ : c.l.length ≤ 1048576) (_ : m.l.length ≤ 1048576) (hs : s.l.length ≤ 1048576) : ∃ (v b : Bool),
    (∀ (G : Fld) (c' m' t : Row) (W : World), G.At W → c'.At W → m'.At W → t.At W → G.Like F → c'.l = c.l → m'.l = m.l → t.l = s.l → Calls Try.prog 29 #[G.val, .slice c'.a c'.l.length c'.c, .slice m'.a m'.l.length m'.c, .slice t.a t.l.length t.c] W (PBool2 v b W)) ∧
    (∀ (G : Fld) (c' m' t : Row) (W : World), G.At W → c'.At W → m'.At W → t.At W → G.Like F → c'.l = c.l → m'.l = m.l → t.l = s.l → Calls Try.prog 30 #[G.val, .slice c'.a c'.l.length c'.c, .slice m'.a m'.l.length m'.c, .slice t.a t.l.length t.c] W (PBool2 v b W)) :=
  ⟨askA F c.l m.l s.l && allowB c.l m.l (nats s.l), askA F c.l m.l s.l,
    fun G c' m' t W hG hc hm ht hl h1 h2 h3 => specIsAllowed_any G c' m' t W hG hc hm ht (by rw [h3]; exact hs) _ (by rw [h1, h2, h3, askA_like hl]) _ (by rw [h1, h2, h3]),
    fun G c' m' t W hG hc hm ht hl h1 h2 h3 => implIsAllowed_any G c' m' t W hG hc hm ht (by rw [h3]; exact hs) _ (by rw [h1, h2, h3, askA_like hl]) _ (by rw [h1, h2, h3])⟩
end Go.Proofs.Ytmddijibplkngaa
