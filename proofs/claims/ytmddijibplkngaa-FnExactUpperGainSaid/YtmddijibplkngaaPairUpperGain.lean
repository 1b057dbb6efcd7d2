/- Both sides of UpperGain answer alike. Condition: the arguments read as such; the set is whole. -/
import Derived.Test.YtmddijibplkngaaUpperSpec
import Derived.Test.YtmddijibplkngaaUpperImpl
import Derived.Test.YtmddijibplkngaaPairMarginalGain
namespace Go.Proofs.Ytmddijibplkngaa
open Go.RowKit Go.Shelf

theorem l8K_any (k : Int) (w : World) :
    Calls Try.prog 68 #[.int .i64 k] w fun e w' => e = .returned (.bool (decide (0 ≤ k) && decide (k ≤ 7))) ∧ w' = w := by
  have CI := Lib.hid (l1In_any k 0 7 w)
  go_enter Try.func68, Try.ntmps68
  go_wp2_with fail
  refine (show Calls _ _ _ _ _ from CI.out).mono ?_
  rintro e W1 ⟨rfl, rfl⟩
  go_wp2
  go_ret
  exact ⟨rfl, rfl⟩

theorem sizeValid_any (k : Int) (w : World) :
    Calls Try.prog 70 #[.int .i64 k] w fun e w' => e = .returned (.bool (decide (0 ≤ k) && decide (k ≤ 7))) ∧ Below w.heap.size w w' := by
  by_cases h0 : 0 ≤ k
  · have h0' : k ≥ 0 := h0
    have HE : Hid ((decide (0 ≤ k) && decide (k ≤ 7)) = decide (k ≤ 7)) := Lib.hid (by rw [decide_eq_true h0]; rfl)
    go_enter Try.func70, Try.ntmps70
    go_wp2
    go_ret
    exact ⟨by rw [HE.out]; rfl, Below.refl _ _⟩
  · have h0' : ¬ k ≥ 0 := h0
    have HE : Hid ((decide (0 ≤ k) && decide (k ≤ 7)) = false) := Lib.hid (by rw [decide_eq_false h0]; rfl)
    go_enter Try.func70, Try.ntmps70
    go_wp2
    go_ret
    exact ⟨by rw [HE.out]; rfl, Below.refl _ _⟩

def askU (F : Fld) (u : Int) (l : List Int) (k : Int) : Bool := askG F u l && (decide (0 ≤ k) && decide (k ≤ 7))
theorem askU_like {F G : Fld} (h : G.Like F) (u : Int) (l : List Int) (k : Int) : askU G u l k = askU F u l k := by unfold askU; rw [askG_like h]
theorem upperT_like {F G : Fld} (h : G.Like F) (u : Int) (T : List Nat) (k : Nat) : upperT G u T k = upperT F u T k := by
  have ht : ∀ j, topL G u T j = topL F u T j := fun j => by
    induction j with
    | zero => rfl
    | succ j ih => rw [topL, topL, ih, moreT_like h]
  unfold upperT
  rw [gainT_like h, ht, h.1]

set_option maxRecDepth 16000 in
set_option maxHeartbeats 1500000 in
theorem implUpper_any (F : Fld) (u : Int) (s : Row) (k : Int) (w : World) (hF : F.At w) (hs : s.At w) (hw : s.Whole 3 w) (hsm : s.l.length ≤ 1048576) (b : Bool) (hb0 : b = askU F u s.l k) (v : Int) (hv : v = if b then upperT F u (nats s.l) k.toNat else 0) :
    Calls Try.prog 34 #[F.val, .int .i64 u, .slice s.a s.l.length s.c, .int .i64 k] w (PInt v b w) := by
  obtain ⟨wB, L⟩ := laid2 F u w
  have x0 := L.c0
  have x1 := L.c1
  have hFB := hF.on L.below
  have hsB := hs.on L.below
  obtain ⟨g, hg⟩ : ∃ g, g = askG F u s.l := ⟨_, rfl⟩
  obtain ⟨c, hc⟩ : ∃ c, c = (decide (0 ≤ k) && decide (k ≤ 7)) := ⟨_, rfl⟩
  have HB : Hid (b = (g && c)) := Lib.hid (by rw [hb0, hg, hc]; rfl)
  have CH := Lib.hid (by have := hasSet_any F u s wB hFB hsB; rw [← hg] at this; exact this)
  have CK := Lib.hid (fun W => by have := sizeValid_any k W; rw [← hc] at this; exact this)
  have HL := Lib.hid L
  have HV := Lib.hid hv
  have CU := Lib.hid (fun (h : g = true) (h2 : c = true) W (hW : Below wB.heap.size wB W) => (by
    have h7 := set_few (show askG F u s.l = true by rw [← hg]; exact h)
    have hk : 0 ≤ k ∧ k ≤ 7 := by rw [hc] at h2; simpa using h2
    have := upper_any F u s (nats s.l) k.toNat W (hFB.on hW) (hsB.on hW) hw.some (worthy_of (by rw [← hg]; exact h) hsm) (by unfold nats; rw [List.length_map]; omega) (by omega)
    rw [show ((k.toNat : Nat) : Int) = k by omega] at this
    exact this : Calls Try.prog 71 #[.agg #[.slice F.o.a F.o.l.length F.o.c, .slice F.t.a F.t.R.length F.t.c, .int .i64 u], .slice s.a s.l.length s.c, .int .i64 k] W fun e w' => e = .returned (.int .i64 (upperT F u (nats s.l) k.toNat)) ∧ Below W.heap.size W w'))
  clear hF hs hw hsm hb0 hv L hFB hsB hg hc
  unfold PInt
  show Calls _ _ #[.agg #[.slice F.o.a F.o.l.length F.o.c, .slice F.t.a F.t.R.length F.t.c], _, _, _] w _
  go_enter Try.func34, Try.ntmps34
  go_wp2_with fail
  rw [HL.out.eq]
  clear x0 x1
  refine (show Calls _ _ _ _ _ from CH.out).mono ?_
  rintro e W1 ⟨rfl, hb1⟩
  have hbw1 := HL.out.below.trans (hb1.mono HL.out.below.size)
  have HNO : Hid (b = false → v = 0) := Lib.hid fun h => by rw [HV.out, h]; rfl
  cases g with
  | false =>
    obtain rfl : b = false := HB.out
    obtain rfl : v = 0 := HNO.out rfl
    go_wp2
    go_ret2
    exact ⟨rfl, hbw1⟩
  | true =>
    have CK1 := Lib.hid (CK.out W1)
    have HB1 := Lib.hid hb1
    clear hb1
    go_wp2_with fail
    refine (show Calls _ _ _ _ _ from CK1.out).mono ?_
    rintro e W2 ⟨rfl, hb2⟩
    have hbw2 := hbw1.trans (hb2.mono hbw1.size)
    have hb12 := HB1.out.trans (hb2.mono HB1.out.size)
    clear hb2 hbw1
    cases c with
    | false =>
      obtain rfl : b = false := HB.out
      obtain rfl : v = 0 := HNO.out rfl
      go_wp2
      go_ret2
      exact ⟨rfl, hbw2⟩
    | true =>
      obtain rfl : b = true := HB.out
      have HV2 : Hid (v = upperT F u (nats s.l) k.toNat) := Lib.hid HV.out
      have z0 := (HL.out.val.on hb12).c0
      have z1 := (HL.out.val.on hb12).c1
      have z2 := (HL.out.val.on hb12).c2
      have CU1 := Lib.hid (CU.out (by first | rfl | trivial) (by first | rfl | trivial) _ hb12)
      clear hb12
      go_wp2_with fail
      refine (show Calls _ _ _ _ _ from CU1.out).mono ?_
      rintro e W3 ⟨rfl, hb3⟩
      go_wp2
      go_ret2
      exact ⟨by rw [HV2.out]; rfl, hbw2.trans (hb3.mono hbw2.size)⟩

set_option maxRecDepth 16000 in
set_option maxHeartbeats 1500000 in
theorem specUpper_any (F : Fld) (u : Int) (s : Row) (k : Int) (w : World) (hF : F.At w) (hs : s.At w) (hw : s.Whole 3 w) (hsm : s.l.length ≤ 1048576) (b : Bool) (hb0 : b = askU F u s.l k) (v : Int) (hv : v = if b then upperT F u (nats s.l) k.toNat else 0) :
    Calls Try.prog 33 #[F.val, .int .i64 u, .slice s.a s.l.length s.c, .int .i64 k] w (PInt v b w) := by
  obtain ⟨wA, hA⟩ : ∃ u, u = w.alloc (Obj.cells #[.slice F.o.a F.o.l.length F.o.c, .slice F.t.a F.t.R.length F.t.c] 29) := ⟨_, rfl⟩
  have hbA : Below w.heap.size w wA := by rw [hA]; exact below_alloc _ _
  have bx : Box2 wA w.heap.size (.slice F.o.a F.o.l.length F.o.c) (.slice F.t.a F.t.R.length F.t.c) 29 := by rw [hA]; exact Box2.made w _ _ _
  have x0 := bx.c0
  have x1 := bx.c1
  rw [hA] at x0 x1
  have hFA := hF.on hbA
  obtain ⟨g, hg⟩ : ∃ g, g = worthB F u := ⟨_, rfl⟩
  obtain ⟨c, hc⟩ : ∃ c, c = setB F.o.l.length s.l := ⟨_, rfl⟩
  obtain ⟨d, hd⟩ : ∃ d, d = (decide (0 ≤ k) && decide (k ≤ 7)) := ⟨_, rfl⟩
  have HB : Hid (b = (g && c && d)) := Lib.hid (by rw [hb0]; unfold askU askG; rw [← hg, ← hc, ← hd])
  have CW := Lib.hid (show Calls Try.prog 37 #[.agg #[.slice F.o.a F.o.l.length F.o.c, .slice F.t.a F.t.R.length F.t.c], .int .i64 u] wA fun e w' => e = .returned (.bool g) ∧ Below wA.heap.size wA w' from by have := l8Good_any F u wA hFA; rw [← hg] at this; exact this)
  have CS := Lib.hid (fun W (h : Below wA.heap.size wA W) => (show Calls Try.prog 38 #[.agg #[.slice F.o.a F.o.l.length F.o.c, .slice F.t.a F.t.R.length F.t.c], .slice s.a s.l.length s.c] W fun e w' => e = .returned (.bool c) ∧ Below W.heap.size W w' from by have := l2Set_any F s W (hFA.on h) ((hs.on hbA).on h); rw [← hc] at this; exact this))
  have CK := Lib.hid (fun W => by have := l8K_any k W; rw [← hd] at this; exact this)
  have CU := Lib.hid (fun (hgt : g = true) (hct : c = true) (hdt : d = true) W (hW : Below wA.heap.size wA W) => (by
    have hask : askG F u s.l = true := askG_iff.2 ⟨by rw [← hg]; exact hgt, by rw [← hc]; exact hct⟩
    have h7 := set_few hask
    have hk : 0 ≤ k ∧ k ≤ 7 := by rw [hd] at hdt; simpa using hdt
    have := l8Upper_any F u s (nats s.l) k.toNat W (hFA.on hW) ((hs.on hbA).on hW) ((hw.on hbA).on hW) (worthy_of hask hsm) (by unfold nats; rw [List.length_map]; omega) (by omega)
    rw [show ((k.toNat : Nat) : Int) = k by omega] at this
    exact this : Calls Try.prog 69 #[.agg #[.slice F.o.a F.o.l.length F.o.c, .slice F.t.a F.t.R.length F.t.c], .int .i64 u, .slice s.a s.l.length s.c, .int .i64 k] W fun e w' => e = .returned (.int .i64 (upperT F u (nats s.l) k.toNat)) ∧ Below W.heap.size W w'))
  have HV := Lib.hid hv
  have HNO : Hid (b = false → v = 0) := Lib.hid fun h => by rw [hv, h]; rfl
  have HBX := Lib.hid bx
  have HA := Lib.hid hA.symm
  have HBA := Lib.hid hbA
  clear hF hs hw hsm hb0 hv bx hFA hA hg hc hd hbA
  unfold PInt
  show Calls _ _ #[.agg #[.slice F.o.a F.o.l.length F.o.c, .slice F.t.a F.t.R.length F.t.c], _, _, _] w _
  go_enter Try.func33, Try.ntmps33
  go_wp2_with fail
  rw [HA.out]
  clear x0 x1
  refine (show Calls _ _ _ _ _ from CW.out).mono ?_
  rintro e W1 ⟨rfl, hb1⟩
  have hbw1 := HBA.out.trans (hb1.mono HBA.out.size)
  cases g with
  | false =>
    obtain rfl : b = false := HB.out
    obtain rfl : v = 0 := HNO.out rfl
    go_wp2
    go_ret2
    exact ⟨rfl, hbw1⟩
  | true =>
    have y0 := (HBX.out.on hb1).c0
    have y1 := (HBX.out.on hb1).c1
    have CS1 := Lib.hid (CS.out W1 hb1)
    go_wp2_with fail
    clear y0 y1
    refine (show Calls _ _ _ _ _ from CS1.out).mono ?_
    rintro e W2 ⟨rfl, hb2⟩
    have hbw2 := hbw1.trans (hb2.mono hbw1.size)
    have hb12 := hb1.trans (hb2.mono hb1.size)
    clear hb1 hb2 hbw1
    cases c with
    | false =>
      obtain rfl : b = false := HB.out
      obtain rfl : v = 0 := HNO.out rfl
      go_wp2
      go_ret2
      exact ⟨rfl, hbw2⟩
    | true =>
      go_wp2_with fail
      refine (show Calls _ _ _ _ _ from CK.out W2).mono ?_
      rintro e W3 ⟨rfl, rfl⟩
      cases d with
      | false =>
        obtain rfl : b = false := HB.out
        obtain rfl : v = 0 := HNO.out rfl
        go_wp2
        go_ret2
        exact ⟨rfl, hbw2⟩
      | true =>
        obtain rfl : b = true := HB.out
        have HV2 : Hid (v = upperT F u (nats s.l) k.toNat) := Lib.hid HV.out
        have y0 := (HBX.out.on hb12).c0
        have y1 := (HBX.out.on hb12).c1
        have CU1 := Lib.hid (CU.out (by first | rfl | trivial) (by first | rfl | trivial) (by first | rfl | trivial) _ hb12)
        clear hb12
        go_wp2_with fail
        refine (show Calls _ _ _ _ _ from CU1.out).mono ?_
        rintro e W4 ⟨rfl, hb4⟩
        go_wp2
        go_ret2
        exact ⟨by rw [HV2.out]; rfl, hbw2.trans (hb4.mono hbw2.size)⟩

theorem upperGain_pair (F : Fld) (u : Int) (s : Row) (k : Int) {Q : Prop} (_ : Q) {Q' : Prop} (_ : Q') (_ : F.Small) (hs : s.l.length ≤ 1048576) : ∃ (v : Int) (b : Bool),
    (∀ (G : Fld) (t : Row) (W : World), G.At W → t.At W → G.Like F → t.l = s.l → t.Whole 3 W → Calls Try.prog 33 #[G.val, .int .i64 u, .slice t.a t.l.length t.c, .int .i64 k] W (PInt v b W)) ∧
    (∀ (G : Fld) (t : Row) (W : World), G.At W → t.At W → G.Like F → t.l = s.l → t.Whole 3 W → Calls Try.prog 34 #[G.val, .int .i64 u, .slice t.a t.l.length t.c, .int .i64 k] W (PInt v b W)) :=
  ⟨if askU F u s.l k then upperT F u (nats s.l) k.toNat else 0, askU F u s.l k,
    fun G t W hG ht hl hl2 hw => specUpper_any G u t k W hG ht hw (by rw [hl2]; exact hs) _ (by rw [hl2, askU_like hl]) _ (by rw [hl2, upperT_like hl]),
    fun G t W hG ht hl hl2 hw => implUpper_any G u t k W hG ht hw (by rw [hl2]; exact hs) _ (by rw [hl2, askU_like hl]) _ (by rw [hl2, upperT_like hl])⟩
end Go.Proofs.Ytmddijibplkngaa
