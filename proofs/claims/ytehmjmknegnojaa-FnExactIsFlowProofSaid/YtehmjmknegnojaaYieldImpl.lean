/- The contract of FlowYield on the program's side: prices behind an interface. Condition: the arguments read as such. -/
import Derived.Test.YtehmjmknegnojaaDot
import Derived.Test.YtehmjmknegnojaaSupply
import Derived.Test.YtehmjmknegnojaaPricesImpl
namespace Go.Proofs.Ytehmjmknegnojaa
open Go.RowKit

/-- The yield of flow prices. -/
def yieldV (r n u p : List Int) : Int := dotTo n u n.length - dotTo r p r.length
/-- What flow prices are, where they are some. -/
structure Prices (F : Fld) (r n u p : List Int) : Prop where
  rl : r.length = F.o.l.length
  nl : n.length = F.t.R.length
  ul : u.length = F.t.R.length
  pl : p.length = F.o.l.length
  nu : Dots n u
  rp : Dots r p
theorem prices_of {F : Fld} {s : Row} {r n u p : List Int} (h : givenB F r n s = true) (h2 : flowPricesB F s.l u p = true) : Prices F r n u p := by
  unfold givenB at h
  rw [Bool.and_eq_true] at h
  obtain ⟨h3, h4, h5, h6⟩ := needsB_iff.1 h.2
  unfold flowPricesB at h2
  simp only [Bool.and_eq_true, decide_eq_true_eq] at h2
  obtain ⟨⟨⟨h7, h8, h9⟩, _⟩, h10⟩ := h2
  refine ⟨h4, h6, h7, h9, ⟨fun x hx => ?_, fun y hy => ?_⟩, ⟨fun x hx => ?_, fun y hy => ?_⟩⟩
  · have := upTo_iff.1 (h5 x hx); omega
  · obtain ⟨k, hk, rfl⟩ := List.mem_iff_getElem.1 hy
    have := List.all_eq_true.1 h10 k (List.mem_range.2 hk)
    unfold price1 at this
    simp only [Bool.and_eq_true, decide_eq_true_eq] at this
    rw [getD_at hk] at this
    exact this.1
  · have := upTo_iff.1 (h3 x hx); omega
  · have := upTo_iff.1 (List.all_eq_true.1 h8 y hy); omega

set_option maxRecDepth 16000 in
set_option maxHeartbeats 1000000 in
theorem priceValue_any (F : Fld) (r n s u p : Row) (w : World) (hr : r.At w) (hn : n.At w) (hu : u.At w) (hp : p.At w) (hg : F.good = true) (h : Prices F r.l n.l u.l p.l) :
    Calls Try.prog 116 #[.agg #[.slice F.o.a F.o.l.length F.o.c, .slice F.t.a F.t.R.length F.t.c, .slice r.a r.l.length r.c, .slice n.a n.l.length n.c, .slice s.a s.l.length s.c, .slice u.a u.l.length u.c, .slice p.a p.l.length p.c]] w fun e w' => e = .returned (.int .i64 (yieldV r.l n.l u.l p.l)) ∧ Below w.heap.size w w' := by
  obtain ⟨wA, hA, hbA, bx, _⟩ := laid_box #[.slice F.o.a F.o.l.length F.o.c, .slice F.t.a F.t.R.length F.t.c, .slice r.a r.l.length r.c, .slice n.a n.l.length n.c, .slice s.a s.l.length s.c, .slice u.a u.l.length u.c, .slice p.a p.l.length p.c] w 68
  have c2 := bx.cell 2 rfl
  have c3 := bx.cell 3 rfl
  have c5 := bx.cell 5 rfl
  have c6 := bx.cell 6 rfl
  have hsz := good_sizes hg
  obtain ⟨a, ha⟩ : ∃ a, a = dotTo n.l u.l n.l.length := ⟨_, rfl⟩
  obtain ⟨b, hb⟩ : ∃ b, b = dotTo r.l p.l r.l.length := ⟨_, rfl⟩
  have b1 := h.nu.sum n.l.length
  have b2 := h.rp.sum r.l.length
  have l1 := h.nl
  have l2 := h.rl
  rw [← ha] at b1
  rw [← hb] at b2
  have e1 : IntKind.i64.wrap (a - b) = a - b := IntWalk.i64_in _ (by omega)
  have C1 := Lib.hid (fun d => by have := sumProd_any n u (wA.drewN d) ((hn.on hbA).on (below_draws _ d)) ((hu.on hbA).on (below_draws _ d)) (by have := h.nl; have := h.ul; omega) (by have := h.nl; omega) h.nu; rw [← ha] at this; exact this : ∀ d, Calls Try.prog 114 #[.slice n.a n.l.length n.c, .slice u.a u.l.length u.c] (wA.drewN d) fun e w' => e = .returned (.int .i64 a) ∧ w' = (wA.drewN d))
  have C2 := Lib.hid (fun d => by have := sumProd_any r p (wA.drewN d) ((hr.on hbA).on (below_draws _ d)) ((hp.on hbA).on (below_draws _ d)) (by have := h.rl; have := h.pl; omega) (by have := h.rl; omega) h.rp; rw [← hb] at this; exact this : ∀ d, Calls Try.prog 114 #[.slice r.a r.l.length r.c, .slice p.a p.l.length p.c] (wA.drewN d) fun e w' => e = .returned (.int .i64 b) ∧ w' = (wA.drewN d))
  have HY : Hid (yieldV r.l n.l u.l p.l = a - b) := Lib.hid (by rw [ha, hb]; rfl)
  have HA := Lib.hid hA
  clear hA bx hr hn hu hp hg h ha hb hsz l1 l2
  go_enter Try.func116, Try.ntmps116
  go_wp2_with fail
  rw [show w.alloc (Obj.cells #[.slice F.o.a F.o.l.length F.o.c, .slice F.t.a F.t.R.length F.t.c, .slice r.a r.l.length r.c, .slice n.a n.l.length n.c, .slice s.a s.l.length s.c, .slice u.a u.l.length u.c, .slice p.a p.l.length p.c] 68) = wA from HA.out.symm]
  go_quiet ((go_at_call 114; first | with_reducible exact Calls.quiet_of_same (C1.out _) | with_reducible exact Calls.quiet_of_same (C2.out _)))
  go_wp2
  go_ret
  exact ⟨by rw [HY.out]; rfl, hbA.trans ((below_draws wA _).mono hbA.size)⟩

set_option maxRecDepth 16000 in
set_option maxHeartbeats 1000000 in
theorem priceValid_any (F : Fld) (r n s u p : Row) (w : World) (hF : F.At w) (hr : r.At w) (hn : n.At w) (hs : s.At w) (hu : u.At w) (hp : p.At w) (hsm : s.l.length ≤ 1048576) :
    Calls Try.prog 115 #[.agg #[.slice F.o.a F.o.l.length F.o.c, .slice F.t.a F.t.R.length F.t.c, .slice r.a r.l.length r.c, .slice n.a n.l.length n.c, .slice s.a s.l.length s.c, .slice u.a u.l.length u.c, .slice p.a p.l.length p.c]] w fun e w' => e = .returned (.bool (givenB F r.l n.l s && flowPricesB F s.l u.l p.l)) ∧ Below w.heap.size w w' := by
  obtain ⟨wA, hA, hbA, bx, _⟩ := laid_box #[.slice F.o.a F.o.l.length F.o.c, .slice F.t.a F.t.R.length F.t.c, .slice r.a r.l.length r.c, .slice n.a n.l.length n.c, .slice s.a s.l.length s.c, .slice u.a u.l.length u.c, .slice p.a p.l.length p.c] w 68
  have c0 := bx.cell 0 rfl
  have c1 := bx.cell 1 rfl
  have c2 := bx.cell 2 rfl
  have c3 := bx.cell 3 rfl
  have c4 := bx.cell 4 rfl
  rw [hA] at c0 c1 c2 c3 c4
  obtain ⟨g, hg⟩ : ∃ g, g = givenB F r.l n.l s := ⟨_, rfl⟩
  obtain ⟨q, hq⟩ : ∃ q, q = flowPricesB F s.l u.l p.l := ⟨_, rfl⟩
  have HE : Hid ((givenB F r.l n.l s && flowPricesB F s.l u.l p.l) = (g && q)) := Lib.hid (by rw [hg, hq])
  have cv := valid_any F r n s wA (hF.on hbA) (hr.on hbA) (hn.on hbA) (hs.on hbA)
  rw [← hg] at cv
  have CV := Lib.hid cv
  have CP := Lib.hid (fun W (hW : Below wA.heap.size wA W) (h : g = true) => by
    have h2 := hg.symm.trans h
    unfold givenB at h2
    rw [Bool.and_eq_true] at h2
    obtain ⟨T, hf⟩ := fine_of h2.1
    have := areFlowPrices_any F s u p T W ((hF.on hbA).on hW) ((hs.on hbA).on hW) ((hu.on hbA).on hW) ((hp.on hbA).on hW) hf hsm
    rw [← hq] at this; exact this : ∀ W, Below wA.heap.size wA W → g = true → Calls Try.prog 52 #[F.val, .slice s.a s.l.length s.c, .slice u.a u.l.length u.c, .slice p.a p.l.length p.c] W fun e w' => e = .returned (.bool q) ∧ Below W.heap.size W w')
  have HBX := Lib.hid bx
  have HA := Lib.hid hA
  clear hA bx hF hr hn hs hu hp hg hq cv
  go_enter Try.func115, Try.ntmps115
  go_wp2_with fail
  rw [show w.alloc (Obj.cells #[.slice F.o.a F.o.l.length F.o.c, .slice F.t.a F.t.R.length F.t.c, .slice r.a r.l.length r.c, .slice n.a n.l.length n.c, .slice s.a s.l.length s.c, .slice u.a u.l.length u.c, .slice p.a p.l.length p.c] 68) = wA from HA.out.symm]
  clear c0 c1 c2 c3 c4
  refine (show Calls _ _ _ _ _ from CV.out).mono ?_
  rintro e W1 ⟨rfl, hb1⟩
  have hbw := hbA.trans (hb1.mono hbA.size)
  cases g with
  | false =>
    go_wp2
    go_ret
    exact ⟨by rw [HE.out]; rfl, hbw⟩
  | true =>
    have y0 := (HBX.out.on hb1).cell 0 rfl
    have y1 := (HBX.out.on hb1).cell 1 rfl
    have y4 := (HBX.out.on hb1).cell 4 rfl
    have y5 := (HBX.out.on hb1).cell 5 rfl
    have y6 := (HBX.out.on hb1).cell 6 rfl
    have CP1 := Lib.hid (CP.out W1 hb1 rfl)
    clear hb1
    go_wp2_with fail
    refine (show Calls _ _ _ _ _ from CP1.out).mono ?_
    rintro e W2 ⟨rfl, hb2⟩
    go_wp2
    go_ret
    exact ⟨by rw [HE.out]; rfl, hbw.trans (hb2.mono hbw.size)⟩

set_option maxRecDepth 16000 in
set_option maxHeartbeats 1000000 in
theorem valueOfP_any (F : Fld) (r n s u p : Row) (w : World) (hF : F.At w) (hr : r.At w) (hn : n.At w) (hs : s.At w) (hu : u.At w) (hp : p.At w) (hsm : s.l.length ≤ 1048576) (b : Bool) (v : Int) (hv : v = if b then yieldV r.l n.l u.l p.l else 0) (hb : b = (givenB F r.l n.l s && flowPricesB F s.l u.l p.l)) :
    Calls Try.prog 48 #[.iface 68 (.agg #[.slice F.o.a F.o.l.length F.o.c, .slice F.t.a F.t.R.length F.t.c, .slice r.a r.l.length r.c, .slice n.a n.l.length n.c, .slice s.a s.l.length s.c, .slice u.a u.l.length u.c, .slice p.a p.l.length p.c])] w (PInt v b w) := by
  have HV := Lib.hid hv
  have cv := priceValid_any F r n s u p w hF hr hn hs hu hp hsm
  rw [← hb] at cv
  have CV := Lib.hid cv
  have CP := Lib.hid (fun W (hW : Below w.heap.size w W) (h : b = true) => by
    have h2 := hb.symm.trans h
    rw [Bool.and_eq_true] at h2
    have h3 := h2.1
    unfold givenB at h3
    rw [Bool.and_eq_true] at h3
    exact priceValue_any F r n s u p W (hr.on hW) (hn.on hW) (hu.on hW) (hp.on hW) (twoB_iff.1 h3.1).1 (prices_of h2.1 h2.2))
  clear hF hr hn hs hu hp cv hb hv
  unfold PInt
  go_enter Try.func48, Try.ntmps48
  go_wp2_with fail
  refine (show Calls _ _ _ _ _ from CV.out).mono ?_
  rintro e W1 ⟨rfl, hb1⟩
  cases b with
  | false =>
    go_wp2
    go_ret2
    exact ⟨by rw [HV.out]; rfl, hb1⟩
  | true =>
    have CP1 := Lib.hid (CP.out W1 hb1 rfl)
    have HB1 := Lib.hid hb1
    clear hb1
    go_wp2_with fail
    refine (show Calls _ _ _ _ _ from CP1.out).mono ?_
    rintro e W2 ⟨rfl, hb2⟩
    go_wp2
    go_ret2
    exact ⟨by rw [HV.out]; rfl, HB1.out.trans (hb2.mono HB1.out.size)⟩

set_option maxRecDepth 16000 in
set_option maxHeartbeats 1000000 in
theorem implYield_any (F : Fld) (r n s u p : Row) (w : World) (hF : F.At w) (hr : r.At w) (hn : n.At w) (hs : s.At w) (hu : u.At w) (hp : p.At w) (hsm : s.l.length ≤ 1048576) (b : Bool) (v : Int) (hb : b = (givenB F r.l n.l s && flowPricesB F s.l u.l p.l)) (hv : v = if b then yieldV r.l n.l u.l p.l else 0) :
    Calls Try.prog 28 #[F.val, .slice r.a r.l.length r.c, .slice n.a n.l.length n.c, .slice s.a s.l.length s.c, .slice u.a u.l.length u.c, .slice p.a p.l.length p.c] w (PInt v b w) := by
  obtain ⟨wA, hA, hbA, bx, hFA, _⟩ := laid_fld F w 29 hF
  have x0 : wA.cell? ⟨w.heap.size, 0, none⟩ = some (.slice F.o.a F.o.l.length F.o.c) := bx.c0
  have x1 : wA.cell? ⟨w.heap.size, 1, none⟩ = some (.slice F.t.a F.t.R.length F.t.c) := bx.c1
  rw [hA] at x0 x1
  change (w.alloc (Obj.cells #[.slice F.o.a F.o.l.length F.o.c, .slice F.t.a F.t.R.length F.t.c] 29)).cell? _ = _ at x0 x1
  have CV := Lib.hid (valueOfP_any F r n s u p wA hFA (hr.on hbA) (hn.on hbA) (hs.on hbA) (hu.on hbA) (hp.on hbA) hsm b v hv hb)
  have HA := Lib.hid hA
  clear hF hr hn hs hu hp hA bx hFA hb hv
  unfold PInt
  show Calls _ _ #[.agg #[.slice F.o.a F.o.l.length F.o.c, .slice F.t.a F.t.R.length F.t.c], _, _, _, _, _] w _
  go_enter Try.func28, Try.ntmps28
  go_wp2_with fail
  rw [show w.alloc (Obj.cells #[Value.slice F.o.a F.o.l.length F.o.c, Value.slice F.t.a F.t.R.length F.t.c] 29) = wA from HA.out.symm]
  clear x0 x1
  refine (show Calls _ _ _ _ _ from CV.out).mono ?_
  rintro e W1 ⟨rfl, hb1⟩
  go_wp2
  go_ret2
  exact ⟨rfl, hbA.trans (hb1.mono hbA.size)⟩
end Go.Proofs.Ytehmjmknegnojaa
