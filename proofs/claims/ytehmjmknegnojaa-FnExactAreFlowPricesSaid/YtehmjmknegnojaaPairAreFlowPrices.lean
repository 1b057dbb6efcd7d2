/- Both sides of AreFlowPrices answer alike. Condition: Field, set and prices read as such. -/
import Derived.Test.YtehmjmknegnojaaPricesSpec
import Derived.Test.YtehmjmknegnojaaPricesImpl
namespace Go.Proofs.Ytehmjmknegnojaa
open Go.RowKit

set_option maxHeartbeats 1000000 in
theorem specFlowPrices_any (F : Fld) (s u p : Row) (w : World) (hF : F.At w) (hs : s.At w) (hu : u.At w) (hp : p.At w) (l b : Bool) (hb : b = twoB F s) (hl : l = (twoB F s && flowPricesB F s.l u.l p.l)) :
    Calls Try.prog 25 #[F.val, .slice s.a s.l.length s.c, .slice u.a u.l.length u.c, .slice p.a p.l.length p.c] w (PBool2 l b w) := by
  obtain ⟨wA, hA, hbA, bx, hFA, _⟩ := laid_fld F w 29 hF
  have HBX := Lib.hid bx
  have HA := Lib.hid hA
  have ct := l2Two_any F s wA hFA (hs.on hbA)
  rw [← hb] at ct hl
  have CT := Lib.hid ct
  have CP := Lib.hid (fun W (h : Below wA.heap.size wA W) (h2 : b = true) => by
    obtain ⟨T, hf⟩ := fine_of (hb.symm.trans h2)
    exact l7Prices_any F s u p T W (hFA.on h) ((hs.on hbA).on h) ((hu.on hbA).on h) ((hp.on hbA).on h) hf)
  have HL := Lib.hid hl
  clear hF hs hu hp hA hFA bx ct hb hl
  unfold PBool2
  show Calls _ _ #[.agg #[F.o.val, F.t.val], _, _, _] w _
  go_enter Try.func25, Try.ntmps25
  go_wp2_with fail
  rw [show w.alloc (Obj.cells #[F.o.val, F.t.val] 29) = wA from HA.out.symm]
  refine (show Calls _ _ _ _ _ from CT.out).mono ?_
  rintro e W1 ⟨rfl, hb1⟩
  have hbw := hbA.trans (hb1.mono hbA.size)
  cases b with
  | false =>
    go_wp2
    go_ret2
    exact ⟨by rw [HL.out]; rfl, hbw⟩
  | true =>
    have y0 := (HBX.out.on hb1).c0
    have y1 := (HBX.out.on hb1).c1
    have CP1 := Lib.hid (CP.out W1 hb1 rfl)
    clear hb1
    go_wp2_with fail
    refine (show Calls _ _ _ _ _ from CP1.out).mono ?_
    rintro e W2 ⟨rfl, hb2⟩
    go_wp2
    go_ret2
    exact ⟨by rw [HL.out]; rfl, hbw.trans (hb2.mono hbw.size)⟩

set_option maxHeartbeats 1000000 in
theorem implFlowPrices_any (F : Fld) (s u p : Row) (w : World) (hF : F.At w) (hs : s.At w) (hu : u.At w) (hp : p.At w) (hsm : s.l.length ≤ 1048576) (l b : Bool) (hb : b = twoB F s) (hl : l = (twoB F s && flowPricesB F s.l u.l p.l)) :
    Calls Try.prog 26 #[F.val, .slice s.a s.l.length s.c, .slice u.a u.l.length u.c, .slice p.a p.l.length p.c] w (PBool2 l b w) := by
  obtain ⟨wA, hA, hbA, bx, hFA, _⟩ := laid_fld F w 29 hF
  have HBX := Lib.hid bx
  have HA := Lib.hid hA
  have ct := canServe_any F s wA hFA (hs.on hbA)
  rw [← hb] at ct hl
  have CT := Lib.hid ct
  have CP := Lib.hid (fun W (h : Below wA.heap.size wA W) (h2 : b = true) => by
    obtain ⟨T, hf⟩ := fine_of (hb.symm.trans h2)
    exact areFlowPrices_any F s u p T W (hFA.on h) ((hs.on hbA).on h) ((hu.on hbA).on h) ((hp.on hbA).on h) hf hsm)
  have HL := Lib.hid hl
  clear hF hs hu hp hA hFA bx ct hb hl
  unfold PBool2
  show Calls _ _ #[.agg #[F.o.val, F.t.val], _, _, _] w _
  go_enter Try.func26, Try.ntmps26
  go_wp2_with fail
  rw [show w.alloc (Obj.cells #[F.o.val, F.t.val] 29) = wA from HA.out.symm]
  refine (show Calls _ _ _ _ _ from CT.out).mono ?_
  rintro e W1 ⟨rfl, hb1⟩
  have hbw := hbA.trans (hb1.mono hbA.size)
  cases b with
  | false =>
    go_wp2
    go_ret2
    exact ⟨by rw [HL.out]; rfl, hbw⟩
  | true =>
    have y0 := (HBX.out.on hb1).c0
    have y1 := (HBX.out.on hb1).c1
    have CP1 := Lib.hid (CP.out W1 hb1 rfl)
    clear hb1
    go_wp2_with fail
    refine (show Calls _ _ _ _ _ from CP1.out).mono ?_
    rintro e W2 ⟨rfl, hb2⟩
    go_wp2
    go_ret2
    exact ⟨by rw [HL.out]; rfl, hbw.trans (hb2.mono hbw.size)⟩

theorem areFlowPrices_pair (F : Fld) (s u p : Row) (_ : F.Small) (_ : s.l.length ≤ 1048576) (_ : u.l.length ≤ 1048576) (_ : p.l.length ≤ 1048576) : ∃ (v : Bool) (b : Bool),
    (∀ (G : Fld) (x y z : Row) (W : World), G.At W → x.At W → y.At W → z.At W → G.Like F → x.l = s.l → y.l = u.l → z.l = p.l → Calls Try.prog 25 #[G.val, .slice x.a x.l.length x.c, .slice y.a y.l.length y.c, .slice z.a z.l.length z.c] W (PBool2 v b W)) ∧
    (∀ (G : Fld) (x y z : Row) (W : World), G.At W → x.At W → y.At W → z.At W → G.Like F → x.l = s.l → y.l = u.l → z.l = p.l → Calls Try.prog 26 #[G.val, .slice x.a x.l.length x.c, .slice y.a y.l.length y.c, .slice z.a z.l.length z.c] W (PBool2 v b W)) :=
  ⟨twoB F s && flowPricesB F s.l u.l p.l, twoB F s, fun G x y z W hG hx hy hz hl h1 h2 h3 => specFlowPrices_any G x y z W hG hx hy hz _ _ (twoB_like hl h1).symm (by rw [twoB_like hl h1, flowPricesB_like hl, h1, h2, h3]),
    fun G x y z W hG hx hy hz hl h1 h2 h3 => implFlowPrices_any G x y z W hG hx hy hz (by rw [h1]; assumption) _ _ (twoB_like hl h1).symm (by rw [twoB_like hl h1, flowPricesB_like hl, h1, h2, h3])⟩
end Go.Proofs.Ytehmjmknegnojaa
