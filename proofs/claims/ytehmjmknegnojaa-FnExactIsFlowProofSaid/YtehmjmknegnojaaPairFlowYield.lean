/- Both sides of FlowYield answer alike. Condition: the arguments read as such. -/
import Derived.Test.YtehmjmknegnojaaYieldImpl
import Derived.Test.YtehmjmknegnojaaPricesSpec
namespace Go.Proofs.Ytehmjmknegnojaa
open Go.RowKit

set_option maxRecDepth 16000 in
set_option maxHeartbeats 1000000 in
theorem l7Given_any (F : Fld) (r n s : Row) (w : World) (hF : F.At w) (hr : r.At w) (hn : n.At w) (hs : s.At w) :
    Calls Try.prog 43 #[F.val, .slice r.a r.l.length r.c, .slice n.a n.l.length n.c, .slice s.a s.l.length s.c] w fun e w' => e = .returned (.bool (givenB F r.l n.l s)) ∧ Below w.heap.size w w' := by
  obtain ⟨wA, hA, hbA, bx, hFA, _⟩ := laid_fld F w 29 hF
  obtain ⟨u, hu⟩ : ∃ u, u = twoB F s := ⟨_, rfl⟩
  obtain ⟨v, hv⟩ : ∃ v, v = needsB F r.l n.l := ⟨_, rfl⟩
  have ct := l2Two_any F s wA hFA (hs.on hbA)
  rw [← hu] at ct
  have CT := Lib.hid ct
  have CN := Lib.hid (fun W (h : Below wA.heap.size wA W) => by have := l7Needs_any F r n W (hFA.on h) ((hr.on hbA).on h) ((hn.on hbA).on h); rw [← hv] at this; exact this : ∀ W, Below wA.heap.size wA W → Calls Try.prog 40 #[F.val, .slice r.a r.l.length r.c, .slice n.a n.l.length n.c] W fun e w' => e = .returned (.bool v) ∧ Below W.heap.size W w')
  have HE : Hid (givenB F r.l n.l s = (u && v)) := Lib.hid (by rw [hu, hv]; rfl)
  have HBX := Lib.hid bx
  have HA := Lib.hid hA
  clear hF hr hn hs hA bx hFA hu hv ct
  show Calls _ _ #[.agg #[F.o.val, F.t.val], _, _, _] w _
  go_enter Try.func43, Try.ntmps43
  go_wp2_with fail
  rw [show w.alloc (Obj.cells #[F.o.val, F.t.val] 29) = wA from HA.out.symm]
  refine (show Calls _ _ _ _ _ from CT.out).mono ?_
  rintro e W1 ⟨rfl, hb1⟩
  have hbw := hbA.trans (hb1.mono hbA.size)
  cases u with
  | false =>
    go_wp2
    go_ret
    exact ⟨by rw [HE.out]; rfl, hbw⟩
  | true =>
    have y0 := (HBX.out.on hb1).c0
    have y1 := (HBX.out.on hb1).c1
    have CN1 := Lib.hid (CN.out W1 hb1)
    clear hb1
    go_wp2_with fail
    refine (show Calls _ _ _ _ _ from CN1.out).mono ?_
    rintro e W2 ⟨rfl, hb2⟩
    go_wp2
    go_ret
    exact ⟨by rw [HE.out]; rfl, hbw.trans (hb2.mono hbw.size)⟩

set_option maxRecDepth 16000 in
set_option maxHeartbeats 1000000 in
theorem l7Yield_any (r n u p : Row) (w : World) (hr : r.At w) (hn : n.At w) (hu : u.At w) (hp : p.At w) (h1 : n.l.length ≤ u.l.length) (h2 : r.l.length ≤ p.l.length) (hn7 : n.l.length ≤ 7) (hr7 : r.l.length ≤ 7) (hd1 : Dots n.l u.l) (hd2 : Dots r.l p.l) :
    Calls Try.prog 53 #[.slice r.a r.l.length r.c, .slice n.a n.l.length n.c, .slice u.a u.l.length u.c, .slice p.a p.l.length p.c] w fun e w' => e = .returned (.int .i64 (yieldV r.l n.l u.l p.l)) ∧ Below w.heap.size w w' := by
  have hri : (r.l.length : Int) ≤ 7 := by omega
  have hni : (n.l.length : Int) ≤ 7 := by omega
  have hui := row_lim hu
  have hpi := row_lim hp
  have HC : Hid (∀ k, k < n.l.length → ∃ b o b2 o2, n.a = some ⟨b, o, none⟩ ∧ u.a = some ⟨b2, o2, none⟩ ∧ w.cell? ⟨b, o + k, none⟩ = some (.int .i64 (n.l.getD k 0)) ∧ w.cell? ⟨b2, o2 + k, none⟩ = some (.int .i64 (u.l.getD k 0))) := Lib.hid fun k hk => by
    obtain ⟨b, o, h1, _, h2⟩ := rowAll hn (by omega)
    obtain ⟨b2, o2, h3, _, h4⟩ := rowAll hu (by omega)
    exact ⟨b, o, b2, o2, h1, h3, h2 k hk, h4 k (by omega)⟩
  have HC2 : Hid (∀ k, k < r.l.length → ∃ b o b2 o2, r.a = some ⟨b, o, none⟩ ∧ p.a = some ⟨b2, o2, none⟩ ∧ w.cell? ⟨b, o + k, none⟩ = some (.int .i64 (r.l.getD k 0)) ∧ w.cell? ⟨b2, o2 + k, none⟩ = some (.int .i64 (p.l.getD k 0))) := Lib.hid fun k hk => by
    obtain ⟨b, o, h1, _, h2⟩ := rowAll hr (by omega)
    obtain ⟨b2, o2, h3, _, h4⟩ := rowAll hp (by omega)
    exact ⟨b, o, b2, o2, h1, h3, h2 k hk, h4 k (by omega)⟩
  have HD := Lib.hid hd1
  have HD2 := Lib.hid hd2
  clear hr hn hu hp hd1 hd2
  go_enter Try.func53, Try.ntmps53
  go_wp2
  go_loopw [9, 10] (fun sv jv wr => ∃ k : Nat, k ≤ n.l.length ∧ jv = .int .i64 k ∧ sv = .int .i64 (dotTo n.l u.l k) ∧ DrewTo w wr) (fun _ jv _ => n.l.length - (intOf jv).toNat)
  case atStart => exact ⟨0, Nat.zero_le _, rfl, by rw [dot_zero], DrewTo.refl _⟩
  case round =>
    obtain ⟨k, hk, rfl, rfl, hdw⟩ := hrel
    by_cases hlt : k < n.l.length
    · have hlti : (k : Int) < (n.l.length : Int) := by omega
      have hlqi : (k : Int) < (u.l.length : Int) := by omega
      obtain ⟨b, o, b2, o2, hra, hqa, hc1', hc2'⟩ := HC.out k hlt
      have hm := HD.out.at k
      have hs := HD.out.sum k
      have HS : Hid (dotTo n.l u.l (k + 1) = dotTo n.l u.l k + n.l.getD k 0 * u.l.getD k 0) := Lib.hid (dot_step _ _ _)
      obtain ⟨x, hx⟩ : ∃ x, x = n.l.getD k 0 := ⟨_, rfl⟩
      obtain ⟨y, hy⟩ : ∃ y, y = u.l.getD k 0 := ⟨_, rfl⟩
      obtain ⟨s, hs'⟩ : ∃ s, s = dotTo n.l u.l k := ⟨_, rfl⟩
      rw [← hx, ← hy] at hm
      rw [← hs'] at hs ⊢
      rw [← hs', ← hx, ← hy] at HS
      rw [← hx] at hc1'
      rw [← hy] at hc2'
      have hc1 : wr.cell? ⟨b, o + k, none⟩ = some (.int .i64 x) := by rw [hdw.cell]; exact hc1'
      have hc2 : wr.cell? ⟨b2, o2 + k, none⟩ = some (.int .i64 y) := by rw [hdw.cell]; exact hc2'
      obtain ⟨z, hz⟩ : ∃ z, z = x * y := ⟨_, rfl⟩
      rw [← hz] at hm HS
      have e1 : IntKind.i64.wrap (x * y) = z := by rw [← hz]; exact IntWalk.i64_in _ (by omega)
      have e2 : IntKind.i64.wrap (s + z) = s + z := IntWalk.i64_in _ (by omega)
      rw [hra, hqa]
      clear hra hqa hx hy hs' hz hc1' hc2'
      go_wp2
      go_quiet (fail)
      go_wp2
      go_roundw
      case rel => exact ⟨k + 1, by omega, by go_num, by rw [HS.out], hdw.more _⟩
      case measure => simp [intOf]; omega
    · obtain rfl : k = n.l.length := by omega
      obtain ⟨V, rfl⟩ : ∃ V, V = wr := ⟨_, rfl⟩
      obtain ⟨A, hA⟩ : ∃ A, A = dotTo n.l u.l n.l.length := ⟨_, rfl⟩
      have hAb := HD.out.sum n.l.length
      rw [← hA] at hAb ⊢
      have HA := Lib.hid hA
      have HDW := Lib.hid hdw
      clear hA hdw
      go_wp2
      go_loopw [9, 11] (fun sv jv wi => ∃ k : Nat, k ≤ r.l.length ∧ jv = .int .i64 k ∧ sv = .int .i64 (A - dotTo r.l p.l k) ∧ DrewTo w wi) (fun _ jv _ => r.l.length - (intOf jv).toNat)
      case atStart => exact ⟨0, Nat.zero_le _, rfl, by rw [dot_zero, Int.sub_zero], HDW.out⟩
      case round =>
        obtain ⟨k, hk, rfl, rfl, hdw⟩ := hrel
        by_cases hlt : k < r.l.length
        · have hlti : (k : Int) < (r.l.length : Int) := by omega
          have hlqi : (k : Int) < (p.l.length : Int) := by omega
          obtain ⟨b, o, b2, o2, hra, hqa, hc1', hc2'⟩ := HC2.out k hlt
          have hm := HD2.out.at k
          have hs := HD2.out.sum k
          have hst := dot_step r.l p.l k
          obtain ⟨x, hx⟩ : ∃ x, x = r.l.getD k 0 := ⟨_, rfl⟩
          obtain ⟨y, hy⟩ : ∃ y, y = p.l.getD k 0 := ⟨_, rfl⟩
          obtain ⟨s, hs'⟩ : ∃ s, s = A - dotTo r.l p.l k := ⟨_, rfl⟩
          rw [← hx, ← hy] at hm hst
          rw [← hx] at hc1'
          rw [← hy] at hc2'
          have hc1 : wr.cell? ⟨b, o + k, none⟩ = some (.int .i64 x) := by rw [hdw.cell]; exact hc1'
          have hc2 : wr.cell? ⟨b2, o2 + k, none⟩ = some (.int .i64 y) := by rw [hdw.cell]; exact hc2'
          obtain ⟨z, hz⟩ : ∃ z, z = x * y := ⟨_, rfl⟩
          rw [← hz] at hm hst
          have HS : Hid (A - dotTo r.l p.l (k + 1) = s - z) := Lib.hid (by rw [hst, hs']; omega)
          have e1 : IntKind.i64.wrap (x * y) = z := by rw [← hz]; exact IntWalk.i64_in _ (by omega)
          have e2 : IntKind.i64.wrap (s - z) = s - z := IntWalk.i64_in _ (by omega)
          rw [hra, hqa, ← hs']
          clear hra hqa hx hy hs' hz hc1' hc2' hst
          go_wp2
          go_quiet (fail)
          go_wp2
          go_roundw
          case rel => exact ⟨k + 1, by omega, by go_num, by rw [HS.out], hdw.more _⟩
          case measure => simp [intOf]; omega
        · obtain rfl : k = r.l.length := by omega
          have HY : Hid (yieldV r.l n.l u.l p.l = A - dotTo r.l p.l r.l.length) := Lib.hid (by rw [HA.out]; rfl)
          go_wp2
          go_ret
          exact ⟨by rw [HY.out]; rfl, hdw.below⟩

set_option maxRecDepth 16000 in
set_option maxHeartbeats 1000000 in
theorem specYield_any (F : Fld) (r n s u p : Row) (w : World) (hF : F.At w) (hr : r.At w) (hn : n.At w) (hs : s.At w) (hu : u.At w) (hp : p.At w) (b : Bool) (v : Int) (hb : b = (givenB F r.l n.l s && flowPricesB F s.l u.l p.l)) (hv : v = if b then yieldV r.l n.l u.l p.l else 0) :
    Calls Try.prog 27 #[F.val, .slice r.a r.l.length r.c, .slice n.a n.l.length n.c, .slice s.a s.l.length s.c, .slice u.a u.l.length u.c, .slice p.a p.l.length p.c] w (PInt v b w) := by
  obtain ⟨wA, hA, hbA, bx, hFA, _⟩ := laid_fld F w 29 hF
  obtain ⟨g, hg⟩ : ∃ g, g = givenB F r.l n.l s := ⟨_, rfl⟩
  obtain ⟨q, hq⟩ : ∃ q, q = flowPricesB F s.l u.l p.l := ⟨_, rfl⟩
  have cv := l7Given_any F r n s wA hFA (hr.on hbA) (hn.on hbA) (hs.on hbA)
  rw [← hg] at cv
  have CV := Lib.hid cv
  have CP := Lib.hid (fun W (hW : Below wA.heap.size wA W) (h : g = true) => by
    have h2 := hg.symm.trans h
    unfold givenB at h2
    rw [Bool.and_eq_true] at h2
    obtain ⟨T, hf⟩ := fine_of h2.1
    have := l7Prices_any F s u p T W (hFA.on hW) ((hs.on hbA).on hW) ((hu.on hbA).on hW) ((hp.on hbA).on hW) hf
    rw [← hq] at this; exact this : ∀ W, Below wA.heap.size wA W → g = true → Calls Try.prog 50 #[F.val, .slice s.a s.l.length s.c, .slice u.a u.l.length u.c, .slice p.a p.l.length p.c] W fun e w' => e = .returned (.bool q) ∧ Below W.heap.size W w')
  have CY := Lib.hid (fun W (hW : Below wA.heap.size wA W) (h : g = true) (h' : q = true) => by
    have h2 := hg.symm.trans h
    have h3 := prices_of h2 (hq.symm.trans h')
    unfold givenB at h2
    rw [Bool.and_eq_true] at h2
    have hsz := good_sizes (twoB_iff.1 h2.1).1
    have l1 := h3.nl
    have l2 := h3.rl
    have l3 := h3.ul
    have l4 := h3.pl
    exact l7Yield_any r n u p W ((hr.on hbA).on hW) ((hn.on hbA).on hW) ((hu.on hbA).on hW) ((hp.on hbA).on hW) (by omega) (by omega) (by omega) (by omega) h3.nu h3.rp)
  have HB : Hid (b = (g && q)) := Lib.hid (by rw [hg, hq]; exact hb)
  have HV := Lib.hid hv
  have HBX := Lib.hid bx
  have HA := Lib.hid hA
  clear hF hr hn hs hu hp hA bx hFA hb hv hg hq cv
  unfold PInt
  show Calls _ _ #[.agg #[F.o.val, F.t.val], _, _, _, _, _] w _
  go_enter Try.func27, Try.ntmps27
  go_wp2_with fail
  rw [show w.alloc (Obj.cells #[F.o.val, F.t.val] 29) = wA from HA.out.symm]
  refine (show Calls _ _ _ _ _ from CV.out).mono ?_
  rintro e W1 ⟨rfl, hb1⟩
  have hbw := hbA.trans (hb1.mono hbA.size)
  cases g with
  | false =>
    go_wp2
    go_ret2
    exact ⟨by rw [HV.out, HB.out]; rfl, hbw⟩
  | true =>
    have y0 := (HBX.out.on hb1).c0
    have y1 := (HBX.out.on hb1).c1
    have CP1 := Lib.hid (CP.out W1 hb1 rfl)
    have HB1 := Lib.hid hb1
    clear hb1
    go_wp2_with fail
    refine (show Calls _ _ _ _ _ from CP1.out).mono ?_
    rintro e W2 ⟨rfl, hb2⟩
    have hbw2 := hbw.trans (hb2.mono hbw.size)
    cases q with
    | false =>
      go_wp2
      go_ret2
      exact ⟨by rw [HV.out, HB.out]; rfl, hbw2⟩
    | true =>
      have CY1 := Lib.hid (CY.out W2 (HB1.out.trans (hb2.mono HB1.out.size)) (by first | rfl | trivial) (by first | rfl | trivial))
      clear hb2 y0 y1
      go_wp2_with fail
      refine (show Calls _ _ _ _ _ from CY1.out).mono ?_
      rintro e W3 ⟨rfl, hb3⟩
      go_wp2
      go_ret2
      exact ⟨by rw [HV.out, HB.out]; rfl, hbw2.trans (hb3.mono hbw2.size)⟩

theorem givenB_like {F G : Fld} {r n : List Int} {s t : Row} (h : G.Like F) (hs : t.l = s.l) : givenB G r n t = givenB F r n s := by unfold givenB; rw [twoB_like h hs, needsB_like h]
theorem flowYield_pair (F : Fld) (r n s u p : Row) (_ : F.Small) (_ : r.l.length ≤ 1048576) (_ : n.l.length ≤ 1048576) (_ : s.l.length ≤ 1048576) (_ : u.l.length ≤ 1048576) (_ : p.l.length ≤ 1048576) : ∃ (v : Int) (b : Bool),
    (∀ (G : Fld) (x1 x2 x3 x4 x5 : Row) (W : World), G.At W → x1.At W → x2.At W → x3.At W → x4.At W → x5.At W → G.Like F → x1.l = r.l → x2.l = n.l → x3.l = s.l → x4.l = u.l → x5.l = p.l → Calls Try.prog 27 #[G.val, .slice x1.a x1.l.length x1.c, .slice x2.a x2.l.length x2.c, .slice x3.a x3.l.length x3.c, .slice x4.a x4.l.length x4.c, .slice x5.a x5.l.length x5.c] W (PInt v b W)) ∧
    (∀ (G : Fld) (x1 x2 x3 x4 x5 : Row) (W : World), G.At W → x1.At W → x2.At W → x3.At W → x4.At W → x5.At W → G.Like F → x1.l = r.l → x2.l = n.l → x3.l = s.l → x4.l = u.l → x5.l = p.l → Calls Try.prog 28 #[G.val, .slice x1.a x1.l.length x1.c, .slice x2.a x2.l.length x2.c, .slice x3.a x3.l.length x3.c, .slice x4.a x4.l.length x4.c, .slice x5.a x5.l.length x5.c] W (PInt v b W)) := by
  refine ⟨_, (givenB F r.l n.l s && flowPricesB F s.l u.l p.l), fun G x1 x2 x3 x4 x5 W hG h1 h2 h3 h4 h5 hl e1 e2 e3 e4 e5 => specYield_any G x1 x2 x3 x4 x5 W hG h1 h2 h3 h4 h5 _ (if (givenB F r.l n.l s && flowPricesB F s.l u.l p.l) = true then yieldV r.l n.l u.l p.l else 0) ?_ ?_, fun G x1 x2 x3 x4 x5 W hG h1 h2 h3 h4 h5 hl e1 e2 e3 e4 e5 => implYield_any G x1 x2 x3 x4 x5 W hG h1 h2 h3 h4 h5 (by rw [e3]; assumption) _ _ ?_ ?_⟩
  all_goals first | (rw [e1, e2, e3, e4, e5, givenB_like hl e3, flowPricesB_like hl]; done) | (rw [e1, e2, e4, e5]; done)
end Go.Proofs.Ytehmjmknegnojaa
