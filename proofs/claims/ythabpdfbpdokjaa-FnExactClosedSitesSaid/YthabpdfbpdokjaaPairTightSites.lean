/- Both sides of TightSites answer alike. Condition: Field and prices read as such. -/
import Derived.Test.YthabpdfbpdokjaaFair
import Derived.Maps.AppendAt
namespace Go.Proofs.Ythabpdfbpdokjaa
open Go.RowKit

theorem grown_cell {u w1 : World} {v : Value} (hg : u.grownBy w1 v.ownBlock) {b j : Nat} {x : Value} (hb : b < u.heap.size) (hne : v.ownBlock ≠ some b) (hc : u.cell? ⟨b, j, none⟩ = some x) : w1.cell? ⟨b, j, none⟩ = some x :=
  (World.cell?_of_block (w := u) (a := ⟨b, j, none⟩) (hg.block b hb (fun e => hne e.symm))).trans hc

/-- What TightSites answers. -/
def TightAre (F : Fld) (p : List Int) (l : List Int) (b : Bool) : Prop :=
  (pricesB F p = false ∧ l = [] ∧ b = false) ∨ (Priced F p ∧ l = places (fun x => decide (x = 0)) (restsTo F p F.o.l.length) F.o.l.length ∧ b = true)
theorem tight_like {F G : Fld} {p l : List Int} {b : Bool} (h : TightAre F p l b) (hl : G.Like F) : TightAre G p l b := by
  rcases h with ⟨h1, h2, h3⟩ | ⟨h1, h2, h3⟩
  · exact .inl ⟨by rw [prices_like hl, h1], h2, h3⟩
  · exact .inr ⟨priced_like h1 hl, by rw [h2, ← rests_like hl, hl.1], h3⟩
theorem tight_some (F : Fld) (p : List Int) : ∃ (l : List Int) (b : Bool), TightAre F p l b ∧ l.length ≤ 1048576 := by
  by_cases h : Priced F p
  · exact ⟨_, _, .inr ⟨h, rfl, rfl⟩, by have := good_sizes h.good; have := places_len (fun x => decide (x = 0)) (restsTo F p F.o.l.length) F.o.l.length; omega⟩
  · exact ⟨_, _, .inl ⟨by rw [Bool.eq_false_iff]; exact fun e => h (priced_iff.1 e), rfl, rfl⟩, by simp⟩

set_option maxHeartbeats 1000000 in
theorem implTight_any (F : Fld) (p : Row) (w : World) (hF : F.At w) (hp : p.At w) (l : List Int) (b : Bool) (hv : TightAre F p.l l b) :
    Calls Try.prog 15 #[F.val, .slice p.a p.l.length p.c] w (PInts l b w) := by
  obtain ⟨wA, hA, hbA, bx, hFA, hszA⟩ := laid_fld F w 29 hF
  have HPA := Lib.hid (hp.on hbA)
  have HFA := Lib.hid hFA
  have HBX := Lib.hid bx
  have HA := Lib.hid hA
  have CT := Lib.hid (arePricesOf_any F p wA hFA HPA.out)
  clear hF hp hA hFA bx
  show Calls _ _ #[.agg #[F.o.val, F.t.val], _] w _
  go_enter Try.func15, Try.ntmps15
  go_wp2_with fail
  rw [show w.alloc (Obj.cells #[F.o.val, F.t.val] 29) = wA from HA.out.symm]
  refine (show Calls _ _ _ _ _ from CT.out).mono ?_
  rintro e W1 ⟨rfl, hb1⟩
  have hbw := hbA.trans (hb1.mono hbA.size)
  rcases hv with ⟨hv, rfl, rfl⟩ | ⟨hq, rfl, rfl⟩
  · have HO1 := Lib.hid (empty_own W1)
    have hb0 := below_alloc W1 (.cells #[] 3)
    have hsz1 := hbw.size
    rw [hv]
    clear hv
    go_wp2
    go_ret2
    exact ints_end rfl HO1.out hsz1 (hbw.trans (hb0.mono hbw.size))
  · rw [priced_iff.2 hq]
    have y0 := (HBX.out.on hb1).c0
    have y1 := (HBX.out.on hb1).c1
    have CB := Lib.hid (restsFor_any F p W1 (HFA.out.on hb1) (HPA.out.on hb1) hq.good (due_more hq.due) hq.len)
    have hsz := good_sizes hq.good
    have hni : F.o.l.length ≤ 7 := hsz.2.1
    clear hq hsz
    go_wp2_with fail
    refine (show Calls _ _ _ _ _ from CB.out).mono ?_
    rintro e W2 ⟨t, rfl, htl, -, hti, hb2⟩
    have hbw2 := hbw.trans (hb2.mono hbw.size)
    have htn : t.l.length = F.o.l.length := by rw [htl, rests_length]
    have CP := Lib.hid (placesWhere_tight t (fun x => decide (x = 0)) W2 hti.at (by omega) (fun x _ u _ => tight1_any x u))
    have HPL : Hid (places (fun x => decide (x = 0)) t.l t.l.length = places (fun x => decide (x = 0)) (restsTo F p.l F.o.l.length) F.o.l.length) := Lib.hid (by rw [htn, htl])
    clear htl htn hti y0 y1
    go_wp2_with fail
    refine (show Calls _ _ _ _ _ from CP.out).mono ?_
    rintro e W3 ⟨q, rfl, hql, hqo, hqi, hb3⟩
    have hbw3 := hbw2.trans (hb3.mono hbw2.size)
    have hsz2 := hbw2.size
    have HQL := Lib.hid hql
    clear hql
    go_wp2
    go_ret2
    exact ⟨q, rfl, HQL.out.trans HPL.out, hqo, hqi.wide hsz2 (Nat.le_refl _), hbw3⟩

set_option maxRecDepth 8000 in
set_option maxHeartbeats 2000000 in
theorem specTight_any (F : Fld) (p : Row) (w : World) (hF : F.At w) (hp : p.At w) (l : List Int) (b : Bool) (hv : TightAre F p.l l b) :
    Calls Try.prog 12 #[F.val, .slice p.a p.l.length p.c] w (PInts l b w) := by
  obtain ⟨i0, hi, hz0, hz1, hz2⟩ := info_parts infoInt
  obtain ⟨wA, hA, hbA, bx, hFA, hszA⟩ := laid_fld F w 29 hF
  have HPA := Lib.hid (hp.on hbA)
  have HFA := Lib.hid hFA
  have HBX := Lib.hid bx
  have hown0 := empty_own wA
  have hb0 := below_alloc wA (.cells #[] 3)
  obtain ⟨w0, hw0⟩ : ∃ u, u = wA.alloc (.cells #[] 3) := ⟨_, rfl⟩
  rw [← hw0] at hown0 hb0
  have HW0 : Hid (w0 = (w.alloc (Obj.cells #[F.o.val, F.t.val] 29)).alloc (.cells #[] 3)) := Lib.hid (by rw [hw0, hA])
  have H0 := Lib.hid hown0
  have CT := Lib.hid (l3Prices_any F p w0 (HFA.out.on hb0) (HPA.out.on hb0))
  have hszw : Hid (wA.heap.size = w.heap.size + 1) := Lib.hid hszA
  have HSZ0 : Hid (w0.heap.size = wA.heap.size + 1) := Lib.hid (by rw [hw0]; exact size_alloc _ _)
  have y00 := (HBX.out.on hb0).c0
  have y01 := (HBX.out.on hb0).c1
  have Y0 := Lib.hid (show ((w.alloc (Obj.cells #[F.o.val, F.t.val] 29)).alloc (.cells #[] 3)).cell? ⟨w.heap.size, 0, none⟩ = some F.o.val by rw [← HW0.out]; exact y00)
  have Y1 := Lib.hid (show ((w.alloc (Obj.cells #[F.o.val, F.t.val] 29)).alloc (.cells #[] 3)).cell? ⟨w.heap.size, 1, none⟩ = some F.t.val by rw [← HW0.out]; exact y01)
  have z0 := Y0.out
  have z1 := Y1.out
  clear hF hp hA hFA bx hw0 hown0 hszA y00 y01
  show Calls _ _ #[.agg #[F.o.val, F.t.val], _] w _
  go_enter Try.func12, Try.ntmps12
  go_wp2_with fail
  rw [← HW0.out]
  refine (show Calls _ _ _ _ _ from CT.out).mono ?_
  rintro e W1 ⟨rfl, hb1⟩
  have hb01 := hb0.trans (hb1.mono hb0.size)
  have HO1 := Lib.hid (owns_below H0.out hb1)
  clear z0 z1
  rcases hv with ⟨hv, rfl, rfl⟩ | ⟨hq, rfl, rfl⟩
  · rw [hv]
    clear hv
    go_wp2
    go_ret2
    exact ints_end rfl (by have := HO1.out; rw [hszw.out] at this; exact this) (by omega) (hbA.trans (hb01.mono hbA.size))
  rw [priced_iff.2 hq]
  have y0 := (HBX.out.on hb01).c0
  have y1 := (HBX.out.on hb01).c1
  have CB := Lib.hid (l3Claims_any F p W1 (HFA.out.on hb01) (HPA.out.on hb01) hq)
  have hsz := good_sizes hq.good
  have hni : (F.o.l.length : Int) ≤ 7 := by omega
  have HSB : Hid (wA.heap.size < W1.heap.size) := Lib.hid (by have := HSZ0.out; have := hb1.size; omega)
  clear hq
  go_wp2_with fail
  refine (show Calls _ _ _ _ _ from CB.out).mono ?_
  rintro e W2 ⟨t, rfl, htl, -, hti, hb2⟩
  have hb02 := hb01.trans (hb2.mono hb01.size)
  have HO2 := Lib.hid (owns_below HO1.out hb2)
  have HB02 := Lib.hid hb02
  obtain ⟨ta, tc, tl⟩ := t
  simp only at htl
  subst htl
  rw [show (clmsTo F 1 p.l F.o.l.length).length = F.o.l.length from clms_length _ _ _ _]
  obtain ⟨t1, t2, t3⟩ := hti
  obtain ⟨b, o, rfl, hlb, _, hbb, hcell⟩ := t3.resolve_left (fun h => by have := congrArg List.length (iv_nil h); simp only [clms_length, List.length_nil] at this; omega)
  have HCE := Lib.hid (fun j (hj : j < F.o.l.length) => (hcell j _ (iv_at (by rw [clms_length]; exact hj))).trans (by rw [clms_at F 1 p.l hj]) : ∀ j, j < F.o.l.length → W2.cell? ⟨b, o + j, none⟩ = some (.int .i64 (clmTo F 1 p.l j p.l.length)))
  have HBB := Lib.hid hbb
  have HNE : Hid ((Value.slice (some ⟨w.heap.size + 1, 0, none⟩) 0 0).ownBlock ≠ some b) := Lib.hid (fun e => by
    have e' : w.heap.size + 1 = b := by simpa [Value.ownBlock] using e
    have := HSB.out; have := hszw.out; omega)
  obtain ⟨P, hP⟩ : ∃ P : Int → Bool, P = fun x => decide (x = 0) := ⟨_, rfl⟩
  have HPD : Hid (∀ x, P x = decide (x = 0)) := Lib.hid fun x => by rw [hP]
  obtain ⟨R, hR⟩ : ∃ R, R = restsTo F p.l F.o.l.length := ⟨_, rfl⟩
  have HLE : Hid (places (fun x => decide (x = 0)) (restsTo F p.l F.o.l.length) F.o.l.length = places P R F.o.l.length) := Lib.hid (by rw [hP, hR])
  have HRD : Hid (∀ k, k < F.o.l.length → R.getD k 0 = F.o.l.getD k 0 - clmTo F 1 p.l k p.l.length) := Lib.hid fun k hk => by rw [hR, rests_getD F p.l hk]; rfl
  clear t1 t2 t3 hcell hb2 y0 y1 hb02 hlb hbb hP hR hsz
  go_wp2
  go_loopw [6, 8] (fun out i wr => ∃ k : Nat, k ≤ F.o.l.length ∧ i = .int .i64 k ∧ wr.ownsRow wA.heap.size 3 1 out (places P R k).length (iv (places P R k)) ∧ Below wA.heap.size wA wr ∧ out.ownBlock ≠ some b ∧ b < wr.heap.size ∧ ∀ j, j < F.o.l.length → wr.cell? ⟨b, o + j, none⟩ = some (.int .i64 (clmTo F 1 p.l j p.l.length))) (fun _ i _ => F.o.l.length - (intOf i).toNat)
  case atStart => exact ⟨0, Nat.zero_le _, rfl, by have := HO2.out; rw [hszw.out] at this ⊢; exact this, HB02.out, HNE.out, HBB.out, HCE.out⟩
  case round =>
    obtain ⟨k, hk, rfl, hown0, hnx, hne, hbw, hce⟩ := hrel
    by_cases hlt : k < F.o.l.length
    · have hlti : (k : Int) < (F.o.l.length : Int) := by omega
      obtain ⟨_, _, g3⟩ := HFA.out.1
      rcases g3 with g3 | ⟨b', o', hoa, hob, hoc⟩
      · have g3' := congrArg List.length (iv_nil g3); rw [List.length_nil] at g3'; omega
      have y0 : wr.cell? ⟨w.heap.size, 0, none⟩ = some (.slice (some ⟨b', o', none⟩) F.o.l.length F.o.c) := by rw [← hoa]; exact (HBX.out.on hnx).c0
      obtain ⟨x, hx⟩ : ∃ x, x = F.o.l.getD k 0 := ⟨_, rfl⟩
      obtain ⟨y, hy⟩ : ∃ y, y = clmTo F 1 p.l k p.l.length := ⟨_, rfl⟩
      have hcx : wr.cell? ⟨b', o' + k, none⟩ = some (.int .i64 x) := (hnx.cell (p := ⟨b', o' + k, none⟩) hob).trans (by rw [hx, getD_at hlt]; exact hoc k _ (iv_at hlt))
      have hcy : wr.cell? ⟨b, o + k, none⟩ = some (.int .i64 y) := by rw [hy]; exact hce k hlt
      have HXY : Hid (R.getD k 0 = x - y) := Lib.hid (by rw [HRD.out k hlt, hx, hy])
      have HCR := Lib.hid hce
      have hpl := places_len P R k
      have hszr := hnx.size
      clear hx hy hoa hoc hce
      by_cases hxy : y = x
      · have HE : Hid (places P R (k + 1) = places P R k ++ [(k : Int)]) := Lib.hid (places_yes (by rw [HXY.out, HPD.out]; simp; omega))
        have heq : (y == x) = true := by simp [hxy]
        have HO := Lib.hid hown0
        have HN := Lib.hid hnx
        have HNE2 := Lib.hid hne
        clear hxy hown0 hnx hne
        go_wp2
        go_quiet (fail)
        obtain ⟨u, hu⟩ : ∃ u, u = wr.drewN nq := ⟨_, rfl⟩
        have hbd := below_draws wr nq
        rw [← hu] at hbd ⊢
        have hown := owns_below HO.out hbd
        have hnu := HN.out.trans (hbd.mono hszr)
        have hszu := hbd.size
        have HCU := Lib.hid (fun j hj => (hbd.cell (p := ⟨b, o + j, none⟩) hbw).trans (HCR.out j hj) : ∀ j, j < F.o.l.length → u.cell? ⟨b, o + j, none⟩ = some (.int .i64 (clmTo F 1 p.l j p.l.length)))
        clear hu hbd hcx hcy y0
        go_wp2_with (at_builtin; refine wpList_append_own_at _ rfl _ _ 22 rfl wA.heap.size 3 i0 (.int .i64 0) 1 8 Try.underlying22 hi hz0 hz1 hz2 rfl (by decide) _ _ _ rfl (hown.alloc _) ⟨u.heap.size, 0, none⟩ 1 1 [.int .i64 (k : Int)] rfl rfl (one_cell _ _ _) (by simp [Value.oneCell']) (by unfold maxLen; omega) (by omega) (by simp; omega) ?_; intro v' w1 hown' hgrow _ hat)
        have R1 : w1.ownsRow wA.heap.size 3 1 v' (places P R (k + 1)).length (iv (places P R (k + 1))) := by rw [HE.out]; exact own_snoc rfl hown'
        have R2 : Below wA.heap.size wA w1 := (hnu.alloc (by omega) _).grown hgrow (by simp; omega) (fun j hj => (hown.lt j hj).1)
        have hub : b < (u.alloc (.cells #[.int .i64 (k : Int)] 3)).heap.size := by rw [size_alloc]; omega
        have R3 : v'.ownBlock ≠ some b := by
          rcases hat with h | h
          · rw [h]; exact HNE2.out
          · rw [h]; intro e; simp only [Option.some.injEq] at e; omega
        have R4 : b < w1.heap.size := Nat.lt_of_lt_of_le hub hgrow.size
        have R5 := Lib.hid (fun j hj => grown_cell hgrow hub HNE2.out (((below_alloc u _).cell (p := ⟨b, o + j, none⟩) (by show b < _; omega)).trans (HCU.out j hj)) : ∀ j, j < F.o.l.length → w1.cell? ⟨b, o + j, none⟩ = some (.int .i64 (clmTo F 1 p.l j p.l.length)))
        clear hown' hgrow hown hat hub
        go_wp2
        go_roundw
        case rel => exact ⟨k + 1, by omega, by go_num, R1, R2, R3, R4, R5.out⟩
        case measure => simp [intOf]; omega
      · have HE : Hid (places P R (k + 1) = places P R k) := Lib.hid (places_no (by rw [HXY.out, HPD.out]; simp; omega))
        have heq : (y == x) = false := by simp [hxy]
        have HO := Lib.hid hown0
        have HN := Lib.hid hnx
        have HNE2 := Lib.hid hne
        clear hxy hown0 hnx hne
        go_wp2
        go_quiet (fail)
        have hbd := below_draws wr nq
        have R1 := Lib.hid (owns_below HO.out hbd)
        have R2 := HN.out.trans (hbd.mono hszr)
        have R4 : b < (wr.drewN nq).heap.size := Nat.lt_of_lt_of_le hbw hbd.size
        have R5 := Lib.hid (fun j hj => (hbd.cell (p := ⟨b, o + j, none⟩) hbw).trans (HCR.out j hj) : ∀ j, j < F.o.l.length → (wr.drewN nq).cell? ⟨b, o + j, none⟩ = some (.int .i64 (clmTo F 1 p.l j p.l.length)))
        clear hcx hcy y0
        go_wp2
        go_roundw
        case rel => exact ⟨k + 1, by omega, by go_num, by rw [HE.out]; exact R1.out, R2, HNE2.out, R4, R5.out⟩
        case measure => simp [intOf]; omega
    · obtain rfl : k = F.o.l.length := by omega
      go_wp2
      go_ret2
      rw [HLE.out]
      exact ints_end rfl hown0 hbA.size (hbA.trans (hnx.mono hbA.size))

theorem tightSites_pair (F : Fld) (p : Row) (_ : F.Small) (_ : p.l.length ≤ 1048576) : ∃ (l : List Int) (b : Bool) (_ : l.length ≤ 1048576),
    (∀ (G : Fld) (q : Row) (W : World), G.At W → q.At W → G.Like F → q.l = p.l → Calls Try.prog 12 #[G.val, .slice q.a q.l.length q.c] W (PInts l b W)) ∧
    (∀ (G : Fld) (q : Row) (W : World), G.At W → q.At W → G.Like F → q.l = p.l → Calls Try.prog 15 #[G.val, .slice q.a q.l.length q.c] W (PInts l b W)) := by
  obtain ⟨l, b, h, hl⟩ := tight_some F p.l
  exact ⟨l, b, hl, fun G q W hG hq hl hs => specTight_any G q W hG hq l b (by rw [hs]; exact tight_like h hl), fun G q W hG hq hl hs => implTight_any G q W hG hq l b (by rw [hs]; exact tight_like h hl)⟩
end Go.Proofs.Ythabpdfbpdokjaa
