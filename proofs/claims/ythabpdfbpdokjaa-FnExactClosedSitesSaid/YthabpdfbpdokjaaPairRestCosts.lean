/- Both sides of RestCosts answer alike. Condition: Field and prices read as such. -/
import Derived.Test.YthabpdfbpdokjaaPairAreFair
import Derived.Deep.AppendLies
namespace Go.Proofs.Ythabpdfbpdokjaa
open Go.RowKit

/-- What RestCosts answers. -/
def RestAre (F : Fld) (p : List Int) (l : List Int) (b : Bool) : Prop :=
  (fairB F p = false ∧ l = [] ∧ b = false) ∨ (fairB F p = true ∧ l = restsTo F p F.o.l.length ∧ b = true)
theorem restsare_like {F G : Fld} {p l : List Int} {b : Bool} (h : RestAre F p l b) (hl : G.Like F) : RestAre G p l b := by
  rcases h with ⟨h1, h2, h3⟩ | ⟨h1, h2, h3⟩
  · exact .inl ⟨by rw [fair_like hl, h1], h2, h3⟩
  · exact .inr ⟨by rw [fair_like hl, h1], by rw [h2, ← rests_like hl, hl.1], h3⟩
theorem restsare_some (F : Fld) (p : List Int) : ∃ (l : List Int) (b : Bool), RestAre F p l b ∧ l.length ≤ 1048576 := by
  by_cases h : fairB F p = true
  · exact ⟨_, _, .inr ⟨h, rfl, rfl⟩, by have := good_sizes (fair_iff.1 h).1.good; rw [rests_length]; omega⟩
  · exact ⟨_, _, .inl ⟨by simpa using h, rfl, rfl⟩, by simp⟩

set_option maxHeartbeats 1000000 in
theorem implRest_any (F : Fld) (p : Row) (w : World) (hF : F.At w) (hp : p.At w) (l : List Int) (b : Bool) (hv : RestAre F p.l l b) :
    Calls Try.prog 49 #[F.val, .slice p.a p.l.length p.c] w (PInts l b w) := by
  obtain ⟨wA, hA, hbA, bx, hFA, hszA⟩ := laid_fld F w 29 hF
  have HPA := Lib.hid (hp.on hbA)
  have HFA := Lib.hid hFA
  have HBX := Lib.hid bx
  have HA := Lib.hid hA
  have CT := Lib.hid (implFair_any F p wA hFA HPA.out _ _ ⟨rfl, rfl⟩)
  clear hF hp hA hFA bx
  show Calls _ _ #[.agg #[F.o.val, F.t.val], _] w _
  go_enter Try.func49, Try.ntmps49
  go_wp2_with fail
  rw [show w.alloc (Obj.cells #[F.o.val, F.t.val] 29) = wA from HA.out.symm]
  refine (show Calls _ _ _ _ _ from CT.out).mono ?_
  rintro e W1 ⟨rfl, hb1⟩
  have hbw := hbA.trans (hb1.mono hbA.size)
  rcases hv with ⟨hv, rfl, rfl⟩ | ⟨hq, rfl, rfl⟩
  · have HO1 := Lib.hid (empty_own W1)
    have hb0 := below_alloc W1 (.cells #[] 3)
    have hsz1 := hbw.size
    rw [hv]
    clear hv
    go_wp2
    go_ret2
    exact ints_end rfl HO1.out hsz1 (hbw.trans (hb0.mono hbw.size))
  · have hpr := (fair_iff.1 hq).1
    rw [hq]
    have y0 := (HBX.out.on hb1).c0
    have y1 := (HBX.out.on hb1).c1
    have CB := Lib.hid (restsFor_any F p W1 (HFA.out.on hb1) (HPA.out.on hb1) hpr.good (due_more hpr.due) hpr.len)
    clear hq hpr
    go_wp2_with fail
    refine (show Calls _ _ _ _ _ from CB.out).mono ?_
    rintro e W2 ⟨t, rfl, htl, hto, hti, hb2⟩
    have hbw2 := hbw.trans (hb2.mono hbw.size)
    have hsz1 := hbw.size
    have HTL := Lib.hid htl
    clear htl
    go_wp2
    go_ret2
    exact ⟨t, rfl, HTL.out, hto, hti.wide hsz1 (Nat.le_refl _), hbw2⟩

set_option maxRecDepth 16000 in
set_option maxHeartbeats 2000000 in
theorem specRest_any (F : Fld) (p : Row) (w : World) (hF : F.At w) (hp : p.At w) (l : List Int) (b : Bool) (hv : RestAre F p.l l b) :
    Calls Try.prog 46 #[F.val, .slice p.a p.l.length p.c] w (PInts l b w) := by
  obtain ⟨i0, hi, hz0, hz1, hz2⟩ := info_parts infoInt
  obtain ⟨wA, hA, hbA, bx, hFA, hszA⟩ := laid_fld F w 29 hF
  have HPA := Lib.hid (hp.on hbA)
  have HFA := Lib.hid hFA
  have HBX := Lib.hid bx
  have hown0 := empty_own wA
  have hb0 := below_alloc wA (.cells #[] 3)
  obtain ⟨w0, hw0⟩ : ∃ u, u = wA.alloc (.cells #[] 3) := ⟨_, rfl⟩
  rw [← hw0] at hown0 hb0
  have HW0 : Hid (w0 = (w.alloc (Obj.cells #[F.o.val, F.t.val] 29)).alloc (.cells #[] 3)) := Lib.hid (by rw [hw0, hA])
  have H0 := Lib.hid hown0
  have CT := Lib.hid (l3Fair_any F p w0 (HFA.out.on hb0) (HPA.out.on hb0))
  have hszw : Hid (wA.heap.size = w.heap.size + 1) := Lib.hid hszA
  have y00 := (HBX.out.on hb0).c0
  have y01 := (HBX.out.on hb0).c1
  have Y0 := Lib.hid (show ((w.alloc (Obj.cells #[F.o.val, F.t.val] 29)).alloc (.cells #[] 3)).cell? ⟨w.heap.size, 0, none⟩ = some F.o.val by rw [← HW0.out]; exact y00)
  have Y1 := Lib.hid (show ((w.alloc (Obj.cells #[F.o.val, F.t.val] 29)).alloc (.cells #[] 3)).cell? ⟨w.heap.size, 1, none⟩ = some F.t.val by rw [← HW0.out]; exact y01)
  have z0 := Y0.out
  have z1 := Y1.out
  clear hF hp hA hFA bx hw0 hown0 hszA y00 y01
  show Calls _ _ #[.agg #[F.o.val, F.t.val], _] w _
  go_enter Try.func46, Try.ntmps46
  go_wp2_with fail
  rw [← HW0.out]
  refine (show Calls _ _ _ _ _ from CT.out).mono ?_
  rintro e W1 ⟨rfl, hb1⟩
  have hb01 := hb0.trans (hb1.mono hb0.size)
  have HO1 := Lib.hid (owns_below H0.out hb1)
  clear z0 z1
  rcases hv with ⟨hv, rfl, rfl⟩ | ⟨hq, rfl, rfl⟩
  · rw [hv]
    clear hv
    go_wp2
    go_ret2
    exact ints_end rfl (by have := HO1.out; rw [hszw.out] at this; exact this) (by omega) (hbA.trans (hb01.mono hbA.size))
  rw [hq]
  have hpr := (fair_iff.1 hq).1
  have hsz := good_sizes hpr.good
  have hni : (F.o.l.length : Int) ≤ 7 := by omega
  have HPR := Lib.hid hpr
  have HCB := Lib.hid fun a => clm_bound (u := 1) hpr.good (by omega) hpr.due (by omega) a p.l.length (by rw [hpr.len]; exact Nat.le_refl _)
  have HOB := Lib.hid fun a => getD_bound (good_open hpr.good) a
  have hpl : (p.l.length : Int) ≤ 7 := by rw [hpr.len]; omega
  clear hq hsz hpr
  go_wp2
  go_loopw [6, 7] (fun out i wr => ∃ k : Nat, k ≤ F.o.l.length ∧ i = .int .i64 k ∧ wr.ownsRow wA.heap.size 3 1 out k (iv (restsTo F p.l k)) ∧ Below wA.heap.size wA wr) (fun _ i _ => F.o.l.length - (intOf i).toNat)
  case atStart => exact ⟨0, Nat.zero_le _, rfl, by have := HO1.out; rw [hszw.out] at this ⊢; exact this, hb01⟩
  case round =>
    obtain ⟨k, hk, rfl, hown0, hnx⟩ := hrel
    obtain ⟨_, _, g3⟩ := HFA.out.1
    rcases g3 with g3 | ⟨b', o', hoa, hob, hoc⟩
    · have g3' := congrArg List.length (iv_nil g3); rw [List.length_nil] at g3'
      have := good_sizes HPR.out.good; omega
    have y0 : wr.cell? ⟨w.heap.size, 0, none⟩ = some (.slice (some ⟨b', o', none⟩) F.o.l.length F.o.c) := by rw [← hoa]; exact (HBX.out.on hnx).c0
    by_cases hlt : k < F.o.l.length
    · have hlti : (k : Int) < (F.o.l.length : Int) := by omega
      obtain ⟨x, hx⟩ : ∃ x, x = F.o.l.getD k 0 := ⟨_, rfl⟩
      have HCX := Lib.hid (fun u (hu : Below wA.heap.size wA u) => (hu.cell (p := ⟨b', o' + k, none⟩) hob).trans (by rw [hx, getD_at hlt]; exact hoc k _ (iv_at hlt)) : ∀ u, Below wA.heap.size wA u → u.cell? ⟨b', o' + k, none⟩ = some (.int .i64 x))
      obtain ⟨v, hv⟩ : ∃ v, v = clmTo F 1 p.l k p.l.length := ⟨_, rfl⟩
      have CC := Lib.hid (fun u (hu : Below wA.heap.size wA u) => by have := l3Claim_any F p k 1 u (HFA.out.on hu) (HPA.out.on hu) HPR.out.good (due_more HPR.out.due) HPR.out.len hlt (by omega) (by omega); rw [← hv] at this; rw [← hoa]; exact this : ∀ u, Below wA.heap.size wA u → Calls Try.prog 81 #[.agg #[.slice (some ⟨b', o', none⟩) F.o.l.length F.o.c, F.t.val], .slice p.a p.l.length p.c, .int .i64 k, .int .i64 1] u fun e w' => e = .returned (.int .i64 v) ∧ Below u.heap.size u w')
      have HL : Hid (restsTo F p.l (k + 1) = restsTo F p.l k ++ [x - v]) := Lib.hid (by rw [rests_step, hx, hv]; rfl)
      have hkl : (restsTo F p.l k).length = k := rests_length _ _ _
      have hxb := HOB.out k
      have hvb := HCB.out k
      rw [← hx] at hxb
      rw [← hv] at hvb
      have w2 : IntKind.i64.wrap (x - v) = x - v := IntWalk.i64_in _ (by omega)
      have hd0 : Below wr.heap.size wr wr.drew := (Below.refl _ _).drew
      have HO := Lib.hid (owns_below hown0 hd0)
      have hN : Below wA.heap.size wA wr.drew := hnx.drew
      have hszr : wA.heap.size ≤ wr.drew.heap.size := hnx.size
      have HS : Hid (∀ u, Below wA.heap.size wA u → ((u.cell? ⟨w.heap.size, 0, none⟩ = some (.slice (some ⟨b', o', none⟩) F.o.l.length F.o.c) ∧ u.cell? ⟨w.heap.size, 1, none⟩ = some F.t.val ∧ u.cell? ⟨b', o' + k, none⟩ = some (.int .i64 x)) ∧ Below wA.heap.size wA u)) := Lib.hid fun u hu => ⟨⟨by rw [← hoa]; exact (HBX.out.on hu).c0, (HBX.out.on hu).c1, HCX.out u hu⟩, hu⟩
      have s0 := HS.out _ hN
      have e1 : -9223372036854775808 ≤ x - v := by omega
      have e2 : x - v ≤ 9223372036854775807 := by omega
      clear hv hx hkl hd0 hown0 hnx hoa hoc hxb hvb
      go_wp2_with fail
      go_region_held3 (fun u => ((u.cell? ⟨w.heap.size, 0, none⟩ = some (.slice (some ⟨b', o', none⟩) F.o.l.length F.o.c) ∧ u.cell? ⟨w.heap.size, 1, none⟩ = some F.t.val ∧ u.cell? ⟨b', o' + k, none⟩ = some (.int .i64 x)) ∧ Below wA.heap.size wA u)) (first | exact s0 | exact HS.out _ (by assumption)) (first | (go_at_call 81; refine (show Calls _ _ _ _ _ from CC.out _ hN).mono ?_; rintro e u1 ⟨rfl, hb2⟩; have hown := owns_below HO.out hb2; have hsz2 := hb2.size; have hB1 : Below wA.heap.size wA u1 := hN.trans (hb2.mono hszr); have hB2 : Below wA.heap.size wA (u1.alloc (.cells #[.int .i64 (x - v)] 3)) := hB1.alloc (by omega) _; clear hb2) | (refine step_append_lies _ rfl (.tmp 21) (.tmp 32) 22 rfl wA.heap.size 3 i0 (.int .i64 0) 1 8 Try.underlying22 hi hz0 hz1 hz2 rfl (by decide) _ _ _ rfl (hown.alloc _) ⟨u1.heap.size, 0, none⟩ 1 1 [.int .i64 (x - v)] rfl rfl (one_cell _ _ _) (by simp [Value.oneCell']) (by omega) (by unfold maxLen; omega) (by omega) (by simp; omega) _ rfl ?_; intro g cap w1 hown' hgrow hat hlt1; have hB3 : Below wA.heap.size wA w1 := hB2.grown hgrow (by simp; omega) (fun j hj => (hown.lt j hj).1)))
      have R1 : w1.ownsRow wA.heap.size 3 1 (.slice (some ⟨g, 0, none⟩) (k + 1) cap) (k + 1) (iv (restsTo F p.l (k + 1))) := by rw [HL.out]; simpa [iv] using hown'
      clear hown' hgrow hown hat s0 hB1 hB2 hsz2
      go_wp2
      go_roundw
      case rel => exact ⟨k + 1, by omega, by go_num, R1, hB3⟩
      case measure => simp [intOf]; omega
    · obtain rfl : k = F.o.l.length := by omega
      clear hoa hoc
      go_wp2
      go_ret2
      exact ints_end (rests_length F p.l F.o.l.length).symm hown0 hbA.size (hbA.trans (hnx.mono hbA.size))

theorem restCosts_pair (F : Fld) (p : Row) (_ : F.Small) (_ : p.l.length ≤ 1048576) : ∃ (l : List Int) (b : Bool) (_ : l.length ≤ 1048576),
    (∀ (G : Fld) (q : Row) (W : World), G.At W → q.At W → G.Like F → q.l = p.l → Calls Try.prog 46 #[G.val, .slice q.a q.l.length q.c] W (PInts l b W)) ∧
    (∀ (G : Fld) (q : Row) (W : World), G.At W → q.At W → G.Like F → q.l = p.l → Calls Try.prog 49 #[G.val, .slice q.a q.l.length q.c] W (PInts l b W)) := by
  obtain ⟨l, b, h, hl⟩ := restsare_some F p.l
  exact ⟨l, b, hl, fun G q W hG hq hl hs => specRest_any G q W hG hq l b (by rw [hs]; exact restsare_like h hl), fun G q W hG hq hl hs => implRest_any G q W hG hq l b (by rw [hs]; exact restsare_like h hl)⟩
end Go.Proofs.Ythabpdfbpdokjaa
