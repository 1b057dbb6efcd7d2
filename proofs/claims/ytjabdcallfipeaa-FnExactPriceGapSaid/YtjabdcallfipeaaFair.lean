/- The contract of the model's test whether prices are fair, and the picking functions'. Condition: Field and prices read as such. -/
import Derived.Test.YtjabdcallfipeaaPlaces
namespace Go.Proofs.Ytjabdcallfipeaa
open Go.RowKit

theorem due_more {p : List Int} (h : Dues 500 p) : Dues 2097152 p := fun x hx => by have := h x hx; omega

set_option maxRecDepth 8000 in
set_option maxHeartbeats 2000000 in
theorem l3Fair_any (F : Fld) (p : Row) (w : World) (hF : F.At w) (hp : p.At w) :
    Calls Try.prog 58 #[F.val, .slice p.a p.l.length p.c] w fun e w' => e = .returned (.bool (fairB F p.l)) ∧ Below w.heap.size w w' := by
  obtain ⟨wA, hA, hbA, bx, hFA, hszA⟩ := laid_fld F w 29 hF
  have HPA := Lib.hid (hp.on hbA)
  have HFA := Lib.hid hFA
  have HBX := Lib.hid bx
  have HA := Lib.hid hA
  have CT := Lib.hid (l3Prices_any F p wA hFA HPA.out)
  clear hF hp hA hFA bx
  show Calls _ _ #[.agg #[F.o.val, F.t.val], _] w _
  go_enter Try.func58, Try.ntmps58
  go_wp2_with fail
  rw [show w.alloc (Obj.cells #[F.o.val, F.t.val] 29) = wA from HA.out.symm]
  refine (show Calls _ _ _ _ _ from CT.out).mono ?_
  rintro e W1 ⟨rfl, hb1⟩
  have hbw := hbA.trans (hb1.mono hbA.size)
  by_cases hv : pricesB F p.l = true
  · have hq := priced_iff.1 hv
    rw [hv]
    have y0 := (HBX.out.on hb1).c0
    have y1 := (HBX.out.on hb1).c1
    have CB := Lib.hid (l3Claims_any F p W1 (HFA.out.on hb1) (HPA.out.on hb1) hq)
    have HQ := Lib.hid hq
    have hsz := good_sizes hq.good
    have hni : (F.o.l.length : Int) ≤ 7 := by omega
    clear hq hv
    go_wp2_with fail
    refine (show Calls _ _ _ _ _ from CB.out).mono ?_
    rintro e W2 ⟨t, rfl, htl, hto, hti, hb2⟩
    have HB12 := Lib.hid (hb1.trans (hb2.mono hb1.size))
    have HBW2 := Lib.hid (hbw.trans (hb2.mono hbw.size))
    obtain ⟨ta, tc, tl⟩ := t
    simp only at htl
    subst htl
    rw [show (clmsTo F 1 p.l F.o.l.length).length = F.o.l.length from clms_length _ _ _ _]
    obtain ⟨t1, t2, t3⟩ := hti
    obtain ⟨b, o, rfl, _, _, hbb, hcell⟩ := t3.resolve_left (fun h => by have := congrArg List.length (iv_nil h); simp only [clms_length, List.length_nil] at this; omega)
    have HCE := Lib.hid (fun j (hj : j < F.o.l.length) => (hcell j _ (iv_at (by rw [clms_length]; exact hj))).trans (by rw [clms_at F 1 p.l hj]) : ∀ j, j < F.o.l.length → W2.cell? ⟨b, o + j, none⟩ = some (.int .i64 (clmTo F 1 p.l j p.l.length)))
    clear hto t1 t2 t3 hcell hb2 y0 y1
    go_wp2
    go_loopw [6] (fun i wr => ∃ k : Nat, k ≤ F.o.l.length ∧ i = .int .i64 k ∧ DrewTo W2 wr ∧ ∀ a, a < k → 0 ≤ restAt F p.l a) (fun i _ => F.o.l.length - (intOf i).toNat)
    case atStart => exact ⟨0, Nat.zero_le _, rfl, DrewTo.refl _, fun a h => by omega⟩
    case round =>
      obtain ⟨k, hk, rfl, hdw, hall⟩ := hrel
      have HALL := Lib.hid hall
      clear hall
      by_cases hlt : k < F.o.l.length
      · have hlti : (k : Int) < (F.o.l.length : Int) := by omega
        have hbr := HB12.out.trans (hdw.below.mono HB12.out.size)
        obtain ⟨_, _, g3⟩ := HFA.out.1
        rcases g3 with g3 | ⟨b', o', hoa, hob, hoc⟩
        · have g3' := congrArg List.length (iv_nil g3); rw [List.length_nil] at g3'; omega
        have y0 : wr.cell? ⟨w.heap.size, 0, none⟩ = some (.slice (some ⟨b', o', none⟩) F.o.l.length F.o.c) := by rw [← hoa]; exact (HBX.out.on hbr).c0
        obtain ⟨x, hx⟩ : ∃ x, x = F.o.l.getD k 0 := ⟨_, rfl⟩
        obtain ⟨y, hy⟩ : ∃ y, y = clmTo F 1 p.l k p.l.length := ⟨_, rfl⟩
        have hcx : wr.cell? ⟨b', o' + k, none⟩ = some (.int .i64 x) := (hbr.cell (p := ⟨b', o' + k, none⟩) hob).trans (by rw [hx, getD_at hlt]; exact hoc k _ (iv_at hlt))
        have hcy : wr.cell? ⟨b, o + k, none⟩ = some (.int .i64 y) := by rw [hdw.cell, hy]; exact HCE.out k hlt
        have HXY : Hid (restAt F p.l k = x - y) := Lib.hid (by unfold restAt; rw [hx, hy])
        clear hx hy hoa hoc hbr
        by_cases hxy : x < y
        · have HS : Hid (fairB F p.l = false) := Lib.hid (by
            rw [Bool.eq_false_iff]; intro h; have := (fair_iff.1 h).2 k hlt; rw [HXY.out] at this; omega)
          go_wp2
          go_quiet (fail)
          go_wp2
          go_ret
          exact ⟨by rw [HS.out]; rfl, HBW2.out.trans ((hdw.more _).below.mono HBW2.out.size)⟩
        · have HS : Hid (∀ a, a < k + 1 → 0 ≤ restAt F p.l a) := Lib.hid fun a ha => by
            by_cases e : a = k
            · subst e; rw [HXY.out]; omega
            · exact HALL.out a (by omega)
          go_wp2
          go_quiet (fail)
          go_wp2
          go_roundw
          case rel => exact ⟨k + 1, by omega, by go_num, hdw.more _, HS.out⟩
          case measure => simp [intOf]; omega
      · obtain rfl : k = F.o.l.length := by omega
        have HS : Hid (fairB F p.l = true) := Lib.hid (fair_iff.2 ⟨HQ.out, HALL.out⟩)
        go_wp2
        go_ret
        exact ⟨by rw [HS.out]; rfl, HBW2.out.trans (hdw.below.mono HBW2.out.size)⟩
  · have hv' : pricesB F p.l = false := by simpa using hv
    have HS : Hid (fairB F p.l = false) := Lib.hid (by unfold fairB; rw [hv']; rfl)
    rw [hv']
    clear hv hv'
    go_wp2
    go_ret
    exact ⟨by rw [HS.out]; rfl, hbw⟩

end Go.Proofs.Ytjabdcallfipeaa
