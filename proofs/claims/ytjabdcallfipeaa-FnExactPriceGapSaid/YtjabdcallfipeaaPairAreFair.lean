/- Both sides of AreFair answer alike. Condition: Field and prices read as such. -/
import Derived.Test.YtjabdcallfipeaaFair
import Derived.Test.YtjabdcallfipeaaShelf
namespace Go.Proofs.Ytjabdcallfipeaa
open Go.RowKit

/-- What AreFair answers. -/
def FairAre (F : Fld) (p : List Int) (v b : Bool) : Prop := v = fairB F p ∧ b = pricesB F p
theorem fairs_like {F G : Fld} {p : List Int} {v b : Bool} (h : FairAre F p v b) (hl : G.Like F) : FairAre G p v b := ⟨by rw [fair_like hl]; exact h.1, by rw [prices_like hl]; exact h.2⟩

/-- The least of a list that reads as such. -/
theorem min_any (r : Row) (w : World) (hr : r.At w) (h0 : 0 < r.l.length) (hn : r.l.length ≤ 1048576) :
    Calls Try.prog 60 #[.slice r.a r.l.length r.c] w fun e w' => e = .returned (.int .i64 (Lib.minOf r.l)) ∧ w' = w := by
  obtain ⟨a, c, l⟩ := r
  obtain ⟨_, _, h3⟩ := hr
  simp only at h0 hn h3 ⊢
  rcases h3 with h3 | ⟨b, o, rfl, _, hc⟩
  · have h3' := congrArg List.length (iv_nil h3); rw [List.length_nil] at h3'; omega
  have := Try.slices_Min_int b o l.length c l w h0 (Nat.le_refl _) (by omega) (fun j hj => by rw [getD_at hj]; exact hc j _ (iv_at hj))
  rw [List.take_length] at this
  exact this

set_option maxHeartbeats 1000000 in
theorem implFair_any (F : Fld) (p : Row) (w : World) (hF : F.At w) (hp : p.At w) (v b : Bool) (hv : FairAre F p.l v b) :
    Calls Try.prog 46 #[F.val, .slice p.a p.l.length p.c] w (PBool2 v b w) := by
  obtain ⟨wA, hA, hbA, bx, hFA, hszA⟩ := laid_fld F w 29 hF
  have HPA := Lib.hid (hp.on hbA)
  have HFA := Lib.hid hFA
  have HBX := Lib.hid bx
  have HA := Lib.hid hA
  have CT := Lib.hid (arePricesOf_any F p wA hFA HPA.out)
  obtain ⟨rfl, rfl⟩ := hv
  clear hF hp hA hFA bx
  show Calls _ _ #[.agg #[F.o.val, F.t.val], _] w fun e w' => e = .returned (.tuple #[.bool (fairB F p.l), .bool (pricesB F p.l)]) ∧ Below w.heap.size w w'
  go_enter Try.func46, Try.ntmps46
  go_wp2_with fail
  rw [show w.alloc (Obj.cells #[F.o.val, F.t.val] 29) = wA from HA.out.symm]
  refine (show Calls _ _ _ _ _ from CT.out).mono ?_
  rintro e W1 ⟨rfl, hb1⟩
  have hbw := hbA.trans (hb1.mono hbA.size)
  by_cases hv : pricesB F p.l = true
  · have hq := priced_iff.1 hv
    have HFV : Hid (fairB F p.l = decide (0 ≤ Lib.minOf (restsTo F p.l F.o.l.length))) := Lib.hid (by
      have hsz := good_sizes hq.good
      obtain ⟨h1, j, h2, h3⟩ := min_le F.o.l.length (restsTo F p.l F.o.l.length) (by omega) (by rw [rests_length]; omega)
      rw [List.take_of_length_le (by rw [rests_length]; omega)] at h1 h3
      rw [Bool.eq_iff_iff, fair_iff, decide_eq_true_eq]
      constructor
      · rintro ⟨_, h⟩; rw [h3, rests_getD F p.l h2]; exact h j h2
      · intro h; exact ⟨hq, fun a ha => by have := h1 a ha; rw [rests_getD F p.l ha] at this; omega⟩)
    have HPV := Lib.hid hv
    rw [hv]
    have y0 := (HBX.out.on hb1).c0
    have y1 := (HBX.out.on hb1).c1
    have CB := Lib.hid (restsFor_any F p W1 (HFA.out.on hb1) (HPA.out.on hb1) hq.good (due_more hq.due) hq.len)
    have hsz := good_sizes hq.good
    clear hq hv
    go_wp2_with fail
    refine (show Calls _ _ _ _ _ from CB.out).mono ?_
    rintro e W2 ⟨t, rfl, htl, -, hti, hb2⟩
    have hbw2 := hbw.trans (hb2.mono hbw.size)
    have htn : t.l.length = F.o.l.length := by rw [htl, rests_length]
    have cm := min_any t W2 hti.at (by omega) (by omega)
    obtain ⟨m, hm⟩ : ∃ m, m = Lib.minOf (restsTo F p.l F.o.l.length) := ⟨_, rfl⟩
    rw [htl, ← hm] at cm
    rw [htl]
    have CM := Lib.hid cm
    have HM := Lib.hid hm
    clear htl htn hti y0 y1 cm hm
    go_wp2_with fail
    refine (show Calls _ _ _ _ _ from CM.out).mono ?_
    rintro e W3 ⟨rfl, rfl⟩
    go_wp2
    go_ret2
    exact ⟨by rw [HFV.out, HPV.out, ← HM.out]; rfl, hbw2⟩
  · have hv' : pricesB F p.l = false := by simpa using hv
    have HS : Hid (fairB F p.l = false) := Lib.hid (by unfold fairB; rw [hv']; rfl)
    have HPV := Lib.hid hv'
    rw [hv']
    clear hv hv'
    go_wp2
    go_ret2
    exact ⟨by rw [HS.out, HPV.out]; rfl, hbw⟩

end Go.Proofs.Ytjabdcallfipeaa
