/- Both sides of ClaimsOf answer alike. Condition: Field and prices read as such. -/
import Derived.Test.YtoejfeloademnaaClaimImpl
namespace Go.Proofs.Ytoejfeloademnaa
open Go.RowKit

/-- What ClaimsOf answers. -/
def ClaimsAre (F : Fld) (p : List Int) (l : List Int) (b : Bool) : Prop :=
  (pricesB F p = false ∧ l = [] ∧ b = false) ∨ (Priced F p ∧ l = clmsTo F 1 p F.o.l.length ∧ b = true)
theorem claims_like {F G : Fld} {p l : List Int} {b : Bool} (h : ClaimsAre F p l b) (hl : G.Like F) : ClaimsAre G p l b := by
  rcases h with ⟨h1, h2, h3⟩ | ⟨h1, h2, h3⟩
  · exact .inl ⟨by rw [prices_like hl, h1], h2, h3⟩
  · exact .inr ⟨priced_like h1 hl, by rw [h2, ← clms_like hl, hl.1], h3⟩
theorem claims_some (F : Fld) (p : List Int) : ∃ (l : List Int) (b : Bool), ClaimsAre F p l b ∧ l.length ≤ 1048576 := by
  by_cases h : Priced F p
  · exact ⟨_, _, .inr ⟨h, rfl, rfl⟩, by have := good_sizes h.good; rw [clms_length]; omega⟩
  · exact ⟨_, _, .inl ⟨by rw [Bool.eq_false_iff]; exact fun e => h (priced_iff.1 e), rfl, rfl⟩, by simp⟩
theorem due_more {p : List Int} (h : Dues 500 p) : Dues 2097152 p := fun x hx => by have := h x hx; omega

set_option maxHeartbeats 1000000 in
theorem specClaims_any (F : Fld) (p : Row) (w : World) (hF : F.At w) (hp : p.At w) (l : List Int) (b : Bool) (hv : ClaimsAre F p.l l b) :
    Calls Try.prog 36 #[F.val, .slice p.a p.l.length p.c] w (PInts l b w) := by
  obtain ⟨wA, hA, hbA, bx, hFA, hszA⟩ := laid_fld F w 29 hF
  have HPA := Lib.hid (hp.on hbA)
  have HFA := Lib.hid hFA
  have HBX := Lib.hid bx
  have HA := Lib.hid hA
  have CT := Lib.hid (l3Prices_any F p wA hFA HPA.out)
  clear hF hp hA hFA bx
  show Calls _ _ #[.agg #[F.o.val, F.t.val], _] w _
  go_enter Try.func36, Try.ntmps36
  go_wp2_with fail
  rw [show w.alloc (Obj.cells #[F.o.val, F.t.val] 29) = wA from HA.out.symm]
  refine (show Calls _ _ _ _ _ from CT.out).mono ?_
  rintro e W1 ⟨rfl, hb1⟩
  have hbw := hbA.trans (hb1.mono hbA.size)
  rcases hv with ⟨hv, rfl, rfl⟩ | ⟨hq, rfl, rfl⟩
  · have HO1 := Lib.hid (empty_own W1)
    have hb0 := below_alloc W1 (.cells #[] 3)
    have hsz1 := hbw.size
    rw [hv]
    clear hv
    go_wp2
    go_ret2
    exact ints_end rfl HO1.out hsz1 (hbw.trans (hb0.mono hbw.size))
  · rw [priced_iff.2 hq]
    have y0 := (HBX.out.on hb1).c0
    have y1 := (HBX.out.on hb1).c1
    have CB := Lib.hid (l3Claims_any F p W1 (HFA.out.on hb1) (HPA.out.on hb1) hq)
    clear hq
    go_wp2_with fail
    refine (show Calls _ _ _ _ _ from CB.out).mono ?_
    rintro e W2 ⟨t, rfl, htl, hto, hti, hb2⟩
    have hbw2 := hbw.trans (hb2.mono hbw.size)
    have hsz1 := hbw.size
    have HTL := Lib.hid htl
    clear htl
    go_wp2
    go_ret2
    exact ⟨t, rfl, HTL.out, hto, hti.wide hsz1 (Nat.le_refl _), hbw2⟩

set_option maxHeartbeats 1000000 in
theorem implClaims_any (F : Fld) (p : Row) (w : World) (hF : F.At w) (hp : p.At w) (l : List Int) (b : Bool) (hv : ClaimsAre F p.l l b) :
    Calls Try.prog 37 #[F.val, .slice p.a p.l.length p.c] w (PInts l b w) := by
  obtain ⟨wA, hA, hbA, bx, hFA, hszA⟩ := laid_fld F w 29 hF
  have HPA := Lib.hid (hp.on hbA)
  have HFA := Lib.hid hFA
  have HBX := Lib.hid bx
  have HA := Lib.hid hA
  have CT := Lib.hid (arePricesOf_any F p wA hFA HPA.out)
  clear hF hp hA hFA bx
  show Calls _ _ #[.agg #[F.o.val, F.t.val], _] w _
  go_enter Try.func37, Try.ntmps37
  go_wp2_with fail
  rw [show w.alloc (Obj.cells #[F.o.val, F.t.val] 29) = wA from HA.out.symm]
  refine (show Calls _ _ _ _ _ from CT.out).mono ?_
  rintro e W1 ⟨rfl, hb1⟩
  have hbw := hbA.trans (hb1.mono hbA.size)
  rcases hv with ⟨hv, rfl, rfl⟩ | ⟨hq, rfl, rfl⟩
  · have HO1 := Lib.hid (empty_own W1)
    have hb0 := below_alloc W1 (.cells #[] 3)
    have hsz1 := hbw.size
    rw [hv]
    clear hv
    go_wp2
    go_ret2
    exact ints_end rfl HO1.out hsz1 (hbw.trans (hb0.mono hbw.size))
  · rw [priced_iff.2 hq]
    have y0 := (HBX.out.on hb1).c0
    have y1 := (HBX.out.on hb1).c1
    have CB := Lib.hid (claimsFor_any F p W1 (HFA.out.on hb1) (HPA.out.on hb1) hq.good (due_more hq.due) hq.len)
    clear hq
    go_wp2_with fail
    refine (show Calls _ _ _ _ _ from CB.out).mono ?_
    rintro e W2 ⟨t, rfl, htl, hto, hti, hb2⟩
    have hbw2 := hbw.trans (hb2.mono hbw.size)
    have hsz1 := hbw.size
    have HTL := Lib.hid htl
    clear htl
    go_wp2
    go_ret2
    exact ⟨t, rfl, HTL.out, hto, hti.wide hsz1 (Nat.le_refl _), hbw2⟩

theorem claimsOf_pair (F : Fld) (p : Row) (_ : F.Small) (_ : p.l.length ≤ 1048576) : ∃ (l : List Int) (b : Bool) (_ : l.length ≤ 1048576),
    (∀ (G : Fld) (q : Row) (W : World), G.At W → q.At W → G.Like F → q.l = p.l → Calls Try.prog 36 #[G.val, .slice q.a q.l.length q.c] W (PInts l b W)) ∧
    (∀ (G : Fld) (q : Row) (W : World), G.At W → q.At W → G.Like F → q.l = p.l → Calls Try.prog 37 #[G.val, .slice q.a q.l.length q.c] W (PInts l b W)) := by
  obtain ⟨l, b, h, hl⟩ := claims_some F p.l
  exact ⟨l, b, hl, fun G q W hG hq hl hs => specClaims_any G q W hG hq l b (by rw [hs]; exact claims_like h hl), fun G q W hG hq hl hs => implClaims_any G q W hG hq l b (by rw [hs]; exact claims_like h hl)⟩
end Go.Proofs.Ytoejfeloademnaa
