/- Both sides of RestCosts answer alike. Condition: Field and prices read as such. -/
import Derived.Test.YtahbjhbdgiojeaaPairAreFair
import Derived.Deep.AppendLies
namespace Go.Proofs.Ytahbjhbdgiojeaa
open Go.RowKit

/-- What RestCosts answers. -/
def RestAre (F : Fld) (p : List Int) (l : List Int) (b : Bool) : Prop :=
  (fairB F p = false ∧ l = [] ∧ b = false) ∨ (fairB F p = true ∧ l = restsTo F p F.o.l.length ∧ b = true)
theorem restsare_like {F G : Fld} {p l : List Int} {b : Bool} (h : RestAre F p l b) (hl : G.Like F) : RestAre G p l b := by
  rcases h with ⟨h1, h2, h3⟩ | ⟨h1, h2, h3⟩
  · exact .inl ⟨by rw [fair_like hl, h1], h2, h3⟩
  · exact .inr ⟨by rw [fair_like hl, h1], by rw [h2, ← rests_like hl, hl.1], h3⟩
theorem restsare_some (F : Fld) (p : List Int) : ∃ (l : List Int) (b : Bool), RestAre F p l b ∧ l.length ≤ 1048576 := by
  by_cases h : fairB F p = true
  · exact ⟨_, _, .inr ⟨h, rfl, rfl⟩, by have := good_sizes (fair_iff.1 h).1.good; rw [rests_length]; omega⟩
  · exact ⟨_, _, .inl ⟨by simpa using h, rfl, rfl⟩, by simp⟩

set_option maxHeartbeats 1000000 in
theorem implRest_any (F : Fld) (p : Row) (w : World) (hF : F.At w) (hp : p.At w) (l : List Int) (b : Bool) (hv : RestAre F p.l l b) :
    Calls Try.prog 72 #[F.val, .slice p.a p.l.length p.c] w (PInts l b w) := by
  obtain ⟨wA, hA, hbA, bx, hFA, hszA⟩ := laid_fld F w 29 hF
  have HPA := Lib.hid (hp.on hbA)
  have HFA := Lib.hid hFA
  have HBX := Lib.hid bx
  have HA := Lib.hid hA
  have CT := Lib.hid (implFair_any F p wA hFA HPA.out _ _ ⟨rfl, rfl⟩)
  clear hF hp hA hFA bx
  show Calls _ _ #[.agg #[F.o.val, F.t.val], _] w _
  go_enter Try.func72, Try.ntmps72
  go_wp2_with fail
  rw [show w.alloc (Obj.cells #[F.o.val, F.t.val] 29) = wA from HA.out.symm]
  refine (show Calls _ _ _ _ _ from CT.out).mono ?_
  rintro e W1 ⟨rfl, hb1⟩
  have hbw := hbA.trans (hb1.mono hbA.size)
  rcases hv with ⟨hv, rfl, rfl⟩ | ⟨hq, rfl, rfl⟩
  · have HO1 := Lib.hid (empty_own W1)
    have hb0 := below_alloc W1 (.cells #[] 3)
    have hsz1 := hbw.size
    rw [hv]
    clear hv
    go_wp2
    go_ret2
    exact ints_end rfl HO1.out hsz1 (hbw.trans (hb0.mono hbw.size))
  · have hpr := (fair_iff.1 hq).1
    rw [hq]
    have y0 := (HBX.out.on hb1).c0
    have y1 := (HBX.out.on hb1).c1
    have CB := Lib.hid (restsFor_any F p W1 (HFA.out.on hb1) (HPA.out.on hb1) hpr.good (due_more hpr.due) hpr.len)
    clear hq hpr
    go_wp2_with fail
    refine (show Calls _ _ _ _ _ from CB.out).mono ?_
    rintro e W2 ⟨t, rfl, htl, hto, hti, hb2⟩
    have hbw2 := hbw.trans (hb2.mono hbw.size)
    have hsz1 := hbw.size
    have HTL := Lib.hid htl
    clear htl
    go_wp2
    go_ret2
    exact ⟨t, rfl, HTL.out, hto, hti.wide hsz1 (Nat.le_refl _), hbw2⟩

end Go.Proofs.Ytahbjhbdgiojeaa
