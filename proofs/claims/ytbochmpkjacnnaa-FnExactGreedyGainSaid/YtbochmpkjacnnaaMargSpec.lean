/- The marginal gain on the model's side. Condition: a valid Field and worth, a list of its sites, a site. -/
import Derived.Test.YtbochmpkjacnnaaMarg
namespace Go.Proofs.Ytbochmpkjacnnaa
open Go.RowKit Go.Shelf

set_option maxRecDepth 16000 in
set_option maxHeartbeats 1500000 in
theorem l8More_any (F : Fld) (u : Int) (s : Row) (T : List Nat) (i : Nat) (w : World) (hF : F.At w) (hs : s.At w) (hw : s.Whole 3 w) (hf : Worthy F u s T) (hT : T.length ≤ 100) (hi : i < F.o.l.length) (hni : i ∉ T) :
    Calls Try.prog 54 #[F.val, .int .i64 u, .slice s.a s.l.length s.c, .int .i64 i] w fun e w' => e = .returned (.int .i64 (moreT F u T i)) ∧ Below w.heap.size w w' := by
  obtain ⟨wA, hA, hbA, bx, hFA, hszA⟩ := laid_fld F w 29 hF
  have HBX := Lib.hid bx
  have HA := Lib.hid hA
  have b1 := gainT_bound hf.good T
  have b2 := gainT_bound hf.good (T ++ [i])
  obtain ⟨x, hx⟩ : ∃ x, x = gainT F u (T ++ [i]) := ⟨_, rfl⟩
  obtain ⟨y, hy⟩ : ∃ y, y = gainT F u T := ⟨_, rfl⟩
  have HM : Hid (moreT F u T i = x - y) := Lib.hid (by rw [hx, hy]; rfl)
  have hF1 := hF.on hbA
  have hs1 := hs.on hbA
  have hw1 := hw.on hbA
  obtain ⟨U, hU1, hU2⟩ := put_up T i
  have CP := Lib.hid (fun W (h : Below wA.heap.size wA W) => (by
    obtain ⟨g, ha, ho⟩ := hw1.on h
    have := l1Put_any g s.c s.l (i : Int) W ho (by rw [hf.set, up_length]; omega) (by rw [hf.set, hasN]; exact decide_eq_false hni)
    rw [hf.set, hU1, ← hf.set, ← ha] at this
    exact this : Calls Try.prog 53 #[.slice s.a s.l.length s.c, .int .i64 i] W fun e w' => ∃ t : Row, e = .returned (.slice t.a t.l.length t.c) ∧ t.l = up U ∧ t.Own 3 w' ∧ t.In W.heap.size w'.heap.size w' ∧ Below W.heap.size W w'))
  have C1 := Lib.hid (fun W (h : Below wA.heap.size wA W) (t : Row) (htl : t.l = up U) (hta : t.At W) => (by
    have := l8Gain_any F u t U W (hF1.on h) hta (hf.snoc hi hT htl hU2)
    rw [gainT_perm F u hU2, ← hx] at this
    exact this : Calls Try.prog 40 #[.agg #[F.o.val, F.t.val], .int .i64 u, .slice t.a t.l.length t.c] W fun e w' => e = .returned (.int .i64 x) ∧ Below W.heap.size W w'))
  have C2 := Lib.hid (fun W (h : Below wA.heap.size wA W) => (by
    have := l8Gain_any F u s T W (hF1.on h) (hs1.on h) hf
    rw [← hy] at this
    exact this : Calls Try.prog 40 #[.agg #[F.o.val, F.t.val], .int .i64 u, .slice s.a s.l.length s.c] W fun e w' => e = .returned (.int .i64 y) ∧ Below W.heap.size W w'))
  have HB0 : Hid (Below w.heap.size w wA) := Lib.hid hbA
  rw [← hx] at b2
  rw [← hy] at b1
  have e1 : -9223372036854775808 ≤ x - y := by omega
  have e2 : x - y ≤ 9223372036854775807 := by omega
  have HS : Hid (∀ u, Below wA.heap.size wA u → ((u.cell? ⟨w.heap.size, 0, none⟩ = some F.o.val ∧ u.cell? ⟨w.heap.size, 1, none⟩ = some F.t.val) ∧ Below wA.heap.size wA u)) := Lib.hid fun u hu => ⟨⟨(bx.on hu).c0, (bx.on hu).c1⟩, hu⟩
  have s0 := HS.out wA.drew (Below.refl _ _).drew
  clear hF hs hw hf hi hni bx hFA hA hx hy hF1 hs1 hw1 hU1 hU2 hbA b1 b2
  show Calls _ _ #[.agg #[F.o.val, F.t.val], _, _, _] w _
  go_enter Try.func54, Try.ntmps54
  go_wp2_with fail
  rw [← HA.out]
  go_region_held3 (fun u => ((u.cell? ⟨w.heap.size, 0, none⟩ = some F.o.val ∧ u.cell? ⟨w.heap.size, 1, none⟩ = some F.t.val) ∧ Below wA.heap.size wA u)) (first | exact s0 | exact keep_reg HS.out (by first | assumption | exact And.right (by assumption)) hb1) (first | (go_at_call 53; refine (show Calls _ _ _ _ _ from CP.out _ (by first | assumption | exact And.right (by assumption))).mono ?_; rintro e u1 ⟨t, rfl, htl, -, hti, hb1⟩; have HTL := Lib.hid htl; have HTA := Lib.hid hti.at; clear htl hti) | (go_at_call 40; with_reducible change Calls _ _ #[_, _, .slice s.a _ s.c] _ _; refine (show Calls _ _ _ _ _ from C2.out _ (by first | assumption | exact And.right (by assumption))).mono ?_; rintro e u2 ⟨rfl, hb1⟩; (try have HTA := Lib.hid (HTA.out.on hb1))) | (go_at_call 40; refine (show Calls _ _ _ _ _ from C1.out _ (by first | assumption | exact And.right (by assumption)) t HTL.out HTA.out).mono ?_; rintro e u3 ⟨rfl, hb1⟩))
  refine at_exit (W := wA) (by first | assumption | exact And.right (by assumption)) ?_
  intro W8 hb8
  have hw : IntKind.i64.wrap (x - y) = x - y := IntWalk.i64_in _ (by omega)
  go_wp2
  go_ret
  exact ⟨by rw [HM.out]; exact congrArg (fun z => Ending.returned (.int .i64 z)) hw, HB0.out.trans (hb8.mono HB0.out.size)⟩
end Go.Proofs.Ytbochmpkjacnnaa
