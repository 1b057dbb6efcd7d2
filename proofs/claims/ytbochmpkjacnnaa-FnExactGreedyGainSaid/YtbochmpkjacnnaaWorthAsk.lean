/- Whether a Field and a worth are valid, on both sides, and GainOf's two sides. Condition: the Field reads as such. -/
import Derived.Test.YtbochmpkjacnnaaWorth
namespace Go.Proofs.Ytbochmpkjacnnaa
open Go.RowKit

set_option maxRecDepth 16000 in
set_option maxHeartbeats 1000000 in
theorem l8Good_any (F : Fld) (u : Int) (w : World) (hF : F.At w) :
    Calls Try.prog 37 #[F.val, .int .i64 u] w fun e w' => e = .returned (.bool (worthB F u)) ∧ Below w.heap.size w w' := by
  obtain ⟨wA, hA, hbA, bx, hFA, hszA⟩ := laid_fld F w 29 hF
  have HA := Lib.hid hA
  obtain ⟨g, hg⟩ : ∃ g, g = F.good := ⟨_, rfl⟩
  have CG := l2Good_any F wA hFA
  rw [← hg] at CG
  have CG1 := Lib.hid CG
  have CI := Lib.hid (fun W => l1In_any u 0 999 W)
  have HK : Hid (worthB F u = (g && (decide (0 ≤ u) && decide (u ≤ 999)))) := Lib.hid (by rw [hg]; rfl)
  have x0 := bx.c0
  have x1 := bx.c1
  rw [hA] at x0 x1
  clear hF hA hFA bx hg CG
  show Calls _ _ #[.agg #[F.o.val, F.t.val], _] w _
  go_enter Try.func37, Try.ntmps37
  go_wp2_with fail
  rw [show w.alloc (Obj.cells #[F.o.val, F.t.val] 29) = wA from HA.out.symm]
  refine (show Calls _ _ _ _ _ from CG1.out).mono ?_
  rintro e W1 ⟨rfl, hb1⟩
  clear x0 x1
  cases g with
  | false =>
    go_wp2
    go_ret
    exact ⟨by rw [HK.out]; rfl, hbA.trans (hb1.mono hbA.size)⟩
  | true =>
    have HE : Hid (worthB F u = (decide (0 ≤ u) && decide (u ≤ 999))) := Lib.hid (by rw [HK.out]; rfl)
    go_wp2_with fail
    refine (show Calls _ _ _ _ _ from CI.out W1).mono ?_
    rintro e W2 ⟨rfl, rfl⟩
    go_wp2
    go_ret
    exact ⟨by rw [HE.out]; rfl, hbA.trans (hb1.mono hbA.size)⟩

set_option maxRecDepth 16000 in
set_option maxHeartbeats 1000000 in
theorem validV_any (F : Fld) (u : Int) (w : World) (hF : F.At w) :
    Calls Try.prog 55 #[.agg #[.slice F.o.a F.o.l.length F.o.c, .slice F.t.a F.t.R.length F.t.c, .int .i64 u]] w fun e w' => e = .returned (.bool (worthB F u)) ∧ Below w.heap.size w w' := by
  obtain ⟨wA, hA, hbA, bx, hFA, hszA⟩ := laid_val F u w 50 hF
  have HBX := Lib.hid bx
  have HA := Lib.hid hA
  obtain ⟨g, hg⟩ : ∃ g, g = F.good := ⟨_, rfl⟩
  have CG := implIsField_any F wA hFA
  rw [← hg] at CG
  have CG1 := Lib.hid CG
  have HK : Hid (worthB F u = (g && (decide (0 ≤ u) && decide (u ≤ 999)))) := Lib.hid (by rw [hg]; rfl)
  have x0 := bx.c0
  have x1 := bx.c1
  have x2 := bx.c2
  rw [hA] at x0 x1 x2
  clear hF hA hFA bx hg CG
  go_enter Try.func55, Try.ntmps55
  go_wp2_with fail
  rw [← HA.out]
  refine (show Calls _ _ _ _ _ from CG1.out).mono ?_
  rintro e W1 ⟨rfl, hb1⟩
  clear x0 x1 x2
  cases g with
  | false =>
    go_wp2
    go_ret
    exact ⟨by rw [HK.out]; rfl, hbA.trans (hb1.mono hbA.size)⟩
  | true =>
    have y2 := (HBX.out.on hb1).c2
    by_cases h1 : 0 ≤ u
    · have h1' : u ≥ 0 := h1
      have HE : Hid (worthB F u = decide (u ≤ 999)) := Lib.hid (by rw [HK.out, decide_eq_true h1]; simp)
      go_wp2
      go_ret
      exact ⟨by rw [HE.out]; rfl, hbA.trans (hb1.mono hbA.size)⟩
    · have h1' : ¬ u ≥ 0 := h1
      have HE : Hid (worthB F u = false) := Lib.hid (by rw [HK.out, decide_eq_false h1]; rfl)
      go_wp2
      go_ret
      exact ⟨by rw [HE.out]; rfl, hbA.trans (hb1.mono hbA.size)⟩

end Go.Proofs.Ytbochmpkjacnnaa
