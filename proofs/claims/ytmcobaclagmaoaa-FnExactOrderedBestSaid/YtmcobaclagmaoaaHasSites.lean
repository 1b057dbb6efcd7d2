/- The test of a Field and a number of its sites: the program's side. Condition: the Field reads as such. -/
import Derived.Test.YtmcobaclagmaoaaMedSpec
namespace Go.Proofs.Ytmcobaclagmaoaa
open Go.RowKit

set_option maxRecDepth 16000 in
set_option maxHeartbeats 1000000 in
theorem hasSites_any (F : Fld) (k : Int) (w : World) (hF : F.At w) :
    Calls Try.prog 35 #[F.val, .int .i64 k] w fun e w' => e = .returned (.bool (kB F k)) ∧ Below w.heap.size w w' := by
  obtain ⟨wA, hA, hbA, bx, hFA, hszA⟩ := laid_fld F w 29 hF
  have HBX := Lib.hid bx
  have HA := Lib.hid hA
  obtain ⟨g, hg⟩ : ∃ g, g = F.good := ⟨_, rfl⟩
  have CG := implIsField_any F wA hFA
  rw [← hg] at CG
  have CG1 := Lib.hid CG
  have HK : Hid (kB F k = (g && (decide (1 ≤ k) && decide (k ≤ (F.o.l.length : Int))))) := Lib.hid (by rw [hg]; rfl)
  have x0 := bx.c0
  have x1 := bx.c1
  rw [hA] at x0 x1
  clear hF hA hFA bx hg CG
  show Calls _ _ #[.agg #[F.o.val, F.t.val], _] w _
  go_enter Try.func35, Try.ntmps35
  go_wp2_with fail
  rw [show w.alloc (Obj.cells #[F.o.val, F.t.val] 29) = wA from HA.out.symm]
  refine (show Calls _ _ _ _ _ from CG1.out).mono ?_
  rintro e W1 ⟨rfl, hb1⟩
  clear x0 x1
  cases g with
  | false =>
    go_wp2
    go_ret
    exact ⟨by rw [HK.out]; rfl, hbA.trans (hb1.mono hbA.size)⟩
  | true =>
    have y0 : W1.cell? ⟨w.heap.size, 0, none⟩ = some (.slice F.o.a F.o.l.length F.o.c) := (HBX.out.on hb1).c0
    by_cases h1 : 1 ≤ k
    · go_wp2
      go_ret
      exact ⟨by rw [HK.out, decide_eq_true h1]; simp, hbA.trans (hb1.mono hbA.size)⟩
    · have h1' : ¬ k ≥ 1 := h1
      have HE : Hid (kB F k = false) := Lib.hid (by rw [HK.out, decide_eq_false (by omega : ¬ 1 ≤ k)]; rfl)
      go_wp2
      go_ret
      exact ⟨by rw [HE.out]; rfl, hbA.trans (hb1.mono hbA.size)⟩
end Go.Proofs.Ytmcobaclagmaoaa
