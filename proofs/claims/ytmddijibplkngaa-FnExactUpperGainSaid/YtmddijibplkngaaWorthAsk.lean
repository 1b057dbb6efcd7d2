/- Whether a Field and a worth are valid, on both sides, and GainOf's two sides. Condition: the Field reads as such. -/
import Derived.Test.YtmddijibplkngaaWorth
namespace Go.Proofs.Ytmddijibplkngaa
open Go.RowKit

set_option maxRecDepth 16000 in
set_option maxHeartbeats 1000000 in
theorem l8Good_any (F : Fld) (u : Int) (w : World) (hF : F.At w) :
    Calls Try.prog 37 #[F.val, .int .i64 u] w fun e w' => e = .returned (.bool (worthB F u)) ∧ Below w.heap.size w w' := by
  obtain ⟨wA, hA, hbA, bx, hFA, hszA⟩ := laid_fld F w 29 hF
  have HA := Lib.hid hA
  obtain ⟨g, hg⟩ : ∃ g, g = F.good := ⟨_, rfl⟩
  have CG := l2Good_any F wA hFA
  rw [← hg] at CG
  have CG1 := Lib.hid CG
  have CI := Lib.hid (fun W => l1In_any u 0 999 W)
  have HK : Hid (worthB F u = (g && (decide (0 ≤ u) && decide (u ≤ 999)))) := Lib.hid (by rw [hg]; rfl)
  have x0 := bx.c0
  have x1 := bx.c1
  rw [hA] at x0 x1
  clear hF hA hFA bx hg CG
  show Calls _ _ #[.agg #[F.o.val, F.t.val], _] w _
  go_enter Try.func37, Try.ntmps37
  go_wp2_with fail
  rw [show w.alloc (Obj.cells #[F.o.val, F.t.val] 29) = wA from HA.out.symm]
  refine (show Calls _ _ _ _ _ from CG1.out).mono ?_
  rintro e W1 ⟨rfl, hb1⟩
  clear x0 x1
  cases g with
  | false =>
    go_wp2
    go_ret
    exact ⟨by rw [HK.out]; rfl, hbA.trans (hb1.mono hbA.size)⟩
  | true =>
    have HE : Hid (worthB F u = (decide (0 ≤ u) && decide (u ≤ 999))) := Lib.hid (by rw [HK.out]; rfl)
    go_wp2_with fail
    refine (show Calls _ _ _ _ _ from CI.out W1).mono ?_
    rintro e W2 ⟨rfl, rfl⟩
    go_wp2
    go_ret
    exact ⟨by rw [HE.out]; rfl, hbA.trans (hb1.mono hbA.size)⟩

set_option maxRecDepth 16000 in
set_option maxHeartbeats 1000000 in
theorem validV_any (F : Fld) (u : Int) (w : World) (hF : F.At w) :
    Calls Try.prog 50 #[.agg #[.slice F.o.a F.o.l.length F.o.c, .slice F.t.a F.t.R.length F.t.c, .int .i64 u]] w fun e w' => e = .returned (.bool (worthB F u)) ∧ Below w.heap.size w w' := by
  obtain ⟨wA, hA, hbA, bx, hFA, hszA⟩ := laid_val F u w 55 hF
  have HBX := Lib.hid bx
  have HA := Lib.hid hA
  obtain ⟨g, hg⟩ : ∃ g, g = F.good := ⟨_, rfl⟩
  have CG := implIsField_any F wA hFA
  rw [← hg] at CG
  have CG1 := Lib.hid CG
  have HK : Hid (worthB F u = (g && (decide (0 ≤ u) && decide (u ≤ 999)))) := Lib.hid (by rw [hg]; rfl)
  have x0 := bx.c0
  have x1 := bx.c1
  have x2 := bx.c2
  rw [hA] at x0 x1 x2
  clear hF hA hFA bx hg CG
  go_enter Try.func50, Try.ntmps50
  go_wp2_with fail
  rw [← HA.out]
  refine (show Calls _ _ _ _ _ from CG1.out).mono ?_
  rintro e W1 ⟨rfl, hb1⟩
  clear x0 x1 x2
  cases g with
  | false =>
    go_wp2
    go_ret
    exact ⟨by rw [HK.out]; rfl, hbA.trans (hb1.mono hbA.size)⟩
  | true =>
    have y2 := (HBX.out.on hb1).c2
    by_cases h1 : 0 ≤ u
    · have h1' : u ≥ 0 := h1
      have HE : Hid (worthB F u = decide (u ≤ 999)) := Lib.hid (by rw [HK.out, decide_eq_true h1]; simp)
      go_wp2
      go_ret
      exact ⟨by rw [HE.out]; rfl, hbA.trans (hb1.mono hbA.size)⟩
    · have h1' : ¬ u ≥ 0 := h1
      have HE : Hid (worthB F u = false) := Lib.hid (by rw [HK.out, decide_eq_false h1]; rfl)
      go_wp2
      go_ret
      exact ⟨by rw [HE.out]; rfl, hbA.trans (hb1.mono hbA.size)⟩

set_option maxRecDepth 16000 in
set_option maxHeartbeats 1000000 in
theorem hasSet_any (F : Fld) (u : Int) (s : Row) (w : World) (hF : F.At w) (hs : s.At w) :
    Calls Try.prog 41 #[.agg #[.slice F.o.a F.o.l.length F.o.c, .slice F.t.a F.t.R.length F.t.c, .int .i64 u], .slice s.a s.l.length s.c] w fun e w' => e = .returned (.bool (askG F u s.l)) ∧ Below w.heap.size w w' := by
  obtain ⟨wA, hA, hbA, bx, hFA, hszA⟩ := laid_val F u w 55 hF
  have HBX := Lib.hid bx
  have HA := Lib.hid hA
  obtain ⟨g, hg⟩ : ∃ g, g = worthB F u := ⟨_, rfl⟩
  have CG := validV_any F u wA hFA
  rw [← hg] at CG
  have CG1 := Lib.hid CG
  have CS := Lib.hid (fun W (h : Below wA.heap.size wA W) => isSiteSet_any F s W (hFA.on h) ((hs.on hbA).on h) : ∀ W, Below wA.heap.size wA W → Calls Try.prog 61 #[.agg #[.slice F.o.a F.o.l.length F.o.c, .slice F.t.a F.t.R.length F.t.c], .slice s.a s.l.length s.c] W fun e w' => e = .returned (.bool (setB F.o.l.length s.l)) ∧ Below W.heap.size W w')
  have HK : Hid (askG F u s.l = (g && setB F.o.l.length s.l)) := Lib.hid (by rw [hg]; rfl)
  have x0 := bx.c0
  have x1 := bx.c1
  have x2 := bx.c2
  rw [hA] at x0 x1 x2
  clear hF hs hA hFA bx hg CG
  go_enter Try.func41, Try.ntmps41
  go_wp2_with fail
  rw [← HA.out]
  refine (show Calls _ _ _ _ _ from CG1.out).mono ?_
  rintro e W1 ⟨rfl, hb1⟩
  have hbw := hbA.trans (hb1.mono hbA.size)
  clear x0 x1 x2
  cases g with
  | false =>
    go_wp2
    go_ret
    exact ⟨by rw [HK.out]; rfl, hbw⟩
  | true =>
    have HE : Hid (askG F u s.l = setB F.o.l.length s.l) := Lib.hid (by rw [HK.out]; rfl)
    have y0 := (HBX.out.on hb1).c0
    have y1 := (HBX.out.on hb1).c1
    have CS1 := Lib.hid (CS.out W1 hb1)
    clear hb1
    go_wp2_with fail
    refine (show Calls _ _ _ _ _ from CS1.out).mono ?_
    rintro e W2 ⟨rfl, hb2⟩
    go_wp2
    go_ret
    exact ⟨by rw [HE.out]; rfl, hbw.trans (hb2.mono hbw.size)⟩
end Go.Proofs.Ytmddijibplkngaa
