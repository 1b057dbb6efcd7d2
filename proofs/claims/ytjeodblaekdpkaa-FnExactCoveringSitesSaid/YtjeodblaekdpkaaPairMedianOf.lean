/- Both sides of MedianOf and of MedianValue answer alike. Condition: the Field reads as such. -/
import Derived.Test.YtjeodblaekdpkaaFirstLeast
import Derived.Test.YtjeodblaekdpkaaMedSpec
namespace Go.Proofs.Ytjeodblaekdpkaa
open Go.RowKit Go.Shelf

set_option maxHeartbeats 1000000 in
theorem setsOfSize_any (n k : Nat) (w : World) :
    Calls Try.prog 54 #[.int .i64 n, .int .i64 k] w fun e w' => ∃ Bk Bs, e = .returned (.func (.func 85) #[] #[.pointer (some ⟨Bk, 0, none⟩), .pointer (some ⟨Bs, 0, none⟩)]) ∧ Hid (w'.cell? ⟨Bk, 0, none⟩ = some (.int .i64 k)) ∧ Hid (w'.cell? ⟨Bs, 0, none⟩ = some (.int .i64 n)) ∧ Hid (w.heap.size ≤ Bk ∧ w.heap.size ≤ Bs) ∧ Below w.heap.size w w' := by
  have hB : Below w.heap.size w ((w.alloc (.cells #[.int .i64 n] 3)).alloc (.cells #[.int .i64 k] 3)) := ((Below.refl _ w).alloc (Nat.le_refl _) _).alloc (by simp) _
  have b0 := ((Boxed.new w 3 (.int .i64 n)).alloc (.cells #[.int .i64 k] 3)).cell
  have b1 := (Boxed.new (w.alloc (.cells #[.int .i64 n] 3)) 3 (.int .i64 k)).cell
  have H0 := Lib.hid b0
  have H1 := Lib.hid b1
  have HB := Lib.hid hB
  clear b0 b1 hB
  go_enter Try.func54, Try.ntmps54
  go_wp2
  go_ret
  have h1 := H1.out
  simp only [World.size_alloc] at h1
  exact ⟨w.heap.size + 1, w.heap.size, rfl, Lib.hid h1, H0, Lib.hid ⟨Nat.le_succ _, Nat.le_refl _⟩, HB.out⟩

set_option maxRecDepth 16000 in
set_option maxHeartbeats 1000000 in
theorem hasSites_any (F : Fld) (k : Int) (w : World) (hF : F.At w) :
    Calls Try.prog 59 #[F.val, .int .i64 k] w fun e w' => e = .returned (.bool (kB F k)) ∧ Below w.heap.size w w' := by
  obtain ⟨wA, hA, hbA, bx, hFA, hszA⟩ := laid_fld F w 29 hF
  have HBX := Lib.hid bx
  have HA := Lib.hid hA
  obtain ⟨g, hg⟩ : ∃ g, g = F.good := ⟨_, rfl⟩
  have CG := implIsField_any F wA hFA
  rw [← hg] at CG
  have CG1 := Lib.hid CG
  have HK : Hid (kB F k = (g && (decide (1 ≤ k) && decide (k ≤ (F.o.l.length : Int))))) := Lib.hid (by rw [hg]; rfl)
  have x0 := bx.c0
  have x1 := bx.c1
  rw [hA] at x0 x1
  clear hF hA hFA bx hg CG
  show Calls _ _ #[.agg #[F.o.val, F.t.val], _] w _
  go_enter Try.func59, Try.ntmps59
  go_wp2_with fail
  rw [show w.alloc (Obj.cells #[F.o.val, F.t.val] 29) = wA from HA.out.symm]
  refine (show Calls _ _ _ _ _ from CG1.out).mono ?_
  rintro e W1 ⟨rfl, hb1⟩
  clear x0 x1
  cases g with
  | false =>
    go_wp2
    go_ret
    exact ⟨by rw [HK.out]; rfl, hbA.trans (hb1.mono hbA.size)⟩
  | true =>
    have y0 : W1.cell? ⟨w.heap.size, 0, none⟩ = some (.slice F.o.a F.o.l.length F.o.c) := (HBX.out.on hb1).c0
    by_cases h1 : 1 ≤ k
    · go_wp2
      go_ret
      exact ⟨by rw [HK.out, decide_eq_true h1]; simp, hbA.trans (hb1.mono hbA.size)⟩
    · have h1' : ¬ k ≥ 1 := h1
      have HE : Hid (kB F k = false) := Lib.hid (by rw [HK.out, decide_eq_false (by omega : ¬ 1 ≤ k)]; rfl)
      go_wp2
      go_ret
      exact ⟨by rw [HE.out]; rfl, hbA.trans (hb1.mono hbA.size)⟩

end Go.Proofs.Ytjeodblaekdpkaa
