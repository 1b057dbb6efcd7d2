/- Both sides of MedianOf and of MedianValue answer alike. Condition: the Field reads as such. -/
import Derived.Test.YthabpdfbpdokjaaFirstLeast
import Derived.Test.YthabpdfbpdokjaaMedSpec
namespace Go.Proofs.Ythabpdfbpdokjaa
open Go.RowKit Go.Shelf

set_option maxRecDepth 16000 in
set_option maxHeartbeats 1000000 in
theorem leastServed_any (F : Fld) (gf : Nat) (lb : Array Value) (C : List (List Nat)) (p q : Nat) (w0 w : World) (hq : q ≤ w.heap.size)
    (eg : ∀ args w, (callFunc gf args).run Try.prog w = .ok (.enter gf args) w) (hseq : ListSeq Fence.wide 3 Try.prog gf lb (C.map up) p q w0) (hb0 : Below w0.heap.size w0 w)
    (hF : F.At w) (hg : F.good = true) (hC : ∀ T ∈ C, T ≠ [] ∧ ∀ m ∈ T, m < F.o.l.length) :
    Calls Try.prog 74 #[F.val, .func (.func gf) #[] lb] w fun e w' => ∃ t : Row, e = .returned (.slice t.a t.l.length t.c) ∧ Best1 w.heap.size w' t (firstB (servT F) C) ∧ Below w.heap.size w w' := by
  obtain ⟨wA, hA, hbA, bx, hFA, hszA⟩ := laid_fld F w 29 hF
  have CL := Lib.hid (callsIn_wide.1 (firstLeast_in 4 (Nat.le_refl _) F gf lb C w.heap.size p q w0 wA (Nat.le_trans hq hbA.size) eg hseq (hb0.trans (hbA.mono hb0.size)) hFA bx hg hC))
  have HA := Lib.hid hA
  clear hF hA hFA bx eg hseq hb0 hC
  show Calls _ _ #[.agg #[F.o.val, F.t.val], _] w _
  go_enter Try.func74, Try.ntmps74
  go_wp2_with fail
  rw [show w.alloc (Obj.cells #[F.o.val, F.t.val] 29) = wA from HA.out.symm]
  refine (show Calls _ _ _ _ _ from CL.out).mono ?_
  rintro e W ⟨t, rfl, ht, hb⟩
  have HT := Lib.hid ht
  clear ht
  go_wp2
  go_ret
  exact ⟨t, rfl, ⟨HT.out.l, HT.out.own, HT.out.ins.wide hbA.size (Nat.le_refl _)⟩, hbA.trans (hb.mono hbA.size)⟩

set_option maxRecDepth 16000 in
set_option maxHeartbeats 1000000 in
theorem hasSites_any (F : Fld) (k : Int) (w : World) (hF : F.At w) :
    Calls Try.prog 63 #[F.val, .int .i64 k] w fun e w' => e = .returned (.bool (kB F k)) ∧ Below w.heap.size w w' := by
  obtain ⟨wA, hA, hbA, bx, hFA, hszA⟩ := laid_fld F w 29 hF
  have HBX := Lib.hid bx
  have HA := Lib.hid hA
  obtain ⟨g, hg⟩ : ∃ g, g = F.good := ⟨_, rfl⟩
  have CG := implIsField_any F wA hFA
  rw [← hg] at CG
  have CG1 := Lib.hid CG
  have HK : Hid (kB F k = (g && (decide (1 ≤ k) && decide (k ≤ (F.o.l.length : Int))))) := Lib.hid (by rw [hg]; rfl)
  have x0 := bx.c0
  have x1 := bx.c1
  rw [hA] at x0 x1
  clear hF hA hFA bx hg CG
  show Calls _ _ #[.agg #[F.o.val, F.t.val], _] w _
  go_enter Try.func63, Try.ntmps63
  go_wp2_with fail
  rw [show w.alloc (Obj.cells #[F.o.val, F.t.val] 29) = wA from HA.out.symm]
  refine (show Calls _ _ _ _ _ from CG1.out).mono ?_
  rintro e W1 ⟨rfl, hb1⟩
  clear x0 x1
  cases g with
  | false =>
    go_wp2
    go_ret
    exact ⟨by rw [HK.out]; rfl, hbA.trans (hb1.mono hbA.size)⟩
  | true =>
    have y0 : W1.cell? ⟨w.heap.size, 0, none⟩ = some (.slice F.o.a F.o.l.length F.o.c) := (HBX.out.on hb1).c0
    by_cases h1 : 1 ≤ k
    · go_wp2
      go_ret
      exact ⟨by rw [HK.out, decide_eq_true h1]; simp, hbA.trans (hb1.mono hbA.size)⟩
    · have h1' : ¬ k ≥ 1 := h1
      have HE : Hid (kB F k = false) := Lib.hid (by rw [HK.out, decide_eq_false (by omega : ¬ 1 ≤ k)]; rfl)
      go_wp2
      go_ret
      exact ⟨by rw [HE.out]; rfl, hbA.trans (hb1.mono hbA.size)⟩

end Go.Proofs.Ythabpdfbpdokjaa
