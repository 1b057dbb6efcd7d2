/- Equal costs, and which of two picks is better. Condition: at most seven sites; numbers within bounds. -/
import Derived.Test.YtbochmpkjacnnaaRepeat
import Derived.Test.YtbochmpkjacnnaaSysMem
import Derived.Test.YtbochmpkjacnnaaPlainGreedG
namespace Go.Proofs.Ytbochmpkjacnnaa
open Go.RowKit

set_option maxRecDepth 32000 in
set_option maxHeartbeats 1500000 in
theorem equalCosts_any (F : Fld) (w : World) (hm : F.o.l.length ≤ 7) :
    Calls Try.prog 51 #[.agg #[.slice F.o.a F.o.l.length F.o.c, .slice F.t.a F.t.R.length F.t.c]] w fun e w' => ∃ t : Row, e = .returned (.slice t.a t.l.length t.c) ∧ t.l = List.replicate F.o.l.length 1 ∧ t.In w.heap.size w'.heap.size w' ∧ Below w.heap.size w w' := by
  obtain ⟨m, hmm⟩ : ∃ m, m = F.o.l.length := ⟨_, rfl⟩
  obtain ⟨wA, hA⟩ : ∃ u, u = w.alloc (Obj.cells #[.slice F.o.a m F.o.c, .slice F.t.a F.t.R.length F.t.c] 29) := ⟨_, rfl⟩
  have bxA : Box2 wA w.heap.size (.slice F.o.a m F.o.c) (.slice F.t.a F.t.R.length F.t.c) 29 := by rw [hA]; exact Box2.made w _ _ _
  have hszA : wA.heap.size = w.heap.size + 1 := by rw [hA, size_alloc]
  obtain ⟨wB, hB⟩ : ∃ u, u = wA.alloc (.cells #[.int .i64 1] 3) := ⟨_, rfl⟩
  have hb : Below w.heap.size w wB := by rw [hB, hA]; exact ((Below.refl _ _).alloc (Nat.le_refl _) _).alloc (by rw [size_alloc]; omega) _
  have hsz : wB.heap.size = w.heap.size + 2 := by rw [hB, size_alloc, hszA]
  have bx : Box2 wB w.heap.size (.slice F.o.a m F.o.c) (.slice F.t.a F.t.R.length F.t.c) 29 := by rw [hB]; exact bxA.later _
  have hrow : wB.ownsRow (w.heap.size + 1) 3 1 (.slice (some ⟨w.heap.size + 1, 0, none⟩) 1 1) ([1] : List Int).length (iv [1]) := by
    rw [hB]
    have h : (wA.alloc (.cells #[.int .i64 1] 3)).ownsRow wA.heap.size 3 1 (.slice (some ⟨wA.heap.size, 0, none⟩) 1 1) ([1] : List Int).length (iv [1]) := World.ownsRow_lit wA #[.int .i64 1] 1 (Nat.le_refl _) (by decide) rfl
    rw [hszA] at h
    exact h
  have hra := row_of_owns hrow
  have CR := Lib.hid (repeatOne_any ⟨some ⟨w.heap.size + 1, 0, none⟩, 1, [1]⟩ m wB hra rfl (by omega))
  have HB : Hid ((w.alloc (Obj.cells #[.slice F.o.a m F.o.c, .slice F.t.a F.t.R.length F.t.c] 29)).alloc (.cells #[.int .i64 1] 3) = wB) := Lib.hid (by rw [hB, hA])
  have HBX := Lib.hid bx
  have HBB := Lib.hid hb
  have HSZ := Lib.hid hsz
  have hmi : (m : Int) ≤ 7 := by omega
  have y0 := bx.c0
  rw [← hmm]
  clear hB hA bx bxA hb hrow hra hszA hsz hmm hm
  go_enter Try.func51, Try.ntmps51
  go_wp2_with fail
  rw [HB.out]
  go_wp2_with fail
  refine (show Calls _ _ _ _ _ from CR.out).mono ?_
  rintro e w2 ⟨t, rfl, htl, -, hti, hb2⟩
  have HT := Lib.hid htl
  have HI := Lib.hid hti
  have H2 := Lib.hid hb2
  clear htl hti hb2 y0
  go_wp2
  go_ret
  exact ⟨t, rfl, HT.out, HI.out.wide (by have := HSZ.out; omega) (Nat.le_refl _), HBB.out.trans (H2.out.mono (by have := HSZ.out; omega))⟩

set_option maxRecDepth 32000 in
set_option maxHeartbeats 1500000 in
theorem isBetter_any (s g c s' g' c' : Int) (w : World) (h0 : 0 ≤ g ∧ g ≤ 6993) (h1 : 0 ≤ c ∧ c ≤ 1000) (h2 : 0 ≤ g' ∧ g' ≤ 6993) (h3 : 0 ≤ c' ∧ c' ≤ 1000) :
    Calls Try.prog 93 #[.agg #[.int .i64 s, .int .i64 g, .int .i64 c], .agg #[.int .i64 s', .int .i64 g', .int .i64 c']] w fun e w' => e = .returned (.bool (decide (g * c' > g' * c))) ∧ Below w.heap.size w w' := by
  obtain ⟨wA, hA⟩ : ∃ u, u = w.alloc (Obj.cells #[.int .i64 s, .int .i64 g, .int .i64 c] 87) := ⟨_, rfl⟩
  obtain ⟨wB, hB⟩ : ∃ u, u = wA.alloc (Obj.cells #[.int .i64 s', .int .i64 g', .int .i64 c'] 87) := ⟨_, rfl⟩
  have hszA : wA.heap.size = w.heap.size + 1 := by rw [hA, size_alloc]
  have hb : Below w.heap.size w wB := by rw [hB, hA]; exact ((Below.refl _ _).alloc (Nat.le_refl _) _).alloc (by rw [size_alloc]; omega) _
  have b1 : Box3 wB w.heap.size (.int .i64 s) (.int .i64 g) (.int .i64 c) 87 := by rw [hB, hA]; exact (Box3.made w _ _ _ _).later _
  have b2 : Box3 wB (w.heap.size + 1) (.int .i64 s') (.int .i64 g') (.int .i64 c') 87 := by rw [hB, ← hszA]; exact Box3.made wA _ _ _ _
  have HB : Hid ((w.alloc (Obj.cells #[.int .i64 s, .int .i64 g, .int .i64 c] 87)).alloc (Obj.cells #[.int .i64 s', .int .i64 g', .int .i64 c'] 87) = wB) := Lib.hid (by rw [hB, hA])
  have m1 : 0 ≤ g * c' ∧ g * c' ≤ 6993 * 1000 := ⟨Int.mul_nonneg h0.1 h3.1, Int.mul_le_mul h0.2 h3.2 h3.1 (by omega)⟩
  have m2 : 0 ≤ g' * c ∧ g' * c ≤ 6993 * 1000 := ⟨Int.mul_nonneg h2.1 h1.1, Int.mul_le_mul h2.2 h1.2 h1.1 (by omega)⟩
  obtain ⟨p, hp⟩ : ∃ p, p = g * c' := ⟨_, rfl⟩
  obtain ⟨q, hq⟩ : ∃ q, q = g' * c := ⟨_, rfl⟩
  have w1 : IntKind.i64.wrap (g * c') = p := by rw [hp]; exact IntWalk.i64_in _ (by omega)
  have w2 : IntKind.i64.wrap (g' * c) = q := by rw [hq]; exact IntWalk.i64_in _ (by omega)
  have y1 := b1.c1
  have y2 := b1.c2
  have z1 := b2.c1
  have z2 := b2.c2
  have HBB := Lib.hid hb
  rw [← hp, ← hq]
  clear hA hB hszA hb b1 b2 m1 m2 hp hq h0 h1 h2 h3
  go_enter Try.func93, Try.ntmps93
  go_wp2_with fail
  rw [HB.out]
  go_wp2
  go_ret
  exact ⟨rfl, HBB.out⟩
end Go.Proofs.Ytbochmpkjacnnaa
