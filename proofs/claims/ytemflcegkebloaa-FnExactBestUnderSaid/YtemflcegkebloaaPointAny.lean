/- The point of a set, and what is asked of it: the program's side. Condition: a valid Field and a set of its sites. -/
import Derived.Test.YtemflcegkebloaaPointFn1
import Derived.Test.YtemflcegkebloaaPointFn2
import Derived.Test.YtemflcegkebloaaPointFn3
import Derived.Test.YtemflcegkebloaaPointFn4
import Derived.Test.YtemflcegkebloaaPointFn5
namespace Go.Proofs.Ytemflcegkebloaa
open Go.RowKit

set_option maxRecDepth 16000 in
theorem pt_any (F : Fld) (s : Row) (T : List Nat) (a b : Int) (b1 b2 g1 g2 : Nat) (f1 f2 : Value) (w : World) (hF : F.At w) (hs : s.At w) (hf : Fine F s T) (ha : Able F s T) (bx1 : Box2 w g1 F.o.val F.t.val 29) (bx2 : Box2 w g2 F.o.val F.t.val 29)
    (o1 : ObjFn a g1 f1) (o2 : ObjFn b g2 f2) (c1 : w.cell? ⟨b1, 0, none⟩ = some f1) (c2 : w.cell? ⟨b2, 0, none⟩ = some f2) :
    Calls Try.prog 54 #[.slice s.a s.l.length s.c, .pointer (some ⟨b1, 0, none⟩), .pointer (some ⟨b2, 0, none⟩)] w fun e w' => e = .returned (.agg #[.int .i64 (objV F T a), .int .i64 (objV F T b)]) ∧ Below w.heap.size w w' := by
  rcases o1 with ⟨rfl, rfl⟩ | ⟨rfl, rfl⟩ | ⟨rfl, rfl⟩ | ⟨rfl, rfl⟩ | ⟨rfl, rfl⟩ <;> rcases o2 with ⟨rfl, rfl⟩ | ⟨rfl, rfl⟩ | ⟨rfl, rfl⟩ | ⟨rfl, rfl⟩ | ⟨rfl, rfl⟩
  · exact pt11_any F s T b1 b2 g1 g2 w hF hs hf ha bx1 bx2 c1 c2
  · exact pt12_any F s T b1 b2 g1 g2 w hF hs hf ha bx1 bx2 c1 c2
  · exact pt13_any F s T b1 b2 g1 g2 w hF hs hf ha bx1 bx2 c1 c2
  · exact pt14_any F s T b1 b2 g1 g2 w hF hs hf ha bx1 bx2 c1 c2
  · exact pt15_any F s T b1 b2 g1 g2 w hF hs hf ha bx1 bx2 c1 c2
  · exact pt21_any F s T b1 b2 g1 g2 w hF hs hf ha bx1 bx2 c1 c2
  · exact pt22_any F s T b1 b2 g1 g2 w hF hs hf ha bx1 bx2 c1 c2
  · exact pt23_any F s T b1 b2 g1 g2 w hF hs hf ha bx1 bx2 c1 c2
  · exact pt24_any F s T b1 b2 g1 g2 w hF hs hf ha bx1 bx2 c1 c2
  · exact pt25_any F s T b1 b2 g1 g2 w hF hs hf ha bx1 bx2 c1 c2
  · exact pt31_any F s T b1 b2 g1 g2 w hF hs hf ha bx1 bx2 c1 c2
  · exact pt32_any F s T b1 b2 g1 g2 w hF hs hf ha bx1 bx2 c1 c2
  · exact pt33_any F s T b1 b2 g1 g2 w hF hs hf ha bx1 bx2 c1 c2
  · exact pt34_any F s T b1 b2 g1 g2 w hF hs hf ha bx1 bx2 c1 c2
  · exact pt35_any F s T b1 b2 g1 g2 w hF hs hf ha bx1 bx2 c1 c2
  · exact pt41_any F s T b1 b2 g1 g2 w hF hs hf ha bx1 bx2 c1 c2
  · exact pt42_any F s T b1 b2 g1 g2 w hF hs hf ha bx1 bx2 c1 c2
  · exact pt43_any F s T b1 b2 g1 g2 w hF hs hf ha bx1 bx2 c1 c2
  · exact pt44_any F s T b1 b2 g1 g2 w hF hs hf ha bx1 bx2 c1 c2
  · exact pt45_any F s T b1 b2 g1 g2 w hF hs hf ha bx1 bx2 c1 c2
  · exact pt51_any F s T b1 b2 g1 g2 w hF hs hf ha bx1 bx2 c1 c2
  · exact pt52_any F s T b1 b2 g1 g2 w hF hs hf ha bx1 bx2 c1 c2
  · exact pt53_any F s T b1 b2 g1 g2 w hF hs hf ha bx1 bx2 c1 c2
  · exact pt54_any F s T b1 b2 g1 g2 w hF hs hf ha bx1 bx2 c1 c2
  · exact pt55_any F s T b1 b2 g1 g2 w hF hs hf ha bx1 bx2 c1 c2

theorem idx0 (u v : Int) (W : World) : (Instr.index 58 (.agg #[.int .i64 u, .int .i64 v]) (.int .i64 0)).run Try.prog W = .ok (.int .i64 u) W := by kernel_rfl
theorem idx1 (u v : Int) (W : World) : (Instr.index 58 (.agg #[.int .i64 u, .int .i64 v]) (.int .i64 1)).run Try.prog W = .ok (.int .i64 v) W := by kernel_rfl

set_option maxRecDepth 16000 in
set_option maxHeartbeats 1000000 in
theorem under2_any (x0 : Value) (b1 b2 B : Nat) (u v : Int) (w : World) (CP : Calls Try.prog 54 #[x0, .pointer (some ⟨b1, 0, none⟩), .pointer (some ⟨b2, 0, none⟩)] w fun e w' => e = .returned (.agg #[.int .i64 u, .int .i64 v]) ∧ Below w.heap.size w w')
    (hB : w.cell? ⟨B, 0, none⟩ = some (.func (.func 54) #[] #[.pointer (some ⟨b1, 0, none⟩), .pointer (some ⟨b2, 0, none⟩)])) :
    Calls Try.prog 37 #[x0, .pointer (some ⟨B, 0, none⟩)] w fun e w' => e = .returned (.int .i64 u) ∧ Below w.heap.size w w' := by
  have C := Lib.hid CP
  have hix := idx0 u v
  clear CP
  go_enter Try.func37, Try.ntmps37
  go_wp2_with fail
  refine (show Calls _ _ _ _ _ from C.out).mono ?_
  rintro e W ⟨rfl, hb⟩
  clear hB
  go_wp2
  go_ret
  exact ⟨rfl, hb⟩

set_option maxRecDepth 16000 in
set_option maxHeartbeats 1500000 in
theorem under1_any (x0 : Value) (b1 b2 B L : Nat) (u v lim : Int) (w : World) (CP : ∀ W, Below w.heap.size w W → Calls Try.prog 54 #[x0, .pointer (some ⟨b1, 0, none⟩), .pointer (some ⟨b2, 0, none⟩)] W fun e w' => e = .returned (.agg #[.int .i64 u, .int .i64 v]) ∧ Below W.heap.size W w')
    (hB : w.cell? ⟨B, 0, none⟩ = some (.func (.func 54) #[] #[.pointer (some ⟨b1, 0, none⟩), .pointer (some ⟨b2, 0, none⟩)])) (hL : w.cell? ⟨L, 0, none⟩ = some (.int .i64 lim)) :
    Calls Try.prog 35 #[x0, .pointer (some ⟨B, 0, none⟩), .pointer (some ⟨L, 0, none⟩)] w fun e w' => e = .returned (.bool (decide (v ≤ lim))) ∧ Below w.heap.size w w' := by
  have C := Lib.hid CP
  have HS : Hid (∀ W, Below w.heap.size w W → ((W.cell? ⟨B, 0, none⟩ = some (.func (.func 54) #[] #[.pointer (some ⟨b1, 0, none⟩), .pointer (some ⟨b2, 0, none⟩)]) ∧ W.cell? ⟨L, 0, none⟩ = some (.int .i64 lim)) ∧ Below w.heap.size w W)) := Lib.hid fun W hW => ⟨⟨(hW.cell (p := ⟨B, 0, none⟩) (World.block_lt_of_cell? _ _ hB)).trans hB, (hW.cell (p := ⟨L, 0, none⟩) (World.block_lt_of_cell? _ _ hL)).trans hL⟩, hW⟩
  have s0 := HS.out w.drew (Below.refl _ _).drew
  have hix := idx1 u v
  clear CP hB hL
  go_enter Try.func35, Try.ntmps35
  go_wp2_with fail
  go_region_held3 (fun W => ((W.cell? ⟨B, 0, none⟩ = some (.func (.func 54) #[] #[.pointer (some ⟨b1, 0, none⟩), .pointer (some ⟨b2, 0, none⟩)]) ∧ W.cell? ⟨L, 0, none⟩ = some (.int .i64 lim)) ∧ Below w.heap.size w W)) (first | exact s0 | exact keep_reg HS.out (by first | assumption | exact And.right (by assumption)) hb1) (first | (go_at_call 54; refine (show Calls _ _ _ _ _ from C.out _ (by first | assumption | exact And.right (by assumption))).mono ?_; rintro e u1 ⟨rfl, hb1⟩))
  refine at_exit (W := w) (by first | assumption | exact And.right (by assumption)) ?_
  intro W8 hb8
  clear s0
  go_wp2
  go_ret
  exact ⟨rfl, hb8⟩
end Go.Proofs.Ytemflcegkebloaa
