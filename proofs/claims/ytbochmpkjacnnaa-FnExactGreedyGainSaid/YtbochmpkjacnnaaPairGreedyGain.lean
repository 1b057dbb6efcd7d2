/- GreedyGain, both sides together. Condition: the arguments read as such. -/
import Derived.Test.YtbochmpkjacnnaaRepeat
import Derived.Laws.MathBits
import Derived.Test.YtbochmpkjacnnaaGreedyUnderS
import Derived.Test.YtbochmpkjacnnaaGreedSpec
namespace Go.Proofs.Ytbochmpkjacnnaa
open Go.RowKit

theorem mul_shape (m : Int) (h0 : 0 ≤ m) (h1 : m ≤ 1048576) (a b d : Int) (ha : a = 1) (hb : b = m) (hd : d = m / 4294967296) : 
    IntKind.u64.wrap (a * b) = m ∧ IntKind.u64.wrap (a * d) = 0 ∧ IntKind.u64.wrap (m / 4294967296) = 0 := by
  subst ha hb hd
  have e : b / 4294967296 = 0 := Int.ediv_eq_zero_of_lt h0 (by omega)
  rw [e, Int.one_mul, Int.one_mul]
  exact ⟨IntWalk.u64_in _ (by omega), IntWalk.u64_in _ (by omega), IntWalk.u64_in _ (by omega)⟩
set_option maxRecDepth 16000 in
set_option maxHeartbeats 1000000 in
theorem mul64_low (m : Nat) (hm : m ≤ 1048576) (w : World) :
    Calls Try.prog 112 #[.int .u64 1, .int .u64 (m : Int)] w fun e w' => e = .returned (.tuple #[.int .u64 0, .int .u64 (m : Int)]) ∧ w' = w := by
  have hmi : (m : Int) ≤ 1048576 := by omega
  have e1 : bits BinOp.and IntKind.u64 1 4294967295 = 1 := by rw [and_low32 _ (by omega) (by omega)]; rfl
  have e2 : bits BinOp.and IntKind.u64 (m : Int) 4294967295 = (m : Int) := by rw [and_low32 _ (by omega) (by omega)]; omega
  have e3 : (m : Int) / 4294967296 = 0 := Int.ediv_eq_zero_of_lt (by omega) (by omega)
  have e4 : bits BinOp.and IntKind.u64 0 4294967295 = 0 := by rw [and_low32 _ (by omega) (by omega)]; rfl
  have e5 : IntKind.u64.wrap (m : Int) = (m : Int) := IntWalk.u64_in _ (by omega)
  have e6 : IntKind.u64.wrap 0 = 0 := IntWalk.u64_in _ (by omega)
  have e7 : IntKind.u64.wrap (IntKind.u64.wrap (IntKind.u64.wrap (IntKind.u64.wrap (bits BinOp.and IntKind.u64 1 4294967295 * bits BinOp.and IntKind.u64 (m : Int) 4294967295) / 4294967296) / 4294967296) + IntKind.u64.wrap (bits BinOp.and IntKind.u64 (IntKind.u64.wrap (IntKind.u64.wrap (bits BinOp.and IntKind.u64 1 4294967295 * bits BinOp.and IntKind.u64 (m : Int) 4294967295) / 4294967296)) 4294967295 + IntKind.u64.wrap (bits BinOp.and IntKind.u64 1 4294967295 * ((m : Int) / 4294967296))) / 4294967296) = 0 := by
    rw [e1, e2, Int.one_mul, e5, e3, e6, e4]
    decide
  have E7 := Lib.hid e7
  clear e1 e2 e3 e4 e5 e6 e7
  go_enter Try.func112, Try.ntmps112
  go_wp2
  go_ret2
  exact ⟨congrArg (fun z => Ending.returned (.tuple #[.int .u64 z, .int .u64 (m : Int)])) E7.out, rfl⟩

set_option maxRecDepth 16000 in
set_option maxHeartbeats 1000000 in
theorem mul_low (m : Nat) (hm : m ≤ 1048576) (w : World) :
    Calls Try.prog 95 #[.int .u64 1, .int .u64 (m : Int)] w fun e w' => e = .returned (.tuple #[.int .u64 0, .int .u64 (m : Int)]) ∧ w' = w := by
  have C := Lib.hid (mul64_low m hm w)
  have hmi : (m : Int) ≤ 1048576 := by omega
  clear hm
  go_enter Try.func95, Try.ntmps95
  go_wp2_with fail
  refine C.out.mono ?_
  rintro e W ⟨rfl, rfl⟩
  go_wp2
  go_ret2
  exact ⟨rfl, rfl⟩


set_option maxRecDepth 16000 in
set_option maxHeartbeats 2000000 in
theorem repeatOnes_any (r : Row) (m : Nat) (w : World) (hr : r.At w) (hrl : r.l = [1]) (hm : m ≤ 1048576) :
    Calls Try.prog 81 #[.slice r.a r.l.length r.c, .int .i64 (m : Int)] w fun e w' => ∃ t : Row, e = .returned (.slice t.a t.l.length t.c) ∧ t.l = List.replicate m 1 ∧ t.Own 3 w' ∧ t.In w.heap.size w'.heap.size w' ∧ Below w.heap.size w w' := by
  obtain ⟨a, c, l⟩ := r
  simp only at hrl
  subst hrl
  obtain ⟨q1, q2, q3⟩ := hr
  rcases q3 with h3 | ⟨b, o, ha, hb, hcell⟩
  · exact absurd (iv_nil h3) (by simp)
  simp only at ha q1 q2
  subst ha
  have hc0 := hcell 0 (.int .i64 1) rfl
  have CM := Lib.hid (mul_low m hm w)
  have hmi : (m : Int) ≤ 1048576 := by omega
  have hmk := run_make_row' (P := Try.prog) 22 3 (.int .i64 0) 8 Try.underlying22 infoIntW rfl .i64 .i64 m (by omega) (by omega)
  obtain ⟨W1, hW1⟩ : ∃ u, u = w.alloc (.cells (madeCells #[.int .i64 0] m) 3) := ⟨_, rfl⟩
  have hg1 : W1.heap[w.heap.size]? = some (.cells (iv (ones m 0)).toArray 3 (0, 0)) := by
    rw [hW1]
    have h := heap_alloc_new w (.cells (madeCells #[.int .i64 0] m) 3)
    rw [h]
    have h2 : (madeCells #[Value.int .i64 0] m).toList = List.replicate m (Value.int .i64 0) := made_row _ _
    have h3 : iv (ones m 0) = List.replicate m (Value.int .i64 0) := by unfold ones iv; simp
    rw [h3, ← h2]
  have HB1 : Hid (Below w.heap.size w W1) := Lib.hid (by rw [hW1]; exact below_alloc _ _)
  obtain ⟨k0, hk0⟩ : ∃ k0, k0 = Nat.min 1 m := ⟨_, rfl⟩
  have hk01 : k0 ≤ m := by rw [hk0]; exact Nat.min_le_right _ _
  have hk02 : 0 < m → 1 ≤ k0 := fun h => by rw [hk0]; exact Nat.le_min.2 ⟨Nat.le_refl _, h⟩
  have hk03 : k0 ≤ 1 := by rw [hk0]; exact Nat.min_le_left _ _
  obtain ⟨w2, hr1, hg2, hb2⟩ := copy_run W1 w 3 w.heap.size 0 w.heap.size m 1 m c ⟨b, o, none⟩ (iv (ones m 0)) (iv (List.replicate k0 1)) hg1 (by rw [iv_length, List.length_replicate, hk0])
    (fun j v hv => by
      have hj := (List.getElem?_eq_some_iff.1 hv).1
      rw [iv_length, List.length_replicate] at hj
      obtain rfl : j = 0 := by omega
      have hv1 : v = .int .i64 1 := by
        have := (List.getElem?_eq_some_iff.1 hv).2
        rw [← this]; simp [iv]
      rw [hv1, addr_at]
      exact (HB1.out.cell (p := ⟨b, o + 0, none⟩) hb).trans hc0)
    (by rw [iv_length, iv_length, List.length_replicate, ones_len (Nat.zero_le _)]; omega) (iv_ones_one _) HB1.out (Nat.le_refl _)
  rw [hW1, iv_length, List.length_replicate] at hr1
  have h4 := ones_splice (m := m) (k := 0) (c := k0) (by omega)
  rw [Nat.zero_add] at h4
  rw [h4] at hg2
  have HG2 := Lib.hid hg2
  have HB2 := Lib.hid hb2
  have hk0i : (k0 : Int) ≤ 1 := by omega
  have HK := Lib.hid hk02
  have HK1 := Lib.hid hk01
  clear hcell hg1 hW1 hg2 hb2 h4 hk02 hk0 hc0
  show Calls _ _ #[.slice (some ⟨b, o, none⟩) 1 c, .int .i64 (m : Int)] w _
  go_enter Try.func81, Try.ntmps81
  go_wp2_with fail
  refine (show Calls _ _ #[.int .u64 1, .int .u64 (m : Int)] _ _ from CM.out).mono ?_
  rintro e W ⟨rfl, rfl⟩
  go_wp2
  go_loopw [8] (fun nv wr => ∃ k : Nat, k ≤ m ∧ nv = .int .i64 (k : Int) ∧ (0 < m → 1 ≤ k) ∧ wr.heap[W.heap.size]? = some (.cells (iv (ones m k)).toArray 3 (0, 0)) ∧ Below W.heap.size W wr) (fun nv _ => m - (intOf nv).toNat)
  case atStart => exact ⟨k0, HK1.out, rfl, HK.out, HG2.out, HB2.out⟩
  case round =>
    obtain ⟨k, hk, rfl, hk1, hg, hnx⟩ := hrel
    by_cases hlt : k < m
    · have hlti : (k : Int) < (m : Int) := by omega
      obtain ⟨e, he⟩ : ∃ e, e = Nat.min k (m - k) := ⟨_, rfl⟩
      have he1 : 1 ≤ e := by rw [he]; exact Nat.le_min.2 ⟨hk1 (by omega), by omega⟩
      have he2 : e ≤ k := by rw [he]; exact Nat.min_le_left _ _
      have he3 : k + e ≤ m := by have : e ≤ m - k := by rw [he]; exact Nat.min_le_right _ _
                                 omega
      have hbl : W.heap.size < wr.heap.size := (Array.getElem?_eq_some_iff.1 hg).1
      obtain ⟨w4, hr4, hg4, hb4⟩ := copy_run wr.drew W 3 W.heap.size k W.heap.size (m - k) k (m - k) m ⟨W.heap.size, 0, none⟩ (iv (ones m k)) (iv (List.replicate e 1)) hg (by rw [iv_length, List.length_replicate, he])
        (fun j v hv => by
          have h1 := ones_at (m := m) he2 hv
          have hj := (List.getElem?_eq_some_iff.1 h1).1
          rw [addr_at, Nat.zero_add]
          show wr.cell? ⟨W.heap.size, j, none⟩ = some v
          unfold World.cell?
          simp only [hg]
          simpa using h1)
        (by rw [iv_length, iv_length, List.length_replicate, ones_len hk]; exact he3) (iv_ones_one _) hnx.drew (Nat.le_refl _)
      rw [iv_length, List.length_replicate] at hr4
      rw [ones_splice he3] at hg4
      have HG4 := Lib.hid hg4
      have HB4 := Lib.hid hb4
      have hei : (e : Int) ≤ 1048576 := by omega
      clear hg hg4 hb4 hnx he he2
      go_wp2
      go_region
      all_goals
        go_wp2
        go_roundw
        case rel => exact ⟨k + e, he3, by go_num, fun _ => by omega, HG4.out, HB4.out⟩
        case measure => simp [intOf]; omega
    · obtain rfl : k = m := by omega
      have HG := Lib.hid hg
      have HB := Lib.hid hnx
      clear hg hnx
      go_wp2
      go_ret
      have hl : (ones k k).length = k := ones_len (Nat.le_refl _)
      have h1 : ones k k = List.replicate k 1 := by unfold ones; simp
      have ho := row_of_block HG.out (Nat.le_refl _) (by rw [hl]; unfold maxLen; omega)
      obtain ⟨t, ht, htl, hto, hti⟩ := row_of_own ho
      rw [hl] at ht
      exact ⟨t, congrArg Ending.returned ht, by rw [htl, h1], hto, hti, HB.out⟩

end Go.Proofs.Ytbochmpkjacnnaa

namespace Go.Proofs.Ytbochmpkjacnnaa
open Go.RowKit Go.Shelf

theorem l8K_any (k : Int) (w : World) :
    Calls Try.prog 38 #[.int .i64 k] w fun e w' => e = .returned (.bool (decide (0 ≤ k) && decide (k ≤ 7))) ∧ w' = w := by
  have CI := Lib.hid (l1In_any k 0 7 w)
  go_enter Try.func38, Try.ntmps38
  go_wp2_with fail
  refine (show Calls _ _ _ _ _ from CI.out).mono ?_
  rintro e W1 ⟨rfl, rfl⟩
  go_wp2
  go_ret
  exact ⟨rfl, rfl⟩

theorem sizeValid_any (k : Int) (w : World) :
    Calls Try.prog 56 #[.int .i64 k] w fun e w' => e = .returned (.bool (decide (0 ≤ k) && decide (k ≤ 7))) ∧ Below w.heap.size w w' := by
  by_cases h0 : 0 ≤ k
  · have h0' : k ≥ 0 := h0
    have HE : Hid ((decide (0 ≤ k) && decide (k ≤ 7)) = decide (k ≤ 7)) := Lib.hid (by rw [decide_eq_true h0]; rfl)
    go_enter Try.func56, Try.ntmps56
    go_wp2
    go_ret
    exact ⟨by rw [HE.out]; rfl, Below.refl _ _⟩
  · have h0' : ¬ k ≥ 0 := h0
    have HE : Hid ((decide (0 ≤ k) && decide (k ≤ 7)) = false) := Lib.hid (by rw [decide_eq_false h0]; rfl)
    go_enter Try.func56, Try.ntmps56
    go_wp2
    go_ret
    exact ⟨by rw [HE.out]; rfl, Below.refl _ _⟩
theorem sizeAllows_any (k : Nat) (x : Row) (T : List Nat) (w : World) (hT : x.l = up T) (hT8 : T.length ≤ 8) (_ : k ≤ 7) :
    Calls Try.prog 139 #[.int .i64 (k : Int), .slice x.a x.l.length x.c] w fun e w' => e = .returned (.bool (decide (T.length ≤ k))) ∧ Below w.heap.size w w' := by
  have hx : x.l.length = T.length := by rw [hT, up_length]
  have HE : Hid (decide (T.length ≤ k) = decide (x.l.length ≤ k)) := Lib.hid (by rw [hx])
  have HE2 : Hid (decide (T.length ≤ k) = decide ((x.l.length : Int) ≤ (k : Int))) := Lib.hid (by rw [hx]; simp)
  have hi : (x.l.length : Int) ≤ 8 := by omega
  clear hT hx
  go_enter Try.func139, Try.ntmps139
  go_wp2
  go_ret
  exact ⟨by first | (rw [HE.out]; rfl) | (rw [HE2.out]; rfl), Below.refl _ _⟩

set_option maxRecDepth 32000 in
set_option maxHeartbeats 1500000 in
theorem equalCostsW_any (F : Fld) (w : World) (hm : F.o.l.length ≤ 1048576) :
    Calls Try.prog 51 #[.agg #[.slice F.o.a F.o.l.length F.o.c, .slice F.t.a F.t.R.length F.t.c]] w fun e w' => ∃ t : Row, e = .returned (.slice t.a t.l.length t.c) ∧ t.l = List.replicate F.o.l.length 1 ∧ t.In w.heap.size w'.heap.size w' ∧ Below w.heap.size w w' := by
  obtain ⟨m, hmm⟩ : ∃ m, m = F.o.l.length := ⟨_, rfl⟩
  obtain ⟨wA, hA⟩ : ∃ u, u = w.alloc (Obj.cells #[.slice F.o.a m F.o.c, .slice F.t.a F.t.R.length F.t.c] 29) := ⟨_, rfl⟩
  have bxA : Box2 wA w.heap.size (.slice F.o.a m F.o.c) (.slice F.t.a F.t.R.length F.t.c) 29 := by rw [hA]; exact Box2.made w _ _ _
  have hszA : wA.heap.size = w.heap.size + 1 := by rw [hA, size_alloc]
  obtain ⟨wB, hB⟩ : ∃ u, u = wA.alloc (.cells #[.int .i64 1] 3) := ⟨_, rfl⟩
  have hb : Below w.heap.size w wB := by rw [hB, hA]; exact ((Below.refl _ _).alloc (Nat.le_refl _) _).alloc (by rw [size_alloc]; omega) _
  have hsz : wB.heap.size = w.heap.size + 2 := by rw [hB, size_alloc, hszA]
  have bx : Box2 wB w.heap.size (.slice F.o.a m F.o.c) (.slice F.t.a F.t.R.length F.t.c) 29 := by rw [hB]; exact bxA.later _
  have hrow : wB.ownsRow (w.heap.size + 1) 3 1 (.slice (some ⟨w.heap.size + 1, 0, none⟩) 1 1) ([1] : List Int).length (iv [1]) := by
    rw [hB]
    have h : (wA.alloc (.cells #[.int .i64 1] 3)).ownsRow wA.heap.size 3 1 (.slice (some ⟨wA.heap.size, 0, none⟩) 1 1) ([1] : List Int).length (iv [1]) := World.ownsRow_lit wA #[.int .i64 1] 1 (Nat.le_refl _) (by decide) rfl
    rw [hszA] at h
    exact h
  have hra := row_of_owns hrow
  have CR := Lib.hid (repeatOnes_any ⟨some ⟨w.heap.size + 1, 0, none⟩, 1, [1]⟩ m wB hra rfl (by omega))
  have HB : Hid ((w.alloc (Obj.cells #[.slice F.o.a m F.o.c, .slice F.t.a F.t.R.length F.t.c] 29)).alloc (.cells #[.int .i64 1] 3) = wB) := Lib.hid (by rw [hB, hA])
  have HBX := Lib.hid bx
  have HBB := Lib.hid hb
  have HSZ := Lib.hid hsz
  have hmi : (m : Int) ≤ 1048576 := by omega
  have y0 := bx.c0
  rw [← hmm]
  clear hB hA bx bxA hb hrow hra hszA hsz hmm hm
  go_enter Try.func51, Try.ntmps51
  go_wp2_with fail
  rw [HB.out]
  go_wp2_with fail
  refine (show Calls _ _ _ _ _ from CR.out).mono ?_
  rintro e w2 ⟨t, rfl, htl, -, hti, hb2⟩
  have HT := Lib.hid htl
  have HI := Lib.hid hti
  have H2 := Lib.hid hb2
  clear htl hti hb2 y0
  go_wp2
  go_ret
  exact ⟨t, rfl, HT.out, HI.out.wide (by have := HSZ.out; omega) (Nat.le_refl _), HBB.out.trans (H2.out.mono (by have := HSZ.out; omega))⟩


set_option maxRecDepth 32000 in
set_option maxHeartbeats 1500000 in
theorem specGreedyGain_any (F : Fld) (u : Int) (k : Int) (w : World) (hF : F.At w) (b : Bool) (hb0 : b = (worthB F u && (decide (0 ≤ k) && decide (k ≤ 7)))) (l : List Int) (hl0 : l = if b then up (grG F u F.o.l.length k.toNat) else []) :
    Calls Try.prog 25 #[.agg #[.slice F.o.a F.o.l.length F.o.c, .slice F.t.a F.t.R.length F.t.c], .int .i64 u, .int .i64 k] w (PInts l b w) := by
  obtain ⟨wA, hA, hb, bx, hFA, hszA⟩ := laid_fld F w 29 hF
  obtain ⟨v, hv⟩ : ∃ v, v = worthB F u := ⟨_, rfl⟩
  have cg := l8Good_any F u wA hFA
  rw [← hv] at cg
  have CG := Lib.hid (show Calls Try.prog 37 #[.agg #[.slice F.o.a F.o.l.length F.o.c, .slice F.t.a F.t.R.length F.t.c], .int .i64 u] wA _ from cg)
  obtain ⟨q, hq⟩ : ∃ q, q = (decide (0 ≤ k) && decide (k ≤ 7)) := ⟨_, rfl⟩
  have CI := Lib.hid (fun W => by have := l8K_any k W; rw [← hq] at this; exact this : ∀ W, Calls Try.prog 38 #[.int .i64 k] W fun e w' => e = .returned (.bool q) ∧ w' = W)
  have HAK : Hid (b = (v && q)) := Lib.hid (by rw [hb0, hv, hq])
  have HA : Hid ((w.alloc (Obj.cells #[.slice F.o.a F.o.l.length F.o.c, .slice F.t.a F.t.R.length F.t.c] 29)) = wA) := Lib.hid hA.symm
  have x0 : wA.cell? ⟨w.heap.size, 0, none⟩ = some (.slice F.o.a F.o.l.length F.o.c) := bx.c0
  have x1 : wA.cell? ⟨w.heap.size, 1, none⟩ = some (.slice F.t.a F.t.R.length F.t.c) := bx.c1
  rw [hA] at x0 x1
  change (w.alloc (Obj.cells #[.slice F.o.a F.o.l.length F.o.c, .slice F.t.a F.t.R.length F.t.c] 29)).cell? _ = _ at x0 x1
  have HBX : Hid (Box2 wA w.heap.size (.slice F.o.a F.o.l.length F.o.c) (.slice F.t.a F.t.R.length F.t.c) 29) := Lib.hid bx
  have HFA := Lib.hid hFA
  have HB := Lib.hid hb
  have HL0 := Lib.hid hl0
  have HVW := Lib.hid hv
  have HQB := Lib.hid hq
  have HNO : Hid (∀ W, Below wA.heap.size wA W → b = false → PInts l b w (.returned (.tuple #[.slice (some ⟨W.heap.size, 0, none⟩) 0 0, .bool false])) (W.alloc (.cells #[] 3))) := Lib.hid (fun W hW h => by
    have hle : l = [] := by rw [hl0, h]; rfl
    rw [h, hle]
    obtain ⟨y0, hy0v, hy0l, hy0o, hy0i⟩ := row_of_own (l := []) (empty_own W)
    have hwW := hb.trans (hW.mono hb.size)
    exact ⟨y0, congrArg (fun z => Ending.returned (.tuple #[z, .bool false])) hy0v, hy0l, hy0o, hy0i.wide hwW.size (Nat.le_refl _), hwW.alloc hwW.size _⟩)
  clear hF hA hb bx hFA cg hb0 hl0 hv hq hszA
  go_enter Try.func25, Try.ntmps25
  go_wp2_with fail
  rw [HA.out]
  refine (show Calls _ _ _ _ _ from CG.out).mono ?_
  rintro e W1 ⟨rfl, hb1⟩
  have HB1 := Lib.hid hb1
  clear x0 x1
  cases v with
  | false =>
    have HE := Lib.hid (HNO.out W1 hb1 (by rw [HAK.out]; rfl))
    clear hb1
    go_wp2
    go_ret2
    exact HE.out
  | true =>
    clear hb1
    go_wp2_with fail
    refine (show Calls _ _ _ _ _ from CI.out _).mono ?_
    rintro e W ⟨rfl, rfl⟩
    cases q with
    | false =>
      have HE := Lib.hid (HNO.out W HB1.out (by rw [HAK.out]; rfl))
      go_wp2
      go_ret2
      exact HE.out
    | true =>
      have HBT : Hid (b = true) := Lib.hid HAK.out
      have hk0 : 0 ≤ k ∧ k ≤ 7 := by simpa using HQB.out.symm
      obtain ⟨kk, hkk⟩ : ∃ kk : Nat, k = kk := ⟨k.toNat, by omega⟩
      have hkn : k.toNat = kk := by omega
      have HKN := Lib.hid hkn
      subst hkk
      clear hkn
      have CS := Lib.hid (l8Greedy_any F u kk W (HFA.out.on HB1.out) HVW.out.symm (by omega))
      have bxW := HBX.out.on HB1.out
      have x0 := bxW.c0
      have x1 := bxW.c1
      have HLL : Hid (l = up (grG F u F.o.l.length kk)) := Lib.hid (by rw [HL0.out, HBT.out, HKN.out]; rfl)
      clear bxW
      go_wp2_with fail
      refine (show Calls _ _ _ _ _ from CS.out).mono ?_
      rintro e W2 ⟨t, rfl, htl, hto, hti, hb2⟩
      have HEND : Hid (PInts l b w (.returned (.tuple #[.slice t.a t.l.length t.c, .bool true])) W2) := Lib.hid (by
        have hwW := HB.out.trans (HB1.out.mono HB.out.size)
        rw [HBT.out, HLL.out]
        exact ⟨t, rfl, htl, hto, hti.wide hwW.size (Nat.le_refl _), hwW.trans (hb2.mono hwW.size)⟩)
      clear htl hto hti hb2 x0 x1
      go_wp2
      go_ret2
      exact HEND.out

theorem gRun_start (F : Fld) (u : Int) (n k : Nat) : gRun F u (List.replicate n 1) (fun T => decide (T.length ≤ k)) n [] (List.range n) = grG F u n k := by
  have h := gRun_size F u n k n 0 (Nat.zero_le _) rfl (by
    have := List.length_filter_le (fun x => decide (x ∉ grG F u n 0)) (List.range n)
    rw [List.length_range] at this; exact this)
  have e : (List.range n).filter (fun x => decide (x ∉ grG F u n 0)) = List.range n := List.filter_eq_self.2 (fun x _ => by simp [grG])
  rw [e] at h
  exact h

set_option maxRecDepth 32000 in
set_option maxHeartbeats 1500000 in
theorem implGreedyGain_any (F : Fld) (u k : Int) (w : World) (hF : F.At w) (hm : F.o.l.length ≤ 1048576) (b : Bool) (hb0 : b = (worthB F u && (decide (0 ≤ k) && decide (k ≤ 7)))) (l : List Int) (hl0 : l = if b then up (grG F u F.o.l.length k.toNat) else []) :
    Calls Try.prog 26 #[.agg #[.slice F.o.a F.o.l.length F.o.c, .slice F.t.a F.t.R.length F.t.c], .int .i64 u, .int .i64 k] w (PInts l b w) := by
  obtain ⟨wA, hA, hbA, bx, hFA, hszA⟩ := laid_fld F w 29 hF
  have CE := Lib.hid (fun W (_ : Below wA.heap.size wA W) => equalCostsW_any F W hm)
  have CG := Lib.hid (fun W (h : Below wA.heap.size wA W) (y : Row) (hy : y.At W) (hyl : y.l = List.replicate F.o.l.length 1) => (by
    refine greedyUnderS_any F u (.int .i64 k) (decide (0 ≤ k) && decide (k ≤ 7)) (fun T => decide (T.length ≤ k.toNat)) y W (hFA.on h) hy (by rw [hyl, List.length_replicate]; omega) (fun i => ?_) (fun W' _ => sizeValid_any k W') (fun hg hr T x W' hT hTn _ _ hx => ?_) b hb0 l (by rw [hl0, hyl, gRun_start])
    · rw [hyl, List.getD_eq_getElem?_getD, List.getElem?_replicate]
      split <;> simp
    · have hk : 0 ≤ k ∧ k ≤ 7 := by simpa using hr
      have h8 := good_sizes (worthB_iff.1 hg).1
      have hT8 := few_of hT hTn
      have := sizeAllows_any k.toNat x T W' hx (by omega) (by omega)
      rw [show ((k.toNat : Nat) : Int) = k by omega] at this
      exact this : Calls Try.prog 50 #[.agg #[.slice F.o.a F.o.l.length F.o.c, .slice F.t.a F.t.R.length F.t.c, .int .i64 u], .iface 52 (.int .i64 k), .slice y.a y.l.length y.c] W (PInts l b W)))
  have HA : Hid ((w.alloc (Obj.cells #[.slice F.o.a F.o.l.length F.o.c, .slice F.t.a F.t.R.length F.t.c] 29)) = wA) := Lib.hid hA.symm
  have HBA := Lib.hid hbA
  have HS : Hid (∀ U, Below wA.heap.size wA U → ((U.cell? ⟨w.heap.size, 0, none⟩ = some (.slice F.o.a F.o.l.length F.o.c) ∧ U.cell? ⟨w.heap.size, 1, none⟩ = some (.slice F.t.a F.t.R.length F.t.c)) ∧ Below wA.heap.size wA U)) := Lib.hid fun U hu => ⟨⟨(bx.on hu).c0, (bx.on hu).c1⟩, hu⟩
  have HEND := Lib.hid (fun W W1 (t : Row) (h : Below wA.heap.size wA W) (h1 : t.l = l) (h2 : t.Own 3 W1) (h3 : t.In W.heap.size W1.heap.size W1) (h4 : Below W.heap.size W W1) => (show PInts l b w (.returned (.tuple #[.slice t.a t.l.length t.c, .bool b])) W1 from
    ⟨t, rfl, h1, h2, h3.wide (Nat.le_trans hbA.size h.size) (Nat.le_refl _), (hbA.trans (h.mono hbA.size)).trans (h4.mono (Nat.le_trans hbA.size h.size))⟩))
  have s0 := HS.out wA.drew (Below.refl _ _).drew
  clear hF hA bx hFA hszA hb0 hl0 hbA hm
  go_enter Try.func26, Try.ntmps26
  go_wp2_with fail
  rw [HA.out]
  go_region_held3 (fun U => ((U.cell? ⟨w.heap.size, 0, none⟩ = some (.slice F.o.a F.o.l.length F.o.c) ∧ U.cell? ⟨w.heap.size, 1, none⟩ = some (.slice F.t.a F.t.R.length F.t.c)) ∧ Below wA.heap.size wA U)) (first | exact s0 | exact HS.out _ (by assumption)) (first
    | (go_at_call 51; refine (show Calls _ _ _ _ _ from CE.out _ (by first | assumption | exact And.right (by assumption))).mono ?_; rintro e u1 ⟨y, rfl, hyl, hyi, hb1⟩; have HY := Lib.hid hyl; have HYI := Lib.hid hyi.at; have hB1 : Below wA.heap.size wA u1 := Below.trans (show Below wA.heap.size wA _ from (by first | assumption | exact And.right (by assumption))) (hb1.mono (Below.size (show Below wA.heap.size wA _ from (by first | assumption | exact And.right (by assumption))))); clear hyl hyi hb1)
    | (go_at_call 50; refine (show Calls _ _ _ _ _ from CG.out _ hB1 y HYI.out HY.out).mono ?_; rintro e u2 ⟨t, rfl, htl, hto, hti, hb2⟩; have hB2 : Below wA.heap.size wA u2 := hB1.trans (hb2.mono hB1.size); have HE := Lib.hid (HEND.out u1 u2 t hB1 htl hto hti hb2); clear htl hto hti hb2))
  all_goals
    go_wp2
    go_ret2
    exact HE.out

theorem greedyGain_pair (F : Fld) (u k : Int) {Q : Prop} (_ : Q) {Q' : Prop} (_ : Q') (hsm : F.Small) : ∃ (l : List Int) (b : Bool) (_ : l.length ≤ 1048576),
    (∀ (G : Fld) (W : World), G.At W → G.Like F → Calls Try.prog 25 #[G.val, .int .i64 u, .int .i64 k] W (PInts l b W)) ∧
    (∀ (G : Fld) (W : World), G.At W → G.Like F → Calls Try.prog 26 #[G.val, .int .i64 u, .int .i64 k] W (PInts l b W)) := by
  refine ⟨if (worthB F u && (decide (0 ≤ k) && decide (k ≤ 7))) then up (grG F u F.o.l.length k.toNat) else [], worthB F u && (decide (0 ≤ k) && decide (k ≤ 7)), ?_, fun G W hG hl => specGreedyGain_any G u k W hG _ (by rw [worthB_like hl]) _ (by rw [grG_like hl, hl.1]), fun G W hG hl => implGreedyGain_any G u k W hG (by rw [hl.1]; unfold Fld.Small at hsm; omega) _ (by rw [worthB_like hl]) _ (by rw [grG_like hl, hl.1])⟩
  split
  · rename_i h
    rw [Bool.and_eq_true] at h
    have h8 := (good_sizes (worthB_iff.1 h.1).1).2.1
    rw [up_length]
    have := grG_few F u F.o.l.length k.toNat
    omega
  · simp

end Go.Proofs.Ytbochmpkjacnnaa
