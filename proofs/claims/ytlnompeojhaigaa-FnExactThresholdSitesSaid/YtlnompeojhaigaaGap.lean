/- The gap of two clients: the contracts of both sides, and both sides of GapOf. Condition: the Field reads as such; a valid Field and clients that are there for the gap itself. -/
import Derived.Test.YtlnompeojhaigaaPairIsMetric
import Derived.IntWalk
namespace Go.Proofs.Ytlnompeojhaigaa
open Go.RowKit

theorem l1Least_any (a b : Int) (w : World) :
    Calls Try.prog 96 #[.int .i64 a, .int .i64 b] w fun e w' => e = .returned (.int .i64 (min a b)) ∧ w' = w := by
  by_cases h : a < b
  · go_enter Try.func96, Try.ntmps96
    go_wp2
    go_ret
    exact ⟨by rw [show min a b = a by omega]; rfl, rfl⟩
  · go_enter Try.func96, Try.ntmps96
    go_wp2
    go_ret
    exact ⟨by rw [show min a b = b by omega]; rfl, rfl⟩

/-- The least sum of lengths to the first k sites. -/
def gapTo (F : Fld) (i j : Nat) : Nat → Int
  | 0 => 198
  | k + 1 => min (gapTo F i j k) (F.len i k + F.len j k)
def gapA (F : Fld) (i j : Nat) : Int := if i = j then 0 else gapTo F i j F.o.l.length
theorem gapTo_like {F G : Fld} (h : F.Like G) (i j : Nat) : ∀ k, gapTo F i j k = gapTo G i j k
  | 0 => rfl
  | k + 1 => by unfold gapTo; rw [gapTo_like h i j k, len_like h, len_like h]
theorem gapA_like {F G : Fld} (h : F.Like G) (i j : Nat) : gapA F i j = gapA G i j := by unfold gapA; rw [gapTo_like h, h.1]
theorem gapTo_bound {F : Fld} (hg : F.good = true) {i j : Nat} (hi : i < F.t.R.length) (hj : j < F.t.R.length) : ∀ k, 0 ≤ gapTo F i j k ∧ gapTo F i j k ≤ 198
  | 0 => by unfold gapTo; omega
  | k + 1 => by
    have h1 := gapTo_bound hg hi hj k
    have h2 := len_bound hg hi k
    have h3 := len_bound hg hj k
    unfold gapTo; omega
theorem gapA_bound {F : Fld} (hg : F.good = true) {i j : Nat} (hi : i < F.t.R.length) (hj : j < F.t.R.length) : 0 ≤ gapA F i j ∧ gapA F i j ≤ 198 := by
  unfold gapA; split
  · omega
  · exact gapTo_bound hg hi hj _

theorem two_cells {F : Fld} {wA wr : World} (hF : F.At wA) (hg : F.good = true) (hd : DrewTo wA wr) {i j : Nat} (hi : i < F.t.R.length) (hj : j < F.t.R.length) :
    ∃ b o bi oi ci bj oj cj, F.t.a = some ⟨b, o, none⟩ ∧ wr.cell? ⟨b, o + i, none⟩ = some (.slice (some ⟨bi, oi, none⟩) F.o.l.length ci) ∧ wr.cell? ⟨b, o + j, none⟩ = some (.slice (some ⟨bj, oj, none⟩) F.o.l.length cj) ∧ (∀ m, m < F.o.l.length → wr.cell? ⟨bi, oi + m, none⟩ = some (.int .i64 (F.len i m))) ∧ ∀ m, m < F.o.l.length → wr.cell? ⟨bj, oj + m, none⟩ = some (.int .i64 (F.len j m)) := by
  obtain ⟨b, o, bi, oi, ci, h1, h2, h3⟩ := row_cells hF hg hd hi
  obtain ⟨b', o', bj, oj, cj, k1, k2, k3⟩ := row_cells hF hg hd hj
  rw [h1] at k1
  simp only [Option.some.injEq, Addr.mk.injEq, and_true] at k1
  obtain ⟨rfl, rfl⟩ := k1
  exact ⟨b, o, bi, oi, ci, bj, oj, cj, h1, h2, k2, h3, k3⟩

set_option maxHeartbeats 2000000 in
theorem l5Gap_any (F : Fld) (i j : Nat) (w : World) (hF : F.At w) (hg : F.good = true) (hi : i < F.t.R.length) (hj : j < F.t.R.length) :
    Calls Try.prog 63 #[F.val, .int .i64 i, .int .i64 j] w fun e w' => e = .returned (.int .i64 (gapA F i j)) ∧ Below w.heap.size w w' := by
  obtain ⟨wA, hA, hbA, bx, hFA, _⟩ := laid_fld F w 29 hF
  have hsz := good_sizes hg
  have HC := Lib.hid fun wr (hd : DrewTo wA wr) => two_cells hFA hg hd hi hj
  have HLB := Lib.hid fun a => And.intro (len_bound hg hi a) (len_bound hg hj a)
  have HGB := Lib.hid fun k => gapTo_bound hg hi hj k
  have HX0 := Lib.hid (fun wr (hd : DrewTo wA wr) => by rw [hd.cell]; exact bx.c0 : ∀ wr, DrewTo wA wr → wr.cell? ⟨w.heap.size, 0, none⟩ = some (.slice F.o.a F.o.l.length F.o.c))
  have HX1 := Lib.hid (fun wr (hd : DrewTo wA wr) => by rw [hd.cell]; exact bx.c1 : ∀ wr, DrewTo wA wr → wr.cell? ⟨w.heap.size, 1, none⟩ = some (.slice F.t.a F.t.R.length F.t.c))
  have HA := Lib.hid hA
  have hni : (F.o.l.length : Int) ≤ 7 := by omega
  have hn1 : 1 ≤ F.o.l.length := hsz.1
  have hmi : (F.t.R.length : Int) ≤ 7 := by omega
  have hii : (i : Int) < (F.t.R.length : Int) := by omega
  have hji : (j : Int) < (F.t.R.length : Int) := by omega
  have hpos : (0 : Int) < (F.o.l.length : Int) := by omega
  have CL := Lib.hid fun x y W => l1Least_any x y W
  by_cases hij : i = j
  · have hq : ((i : Int) == (j : Int)) = true := by rw [hij]; simp
    have HE : Hid (gapA F i j = 0) := Lib.hid (by unfold gapA; rw [if_pos hij])
    clear hF hA hFA bx hg hsz hij hi hj
    show Calls _ _ #[.agg #[F.o.val, .slice F.t.a F.t.R.length F.t.c], _, _] w _
    go_enter Try.func63, Try.ntmps63
    go_wp2
    go_ret
    exact ⟨by rw [HE.out]; rfl, by rw [← show wA = w.alloc (Obj.cells #[F.o.val, .slice F.t.a F.t.R.length F.t.c] 29) from HA.out]; exact hbA⟩
  have hq : ((i : Int) == (j : Int)) = false := by simp; omega
  have HE : Hid (gapA F i j = gapTo F i j F.o.l.length) := Lib.hid (by unfold gapA; rw [if_neg hij])
  obtain ⟨bt, ot, bi, oi, ci, bj, oj, cj, hta, hci, hcj, hri, hrj⟩ := HC.out wA (DrewTo.refl _)
  have y1 := HX1.out wA (DrewTo.refl _)
  have y0 := HX0.out wA (DrewTo.refl _)
  obtain ⟨x, hx⟩ : ∃ x, x = F.len i 0 := ⟨_, rfl⟩
  obtain ⟨y, hy⟩ : ∃ y, y = F.len j 0 := ⟨_, rfl⟩
  have hcx := hri 0 (by omega)
  have hcy := hrj 0 (by omega)
  have hlb := HLB.out 0
  rw [Nat.add_zero, ← hx] at hcx
  rw [Nat.add_zero, ← hy] at hcy
  rw [← hx, ← hy] at hlb
  have w1 : IntKind.i64.wrap (x + y) = x + y := IntWalk.i64_in _ (by omega)
  have H1 : Hid (gapTo F i j 1 = x + y) := Lib.hid (by show min (198 : Int) (F.len i 0 + F.len j 0) = _; rw [← hx, ← hy]; omega)
  rw [hta] at y1
  have HRI := Lib.hid hri
  have HRJ := Lib.hid hrj
  have HTA := Lib.hid hta
  have HCI := Lib.hid hci
  have HCJ := Lib.hid hcj
  rw [hA] at hci hcj hcx hcy y0 y1
  clear hF hA hFA bx hg hsz hij hi hj hx hy hri hrj HC
  show Calls _ _ #[.agg #[F.o.val, .slice F.t.a F.t.R.length F.t.c], _, _] w _
  rw [HTA.out]
  have HA1 : Hid (wA = w.alloc (Obj.cells #[F.o.val, .slice (some ⟨bt, ot, none⟩) F.t.R.length F.t.c] 29)) := Lib.hid (by rw [← HTA.out]; exact HA.out)
  rw [show w.alloc (Obj.cells #[F.o.val, F.t.val] 29) = w.alloc (Obj.cells #[F.o.val, .slice (some ⟨bt, ot, none⟩) F.t.R.length F.t.c] 29) by rw [← HA1.out, HA.out]] at hci hcj hcx hcy y0 y1
  clear hta
  go_enter Try.func63, Try.ntmps63
  go_wp2
  go_quiet (fail)
  rw [← HA1.out]
  clear hci hcj hcx hcy y0 y1
  go_wp2
  go_loopw [7, 8] (fun sv iv wr => ∃ k : Nat, 1 ≤ k ∧ k ≤ F.o.l.length ∧ iv = .int .i64 k ∧ sv = .int .i64 (gapTo F i j k) ∧ DrewTo wA wr) (fun _ iv _ => F.o.l.length - (intOf iv).toNat)
  case atStart => exact ⟨1, Nat.le_refl _, hn1, rfl, by rw [H1.out], ⟨_, rfl⟩⟩
  case round =>
    obtain ⟨k, hk1, hk, rfl, rfl, hdw⟩ := hrel
    have y0 := HX0.out wr hdw
    by_cases hlt : k < F.o.l.length
    · have hlti : (k : Int) < (F.o.l.length : Int) := by omega
      have y1 := HX1.out wr hdw
      rw [HTA.out] at y1
      have hci : wr.cell? ⟨bt, ot + i, none⟩ = some (.slice (some ⟨bi, oi, none⟩) F.o.l.length ci) := by rw [hdw.cell]; exact HCI.out
      have hcj : wr.cell? ⟨bt, ot + j, none⟩ = some (.slice (some ⟨bj, oj, none⟩) F.o.l.length cj) := by rw [hdw.cell]; exact HCJ.out
      obtain ⟨x, hx⟩ : ∃ x, x = F.len i k := ⟨_, rfl⟩
      obtain ⟨y, hy⟩ : ∃ y, y = F.len j k := ⟨_, rfl⟩
      have hcx : wr.cell? ⟨bi, oi + k, none⟩ = some (.int .i64 x) := by rw [hdw.cell, hx]; exact HRI.out k hlt
      have hcy : wr.cell? ⟨bj, oj + k, none⟩ = some (.int .i64 y) := by rw [hdw.cell, hy]; exact HRJ.out k hlt
      have hlb := HLB.out k
      rw [← hx, ← hy] at hlb
      obtain ⟨s, hs⟩ : ∃ s, s = gapTo F i j k := ⟨_, rfl⟩
      have hsb := HGB.out k
      rw [← hs] at hsb ⊢
      obtain ⟨m, hm⟩ : ∃ m, m = min s (x + y) := ⟨_, rfl⟩
      have HST : Hid (gapTo F i j (k + 1) = m) := Lib.hid (by rw [hm, hs, hx, hy]; rfl)
      have w1 : IntKind.i64.wrap (x + y) = x + y := IntWalk.i64_in _ (by omega)
      have CL1 := Lib.hid (fun W => by have := CL.out s (x + y) W; rw [← hm] at this; exact this : ∀ W, Calls Try.prog 96 #[.int .i64 s, .int .i64 (x + y)] W fun e w' => e = .returned (.int .i64 m) ∧ w' = W)
      clear hx hy hs hm
      go_wp2
      go_quiet ((go_at_call 96; exact Calls.quiet_of_same (CL1.out _)))
      go_wp2
      go_roundw
      case rel => exact ⟨k + 1, by omega, by omega, by go_num, by rw [HST.out], hdw.more _⟩
      case measure => simp [intOf]; omega
    · obtain rfl : k = F.o.l.length := by omega
      go_wp2
      go_ret
      exact ⟨by rw [HE.out]; rfl, hbA.trans (hdw.below.mono hbA.size)⟩

set_option maxHeartbeats 2000000 in
theorem gapBetween_any (F : Fld) (i j : Nat) (w : World) (hF : F.At w) (hg : F.good = true) (hi : i < F.t.R.length) (hj : j < F.t.R.length) :
    Calls Try.prog 64 #[F.val, .int .i64 i, .int .i64 j] w fun e w' => e = .returned (.int .i64 (gapA F i j)) ∧ Below w.heap.size w w' := by
  obtain ⟨wA, hA, hbA, bx, hFA, _⟩ := laid_fld F w 29 hF
  have hsz := good_sizes hg
  have HLB := Lib.hid fun a => And.intro (len_bound hg hi a) (len_bound hg hj a)
  have HGB := Lib.hid fun k => gapTo_bound hg hi hj k
  have HA := Lib.hid hA
  have hni : (F.o.l.length : Int) ≤ 7 := by omega
  have hmi : (F.t.R.length : Int) ≤ 7 := by omega
  have hii : (i : Int) < (F.t.R.length : Int) := by omega
  have hji : (j : Int) < (F.t.R.length : Int) := by omega
  by_cases hij : i = j
  · have hq : ((i : Int) == (j : Int)) = true := by rw [hij]; simp
    have HE : Hid (gapA F i j = 0) := Lib.hid (by unfold gapA; rw [if_pos hij])
    clear hF hA hFA bx hg hsz hij hi hj
    show Calls _ _ #[.agg #[F.o.val, .slice F.t.a F.t.R.length F.t.c], _, _] w _
    go_enter Try.func64, Try.ntmps64
    go_wp2
    go_ret
    exact ⟨by rw [HE.out]; rfl, by rw [← show wA = w.alloc (Obj.cells #[F.o.val, .slice F.t.a F.t.R.length F.t.c] 29) from HA.out]; exact hbA⟩
  have hq : ((i : Int) == (j : Int)) = false := by simp; omega
  have HE : Hid (gapA F i j = gapTo F i j F.o.l.length) := Lib.hid (by unfold gapA; rw [if_neg hij])
  obtain ⟨bt, ot, bi, oi, ci, bj, oj, cj, hta, hci, hcj, hri, hrj⟩ := two_cells hFA hg (DrewTo.refl _) hi hj
  have y1 : wA.cell? ⟨w.heap.size, 1, none⟩ = some (.slice F.t.a F.t.R.length F.t.c) := bx.c1
  rw [hta] at y1
  have HRI := Lib.hid hri
  have HRJ := Lib.hid hrj
  have HTA := Lib.hid hta
  clear hF hA hFA bx hg hsz hij hi hj hri hrj
  show Calls _ _ #[.agg #[F.o.val, .slice F.t.a F.t.R.length F.t.c], _, _] w _
  rw [HTA.out]
  have HA1 : Hid (wA = w.alloc (Obj.cells #[F.o.val, .slice (some ⟨bt, ot, none⟩) F.t.R.length F.t.c] 29)) := Lib.hid (by rw [← HTA.out]; exact HA.out)
  have HY1 := Lib.hid y1
  have HCI := Lib.hid hci
  have HCJ := Lib.hid hcj
  rw [HA1.out] at hci y1
  clear hta hcj
  go_enter Try.func64, Try.ntmps64
  go_wp2
  rw [← HA1.out]
  clear hci y1
  go_loopw [7, 8, 9, 19] (fun sv _ _ iv wr => ∃ k : Nat, k ≤ F.o.l.length ∧ iv = .int .i64 k ∧ sv = .int .i64 (gapTo F i j k) ∧ wr = wA) (fun _ _ _ iv _ => F.o.l.length - (intOf iv).toNat)
  case atStart => exact ⟨0, Nat.zero_le _, rfl, rfl, rfl⟩
  case round =>
    obtain ⟨k, hk, rfl, rfl, rfl⟩ := hrel
    by_cases hlt : k < F.o.l.length
    · have hlti : (k : Int) < (F.o.l.length : Int) := by omega
      have y1 := HY1.out
      have hcj := HCJ.out
      obtain ⟨x, hx⟩ : ∃ x, x = F.len i k := ⟨_, rfl⟩
      obtain ⟨y, hy⟩ : ∃ y, y = F.len j k := ⟨_, rfl⟩
      have hcx : wr.cell? ⟨bi, oi + k, none⟩ = some (.int .i64 x) := by rw [hx]; exact HRI.out k hlt
      have hcy : wr.cell? ⟨bj, oj + k, none⟩ = some (.int .i64 y) := by rw [hy]; exact HRJ.out k hlt
      have hlb := HLB.out k
      rw [← hx, ← hy] at hlb
      obtain ⟨s, hs⟩ : ∃ s, s = gapTo F i j k := ⟨_, rfl⟩
      have hsb := HGB.out k
      rw [← hs] at hsb ⊢
      have HST : Hid (gapTo F i j (k + 1) = min s (x + y)) := Lib.hid (by rw [hs, hx, hy]; rfl)
      have w1 : IntKind.i64.wrap (x + y) = x + y := IntWalk.i64_in _ (by omega)
      clear hx hy hs
      go_wp2
      go_roundw
      case rel => exact ⟨k + 1, by omega, by go_num, by rw [HST.out]; first | rfl | (congr 1; omega), by first | rfl | trivial⟩
      case measure => simp [intOf]; omega
    · obtain rfl : k = F.o.l.length := by omega
      go_wp2
      go_ret
      exact ⟨by rw [HE.out]; rfl, hbA⟩
end Go.Proofs.Ytlnompeojhaigaa
