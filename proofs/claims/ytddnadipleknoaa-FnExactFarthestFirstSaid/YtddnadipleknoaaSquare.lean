/- Whether a table is a ground: the contracts of both sides. Condition: the table reads as such. -/
import Derived.Test.YtddnadipleknoaaGroundMem
import Derived.Test.YtddnadipleknoaaSets
import Derived.Deep.QuietTactic
import Derived.BigQuiet
namespace Go.Proofs.Ytddnadipleknoaa
open Go.RowKit

set_option maxHeartbeats 1000000 in
theorem indexSq_any (T : Tab) (w : World) (hT : T.At w) (p : List Int → Bool) (x0 x1 : Value) (CO : ∀ x ∈ T.R, ∀ u, Below w.heap.size w u → Calls Try.prog 86 #[.slice x.a x.l.length x.c, x0, x1] u fun e w' => e = .returned (.bool (!p x.l)) ∧ Below u.heap.size u w') :
    Calls Try.prog 40 #[.slice T.a T.R.length T.c, .func (.func 86) #[] #[x0, x1]] w fun e w' => (∃ i : Int, e = .returned (.int .i64 i) ∧ decide (0 ≤ i) = !T.con.all p) ∧ Below w.heap.size w w' := by
  obtain ⟨a, c, R⟩ := T
  obtain ⟨⟨h1, h2, h3⟩, hrows⟩ := hT
  simp only at h1 h2 h3 hrows CO ⊢
  rw [tv_length] at h1
  unfold maxLen at h2
  have hni : (R.length : Int) ≤ 9223372036854775807 := by omega
  have HR := Lib.hid h3
  have HCO := Lib.hid CO
  obtain ⟨L, hL⟩ : ∃ L, L = R.map Row.l := ⟨_, rfl⟩
  have HLL := Lib.hid hL
  have HCON : Hid ((Tab.mk a c R).con = L) := Lib.hid hL.symm
  rw [HCON.out]
  clear h3 hrows CO hL HCON
  go_enter Try.func40, Try.ntmps40
  go_wp2
  go_loopw [5, 8] (fun _ i wr => ∃ k : Nat, k ≤ R.length ∧ i = .int .i64 k ∧ Below w.heap.size w wr ∧ Hid ((L.take k).all p = true)) (fun _ i _ => R.length - (intOf i).toNat)
  case atStart => exact ⟨0, Nat.zero_le _, rfl, Below.refl _ _, Lib.hid (by simp)⟩
  case round =>
    obtain ⟨k, hk, rfl, hnx, HALL⟩ := hrel
    have HNX := Lib.hid hnx
    by_cases hlt : k < R.length
    · have hlti : (k : Int) < (R.length : Int) := by omega
      rcases HR.out with h3 | ⟨b, o, ha, hb, hcell⟩
      · have h3' := congrArg List.length h3; rw [tv_length, List.length_nil] at h3'; omega
      obtain ⟨x, hx⟩ : ∃ x, x = R[k] := ⟨_, rfl⟩
      have hxm : x ∈ R := by rw [hx]; exact List.getElem_mem hlt
      have hcl : wr.cell? ⟨b, o + k, none⟩ = some (.slice x.a x.l.length x.c) := (hnx.cell (p := ⟨b, o + k, none⟩) hb).trans (by rw [hx]; exact hcell k _ (tv_at hlt))
      obtain ⟨v, hv⟩ : ∃ v, v = p x.l := ⟨_, rfl⟩
      have C1 := Lib.hid (by have := HCO.out x hxm wr hnx; rw [← hv] at this; exact this)
      have HX : Hid (∃ h : k < L.length, p L[k] = v) := Lib.hid ⟨by rw [HLL.out, List.length_map]; exact hlt, by simp only [HLL.out, List.getElem_map]; rw [← hx, hv]⟩
      rw [ha]
      clear hx hcell hxm hv ha hnx
      go_wp2_with fail
      refine (show Calls _ _ _ _ _ from C1.out).mono ?_
      rintro e W1 ⟨rfl, hb1⟩
      have HB1 := Lib.hid (HNX.out.trans (hb1.mono HNX.out.size))
      clear hb1 hcl
      cases v with
      | true =>
        have HS : Hid ((L.take (k + 1)).all p = true) := Lib.hid (by obtain ⟨h1, h2⟩ := HX.out; exact all_take h1 HALL.out h2)
        go_wp2
        go_roundw
        case rel => exact ⟨k + 1, by omega, by go_num, HB1.out, HS⟩
        case measure => simp [intOf]; omega
      | false =>
        have HS : Hid (L.all p = false) := Lib.hid (by obtain ⟨h1, h2⟩ := HX.out; exact all_out h1 h2)
        go_wp2
        go_ret
        exact ⟨⟨(k : Int), rfl, by rw [HS.out]; simp⟩, HB1.out⟩
    · obtain rfl : k = R.length := by omega
      have HS : Hid (L.all p = true) := Lib.hid (by
        have h := HALL.out
        rw [List.take_of_length_le (by rw [HLL.out]; rw [List.length_map]; exact Nat.le_refl _)] at h; exact h)
      go_wp2
      go_ret
      exact ⟨⟨-1, rfl, by rw [HS.out]; rfl⟩, hnx⟩

theorem containsSq_any (T : Tab) (w : World) (hT : T.At w) (p : List Int → Bool) (x0 x1 : Value) (CO : ∀ x ∈ T.R, ∀ u, Below w.heap.size w u → Calls Try.prog 86 #[.slice x.a x.l.length x.c, x0, x1] u fun e w' => e = .returned (.bool (!p x.l)) ∧ Below u.heap.size u w') :
    Calls Try.prog 87 #[.slice T.a T.R.length T.c, .func (.func 86) #[] #[x0, x1]] w fun e w' => e = .returned (.bool (!T.con.all p)) ∧ Below w.heap.size w w' := by
  have CI := Lib.hid (indexSq_any T w hT p x0 x1 CO)
  clear hT CO
  go_enter Try.func87, Try.ntmps87
  go_wp2_with fail
  refine (show Calls _ _ _ _ _ from CI.out).mono ?_
  rintro e W ⟨⟨i, rfl, hi⟩, hb⟩
  have HI := Lib.hid hi
  clear hi
  go_wp2
  go_ret
  exact ⟨by rw [← HI.out]; rfl, hb⟩

/-- A table of n lists of n numbers. -/
def sqB (n : Nat) (d : List (List Int)) : Bool := decide (d.length = n) && d.all (rowB n)

set_option maxHeartbeats 600000 in
theorem square1_any (x : Row) (n g h : Nat) (w : World) (hx : x.At w) (hg : w.cell? ⟨g, 0, none⟩ = some (.int .i64 n)) (hh : w.cell? ⟨h, 0, none⟩ = some (.int .i64 99)) :
    Calls Try.prog 86 #[.slice x.a x.l.length x.c, .pointer (some ⟨g, 0, none⟩), .pointer (some ⟨h, 0, none⟩)] w fun e w' => e = .returned (.bool (!rowB n x.l)) ∧ Below w.heap.size w w' := by
  obtain ⟨v, hv⟩ : ∃ v, v = x.l.all (upTo 99) := ⟨_, rfl⟩
  have CA := Lib.hid (by have := allWithin_any x w hx; rw [← hv] at this; exact this)
  have hlim := row_lim0 hx
  by_cases hl : x.l.length = n
  · have hli : ((x.l.length : Int) != (n : Int)) = false := by rw [nat_neB, hl]; simp
    have HE : Hid (rowB n x.l = v) := Lib.hid (by unfold rowB; rw [hl, ← hv]; simp)
    rw [HE.out]
    clear hl hv hx HE
    go_enter Try.func86, Try.ntmps86
    go_wp2_with fail
    refine (show Calls _ _ _ _ _ from CA.out).mono ?_
    rintro e W ⟨rfl, hb⟩
    clear hg hh
    go_wp2
    go_ret
    exact ⟨rfl, hb⟩
  · have hli : ((x.l.length : Int) != (n : Int)) = true := by rw [nat_neB]; simp [hl]
    have HE : Hid (rowB n x.l = false) := Lib.hid (by unfold rowB; rw [decide_eq_false hl, Bool.and_false])
    rw [HE.out]
    clear hl hv hx HE CA
    go_enter Try.func86, Try.ntmps86
    go_wp2
    go_ret
    exact ⟨rfl, Below.refl _ _⟩

set_option maxHeartbeats 1000000 in
theorem isSquare_any (T : Tab) (n : Nat) (w : World) (hT : T.At w) (_ : (n : Int) ≤ 9223372036854775807) :
    Calls Try.prog 72 #[.slice T.a T.R.length T.c, .int .i64 n, .int .i64 99] w fun e w' => e = .returned (.bool (sqB n T.con)) ∧ Below w.heap.size w w' := by
  have hb := below_alloc w (.cells #[.int .i64 n] 3)
  have hb2 := hb.alloc hb.size (.cells #[.int .i64 99] 3)
  have hz : (w.alloc (.cells #[.int .i64 n] 3)).heap.size = w.heap.size + 1 := size_alloc _ _
  obtain ⟨wB, hB⟩ : ∃ u, u = (w.alloc (.cells #[.int .i64 n] 3)).alloc (.cells #[.int .i64 99] 3) := ⟨_, rfl⟩
  have c0 : wB.cell? ⟨w.heap.size, 0, none⟩ = some (.int .i64 n) := by
    rw [hB, (below_alloc (w.alloc (.cells #[.int .i64 n] 3)) (.cells #[.int .i64 99] 3)).cell (p := ⟨w.heap.size, 0, none⟩) (by rw [hz]; exact Nat.lt_succ_self _)]; simp
  have c1 : wB.cell? ⟨w.heap.size + 1, 0, none⟩ = some (.int .i64 99) := by rw [hB, ← hz]; simp
  rw [← hB] at hb2
  have CC := Lib.hid (containsSq_any T wB (hT.on hb2) (rowB n) _ _ (fun x hx u hu => square1_any x n w.heap.size (w.heap.size + 1) u (((hT.2 x hx).on hb2).on hu) ((hu.cell (p := ⟨w.heap.size, 0, none⟩) (World.block_lt_of_cell? _ _ c0)).trans c0) ((hu.cell (p := ⟨w.heap.size + 1, 0, none⟩) (World.block_lt_of_cell? _ _ c1)).trans c1)))
  have hlim := tab_lim0 hT
  have HBW := Lib.hid hb2
  have HB := Lib.hid hB
  have HCL := Lib.hid (con_length T)
  have c0' := c0
  rw [hB] at c0'
  clear hT c0 c1 hz hb hb2 hB
  by_cases hl : T.R.length = n
  · have hli : ((T.R.length : Int) == (n : Int)) = true := by rw [nat_eqB, hl]; simp
    obtain ⟨v, hv⟩ : ∃ v, v = T.con.all (rowB n) := ⟨_, rfl⟩
    have HE : Hid (sqB n T.con = v) := Lib.hid (by unfold sqB; rw [HCL.out, hl, ← hv]; simp)
    have CC1 := Lib.hid (by have := CC.out; rw [← hv] at this; exact this)
    rw [HE.out]
    clear hl hv HE CC
    go_enter Try.func72, Try.ntmps72
    go_wp2_with fail
    rw [← HB.out]
    refine (show Calls _ _ _ _ _ from CC1.out).mono ?_
    rintro e W ⟨rfl, hb⟩
    clear c0'
    go_wp2
    go_ret
    exact ⟨by simp, HBW.out.trans (hb.mono HBW.out.size)⟩
  · have hli : ((T.R.length : Int) == (n : Int)) = false := by rw [nat_eqB]; simp [hl]
    have HE : Hid (sqB n T.con = false) := Lib.hid (by unfold sqB; rw [HCL.out, decide_eq_false hl]; rfl)
    rw [HE.out]
    clear hl HE CC
    go_enter Try.func72, Try.ntmps72
    go_wp2
    go_ret
    rw [← HB.out]
    exact ⟨rfl, HBW.out⟩

/-- The distance that lies in two cells. -/
theorem dist_cell (b o b' o' n c q c' i j : Nat) (x : Int) (w : World) (hi : i < n) (hj : j < q) (_ : (n : Int) ≤ 9223372036854775807) (_ : (q : Int) ≤ 9223372036854775807) (h1 : w.cell? ⟨b, o + i, none⟩ = some (.slice (some ⟨b', o', none⟩) q c')) (h2 : w.cell? ⟨b', o' + j, none⟩ = some (.int .i64 x)) :
    Calls Try.prog 36 #[.slice (some ⟨b, o, none⟩) n c, .int .i64 i, .int .i64 j] w fun e w' => e = .returned (.int .i64 x) ∧ w' = w := by
  have hii : (i : Int) < (n : Int) := by omega
  have hji : (j : Int) < (q : Int) := by omega
  go_enter Try.func36, Try.ntmps36
  go_wp2
  go_ret
  exact ⟨rfl, rfl⟩
end Go.Proofs.Ytddnadipleknoaa
