/- Whether places are near to each other: the program's side. Condition: a ground, and places of it. -/
import Derived.Test.YtmbgipllkbahpaaPlainProv2
import Derived.Test.YtmbgipllkbahpaaDispI
import Derived.RangeFuncBox
namespace Go.Proofs.Ytmbgipllkbahpaa
open Go.RowKit

set_option maxHeartbeats 1000000 in
theorem indexNr_any (T : Row) (w : World) (hT : T.At w) (p : Int → Bool) (x0 x1 x2 : Value) (CO : ∀ x ∈ T.l, ∀ u, Below w.heap.size w u → Calls Try.prog 72 #[.int .i64 x, x0, x1, x2] u fun e w' => e = .returned (.bool (!p x)) ∧ Below u.heap.size u w') :
    Calls Try.prog 70 #[.slice T.a T.l.length T.c, .func (.func 72) #[] #[x0, x1, x2]] w fun e w' => (∃ i : Int, e = .returned (.int .i64 i) ∧ decide (0 ≤ i) = !T.l.all p) ∧ Below w.heap.size w w' := by
  obtain ⟨a, c, R⟩ := T
  obtain ⟨h1, h2, h3⟩ := hT
  simp only at h1 h2 h3 CO ⊢
  rw [iv_length] at h1
  unfold maxLen at h2
  have hni : (R.length : Int) ≤ 9223372036854775807 := by omega
  have HR := Lib.hid h3
  have HCO := Lib.hid CO
  obtain ⟨L, hL⟩ : ∃ L, L = R := ⟨_, rfl⟩
  have HLL := Lib.hid hL
  have HCON : Hid (R.all p = L.all p) := Lib.hid (by rw [hL])
  rw [HCON.out]
  clear h3 CO hL HCON
  go_enter Try.func70, Try.ntmps70
  go_wp2
  go_loopw [8] (fun i wr => ∃ k : Nat, k ≤ R.length ∧ i = .int .i64 k ∧ Below w.heap.size w wr ∧ Hid ((L.take k).all p = true)) (fun i _ => R.length - (intOf i).toNat)
  case atStart => exact ⟨0, Nat.zero_le _, rfl, Below.refl _ _, Lib.hid (by simp)⟩
  case round =>
    obtain ⟨k, hk, rfl, hnx, HALL⟩ := hrel
    have HNX := Lib.hid hnx
    by_cases hlt : k < R.length
    · have hlti : (k : Int) < (R.length : Int) := by omega
      rcases HR.out with h3 | ⟨b, o, ha, hb, hcell⟩
      · have h3' := congrArg List.length (iv_nil h3); rw [List.length_nil] at h3'; omega
      obtain ⟨x, hx⟩ : ∃ x, x = R[k] := ⟨_, rfl⟩
      have hxm : x ∈ R := by rw [hx]; exact List.getElem_mem hlt
      have hcl : wr.cell? ⟨b, o + k, none⟩ = some (.int .i64 x) := (hnx.cell (p := ⟨b, o + k, none⟩) hb).trans (by rw [hx]; exact hcell k _ (iv_at hlt))
      obtain ⟨v, hv⟩ : ∃ v, v = p x := ⟨_, rfl⟩
      have C1 := Lib.hid (by have := HCO.out x hxm wr hnx; rw [← hv] at this; exact this)
      have HX : Hid (∃ h : k < L.length, p L[k] = v) := Lib.hid ⟨by rw [HLL.out]; exact hlt, by simp only [HLL.out]; rw [← hx, hv]⟩
      rw [ha]
      clear hx hcell hxm hv ha hnx
      go_wp2_with fail
      refine (show Calls _ _ _ _ _ from C1.out).mono ?_
      rintro e W1 ⟨rfl, hb1⟩
      have HB1 := Lib.hid (HNX.out.trans (hb1.mono HNX.out.size))
      clear hb1 hcl
      cases v with
      | true =>
        have HS : Hid ((L.take (k + 1)).all p = true) := Lib.hid (by obtain ⟨h1, h2⟩ := HX.out; exact all_take h1 HALL.out h2)
        go_wp2
        go_roundw
        case rel => exact ⟨k + 1, by omega, by go_num, HB1.out, HS⟩
        case measure => simp [intOf]; omega
      | false =>
        have HS : Hid (L.all p = false) := Lib.hid (by obtain ⟨h1, h2⟩ := HX.out; exact all_out h1 h2)
        go_wp2
        go_ret
        exact ⟨⟨(k : Int), rfl, by rw [HS.out]; simp⟩, HB1.out⟩
    · obtain rfl : k = R.length := by omega
      have HS : Hid (L.all p = true) := Lib.hid (by
        have h := HALL.out
        rw [List.take_of_length_le (by rw [HLL.out]; exact Nat.le_refl _)] at h; exact h)
      go_wp2
      go_ret
      exact ⟨⟨-1, rfl, by rw [HS.out]; rfl⟩, hnx⟩

theorem containsNr_any (T : Row) (w : World) (hT : T.At w) (p : Int → Bool) (x0 x1 x2 : Value) (CO : ∀ x ∈ T.l, ∀ u, Below w.heap.size w u → Calls Try.prog 72 #[.int .i64 x, x0, x1, x2] u fun e w' => e = .returned (.bool (!p x)) ∧ Below u.heap.size u w') :
    Calls Try.prog 60 #[.slice T.a T.l.length T.c, .func (.func 72) #[] #[x0, x1, x2]] w fun e w' => e = .returned (.bool (!T.l.all p)) ∧ Below w.heap.size w w' := by
  have CI := Lib.hid (indexNr_any T w hT p x0 x1 x2 CO)
  clear hT CO
  go_enter Try.func60, Try.ntmps60
  go_wp2_with fail
  refine (show Calls _ _ _ _ _ from CI.out).mono ?_
  rintro e W ⟨⟨i, rfl, hi⟩, hb⟩
  have HI := Lib.hid hi
  clear hi
  go_wp2
  go_ret
  exact ⟨by rw [← HI.out]; rfl, hb⟩

def InG (n : Nat) (x : Int) : Prop := 0 ≤ x ∧ x < (n : Int)
set_option maxHeartbeats 1000000 in
theorem near1_any (T : Tab) (x y D : Int) (g1 g2 g3 : Nat) (w : World) (hT : T.At w) (hg : Grd T.con) (hx : InG T.R.length x) (hy : InG T.R.length y) (h1 : w.cell? ⟨g1, 0, none⟩ = some (.slice T.a T.R.length T.c)) (h2 : w.cell? ⟨g2, 0, none⟩ = some (.int .i64 x)) (h3 : w.cell? ⟨g3, 0, none⟩ = some (.int .i64 D)) :
    Calls Try.prog 72 #[.int .i64 y, .pointer (some ⟨g1, 0, none⟩), .pointer (some ⟨g2, 0, none⟩), .pointer (some ⟨g3, 0, none⟩)] w fun e w' => e = .returned (.bool (!decide (cel T.con x.toNat y.toNat < D))) ∧ Below w.heap.size w w' := by
  obtain ⟨hx0, hx1⟩ := hx
  obtain ⟨hy0, hy1⟩ := hy
  obtain ⟨i, rfl⟩ : ∃ i : Nat, x = i := ⟨x.toNat, by omega⟩
  obtain ⟨j, rfl⟩ : ∃ i : Nat, y = i := ⟨y.toNat, by omega⟩
  obtain ⟨n, hn⟩ : ∃ n, n = T.R.length := ⟨_, rfl⟩
  have hn7 : n ≤ 7 := by have := hg.few; rw [con_length, ← hn] at this; exact this
  obtain ⟨b, o, ha, hrow⟩ := grd_cells hT hg (by omega)
  rw [← hn] at hrow
  obtain ⟨bi, oi, ci, hri⟩ := hrow i (by omega)
  obtain ⟨z, hz⟩ : ∃ z, z = cel T.con i j := ⟨_, rfl⟩
  have E := Lib.hid (fun k => dist_cell b o bi oi n T.c n ci i j z (w.drewN k) (by omega) (by omega) (by omega) (by omega) (hri _ (below_draws _ _)).1 (by rw [hz]; exact (hri _ (below_draws _ _)).2 j (by omega)))
  have HE : Hid ((!decide (cel T.con ((i : Nat) : Int).toNat ((j : Nat) : Int).toNat < D)) = decide (z ≥ D)) := Lib.hid (by
    rw [Int.toNat_natCast, Int.toNat_natCast, ← hz]
    by_cases h : z < D
    · rw [decide_eq_true h, decide_eq_false (by omega)]; rfl
    · rw [decide_eq_false h, decide_eq_true (by omega)]; rfl)
  rw [HE.out]
  rw [ha, ← hn] at h1
  clear hT hg hx0 hx1 hy0 hy1 hn hn7 ha hrow hri hz HE
  go_enter Try.func72, Try.ntmps72
  go_wp2
  go_quiet ((go_at_call 52; exact Calls.quiet_of_same (E.out _)))
  go_wp2
  go_ret
  exact ⟨rfl, below_draws w _⟩

set_option maxHeartbeats 1000000 in
theorem isNear_any (T : Tab) (x : Int) (r : Row) (D : Int) (w : World) (hT : T.At w) (hr : r.At w) (hg : Grd T.con) (hx : InG T.R.length x) (hl : ∀ y ∈ r.l, InG T.R.length y) :
    Calls Try.prog 68 #[.slice T.a T.R.length T.c, .int .i64 x, .slice r.a r.l.length r.c, .int .i64 D] w fun e w' => e = .returned (.bool (nearL T.con D x r.l)) ∧ Below w.heap.size w w' := by
  obtain ⟨wA, hA⟩ : ∃ u, u = ((w.alloc (.cells #[.slice T.a T.R.length T.c] 41)).alloc (.cells #[.int .i64 x] 3)).alloc (.cells #[.int .i64 D] 3) := ⟨_, rfl⟩
  have hbA : Below w.heap.size w wA := by rw [hA]; exact (((Below.refl _ w).alloc (Nat.le_refl _) _).alloc (by simp) _).alloc (by simp; omega) _
  have c1 : wA.cell? ⟨w.heap.size, 0, none⟩ = some (.slice T.a T.R.length T.c) := by
    have := (((Boxed.new w 41 (.slice T.a T.R.length T.c)).alloc (.cells #[.int .i64 x] 3)).alloc (.cells #[.int .i64 D] 3)).cell
    rw [hA]; exact this
  have c2 : wA.cell? ⟨w.heap.size + 1, 0, none⟩ = some (.int .i64 x) := by
    have := ((Boxed.new (w.alloc (.cells #[.slice T.a T.R.length T.c] 41)) 3 (.int .i64 x)).alloc (.cells #[.int .i64 D] 3)).cell
    rw [World.size_alloc] at this; rw [hA]; exact this
  have c3 : wA.cell? ⟨w.heap.size + 1 + 1, 0, none⟩ = some (.int .i64 D) := by
    have := (Boxed.new ((w.alloc (.cells #[.slice T.a T.R.length T.c] 41)).alloc (.cells #[.int .i64 x] 3)) 3 (.int .i64 D)).cell
    rw [World.size_alloc, World.size_alloc] at this; rw [hA]; exact this
  have CC := Lib.hid (containsNr_any r wA (hr.on hbA) (fun y => decide (cel T.con x.toNat y.toNat < D)) _ _ _ (fun y hy u hu => near1_any T x y D w.heap.size (w.heap.size + 1) (w.heap.size + 1 + 1) u ((hT.on hbA).on hu) hg hx (hl y hy) ((hu.cell (p := ⟨w.heap.size, 0, none⟩) (World.block_lt_of_cell? _ _ c1)).trans c1) ((hu.cell (p := ⟨w.heap.size + 1, 0, none⟩) (World.block_lt_of_cell? _ _ c2)).trans c2) ((hu.cell (p := ⟨w.heap.size + 1 + 1, 0, none⟩) (World.block_lt_of_cell? _ _ c3)).trans c3)))
  obtain ⟨v, hv⟩ : ∃ v, v = nearL T.con D x r.l := ⟨_, rfl⟩
  have CC1 := Lib.hid (by have := CC.out; rw [show (r.l.all fun y => decide (cel T.con x.toNat y.toNat < D)) = v from hv.symm] at this; exact this)
  rw [← hv]
  have HA := Lib.hid hA
  clear hT hr hg hx hl hA c1 c2 c3 CC hv
  go_enter Try.func68, Try.ntmps68
  go_wp2_with fail
  rw [← HA.out]
  refine (show Calls _ _ _ _ _ from CC1.out).mono ?_
  rintro e W ⟨rfl, hb⟩
  go_wp2
  go_ret
  exact ⟨by simp, hbA.trans (hb.mono hbA.size)⟩

set_option maxRecDepth 16000 in
set_option maxHeartbeats 1500000 in
theorem isNearGroup_any (T : Tab) (r : Row) (D : Int) (w : World) (hT : T.At w) (hr : r.At w) (hg : Grd T.con) (hl : ∀ y ∈ r.l, InG T.R.length y) :
    Calls Try.prog 58 #[.slice T.a T.R.length T.c, .slice r.a r.l.length r.c, .int .i64 D] w fun e w' => e = .returned (.bool (groupB T.con D r.l)) ∧ Below w.heap.size w w' := by
  have hlim := row_lim0 hr
  obtain ⟨m, hm⟩ : ∃ m, m = r.l.length := ⟨_, rfl⟩
  have hmc : (m : Int) ≤ (r.c : Int) := by obtain ⟨q, _, _⟩ := hr; rw [iv_length] at q; omega
  have HM := Lib.hid hm
  by_cases h0 : m = 0
  · have HE : Hid (groupB T.con D r.l = false) := Lib.hid (by unfold groupB; rw [← hm, h0]; simp)
    rw [HE.out, ← hm]
    subst h0
    clear hT hr hg hl hlim hm HE HM hmc
    go_enter Try.func58, Try.ntmps58
    go_wp2
    go_loopw [7, 8, 11] (fun _ _ i wr => i = .int .i64 0 ∧ w = wr) (fun _ _ _ _ => 0)
    case atStart => exact ⟨rfl, rfl⟩
    case round =>
      obtain ⟨rfl, rfl⟩ := hrel
      go_wp2
      go_ret
      exact ⟨rfl, Below.refl _ _⟩
  obtain ⟨b, o, ha, _, hc⟩ := row_cell hr (by omega)
  have HC := Lib.hid hc
  have CN := Lib.hid (fun k (hk : k < m) u (hu : Below w.heap.size w u) => (by
    have := isNear_any T (r.l.getD k 0) ⟨r.a, r.c, r.l.take k⟩ D u (hT.on hu) ((row_take hr k).on hu) hg (by rw [getD_at (by omega)]; exact hl _ (List.getElem_mem _)) (fun y hy => hl y (List.mem_of_mem_take hy))
    simp only [ha, List.length_take] at this
    rw [show min k r.l.length = k by omega] at this
    exact this : Calls Try.prog 68 #[.slice T.a T.R.length T.c, .int .i64 (r.l.getD k 0), .slice (some ⟨b, o, none⟩) k r.c, .int .i64 D] u fun e w' => e = .returned (.bool (nearL T.con D (r.l.getD k 0) (r.l.take k))) ∧ Below u.heap.size u w'))
  rw [ha, ← hm]
  rw [← hm] at hlim
  clear hT hr hg hl ha hc hm
  go_enter Try.func58, Try.ntmps58
  go_wp2
  go_loopw [7, 8, 11] (fun _ _ i wr => ∃ k : Nat, k ≤ m ∧ i = .int .i64 k ∧ Below w.heap.size w wr ∧ Hid (nearP T.con D r.l k = true)) (fun _ _ i _ => m - (intOf i).toNat)
  case atStart => exact ⟨0, Nat.zero_le _, rfl, Below.refl _ _, Lib.hid (by simp [nearP])⟩
  case round =>
    obtain ⟨k, hk, rfl, hnx, HP⟩ := hrel
    by_cases hlt : k < m
    · have hlti : (k : Int) < (m : Int) := by omega
      have hkc : (k : Int) ≤ (r.c : Int) := by omega
      have hcl := HC.out wr hnx k (by rw [← HM.out]; exact hlt)
      have C1 := CN.out k hlt wr hnx
      obtain ⟨x, hx⟩ : ∃ x, x = r.l.getD k 0 := ⟨_, rfl⟩
      obtain ⟨v, hv⟩ : ∃ v, v = nearL T.con D x (r.l.take k) := ⟨_, rfl⟩
      rw [← hx] at hcl C1
      rw [← hv] at C1
      have C2 := Lib.hid C1
      have HXV : Hid (nearL T.con D (r.l.getD k 0) (r.l.take k) = v) := Lib.hid (by rw [← hx, hv])
      have HNX := Lib.hid hnx
      clear hx hv C1 hnx
      go_wp2_with fail
      refine (show Calls _ _ _ _ _ from C2.out).mono ?_
      rintro e W ⟨rfl, hb⟩
      have HR2 := HNX.out.trans (hb.mono HNX.out.size)
      clear hb hcl
      cases v with
      | false =>
        have HE : Hid (groupB T.con D r.l = false) := Lib.hid (by unfold groupB; rw [nearP_out (by rw [← HM.out]; exact hlt) HXV.out]; rfl)
        go_wp2
        go_ret
        exact ⟨by rw [HE.out]; rfl, HR2⟩
      | true =>
        have HS : Hid (nearP T.con D r.l (k + 1) = true) := Lib.hid (by rw [nearP_step, HP.out, HXV.out]; rfl)
        go_wp2
        go_roundw
        case rel => exact ⟨k + 1, by omega, by go_num, HR2, HS⟩
        case measure => simp [intOf]; omega
    · obtain rfl : k = m := by omega
      have HE : Hid (groupB T.con D r.l = decide (0 < k)) := Lib.hid (by unfold groupB; rw [← HM.out, HP.out]; rfl)
      go_wp2
      go_ret
      exact ⟨by rw [HE.out]; rfl, hnx⟩
end Go.Proofs.Ytmbgipllkbahpaa
