/- Both sides of MedianSteps answer alike. Condition: the Field reads as such. -/
import Derived.Test.YtcameijabkpcaaaPairMedianOf
import Derived.Deep.AppendLies
namespace Go.Proofs.Ytcameijabkpcaaa
open Go.RowKit

/-- The values for 1, 2, .. j sites. -/
def valsT (F : Fld) (j : Nat) : List Int := (List.range j).map fun i => servT F (bestK (servT F) F.o.l.length (i + 1))
theorem valsT_step (F : Fld) (j : Nat) : valsT F (j + 1) = valsT F j ++ [servT F (bestK (servT F) F.o.l.length (j + 1))] := by unfold valsT; rw [List.range_succ, List.map_append]; rfl
theorem valsT_len (F : Fld) (j : Nat) : (valsT F j).length = j := by simp [valsT]
theorem valsT_like {F G : Fld} (h : G.Like F) (j : Nat) : valsT G j = valsT F j := by unfold valsT; rw [servT_like h, h.1]
/-- What MedianSteps answers. -/
def Steps (F : Fld) (l : List Int) (b : Bool) : Prop := (F.good = false ∧ l = [] ∧ b = false) ∨ (F.good = true ∧ l = valsT F F.o.l.length ∧ b = true)

set_option maxRecDepth 32000 in
set_option maxHeartbeats 2000000 in
theorem l4Values_any (F : Fld) (w : World) (hF : F.At w) (hg : F.good = true) :
    Calls Try.prog 52 #[F.val] w fun e w' => ∃ t : Row, e = .returned (.slice t.a t.l.length t.c) ∧ t.l = valsT F F.o.l.length ∧ t.Own 3 w' ∧ t.In w.heap.size w'.heap.size w' ∧ Below w.heap.size w w' := by
  obtain ⟨i0, hi, hz0, hz1, hz2⟩ := info_parts infoInt
  obtain ⟨wA, hA, hbA, bx, hFA, hszA⟩ := laid_fld F w 29 hF
  have hsz := good_sizes hg
  have HFA := Lib.hid hFA
  have HBX := Lib.hid bx
  have HA := Lib.hid hA
  have HG := Lib.hid hg
  obtain ⟨n, hn⟩ : ∃ n, n = F.o.l.length := ⟨_, rfl⟩
  have HN := Lib.hid hn
  have hn7 : n ≤ 7 := by omega
  have hni : (n : Int) ≤ 7 := by omega
  have H0 := Lib.hid (empty_own wA)
  have HB0 := Lib.hid (below_alloc wA (.cells #[] 3))
  rw [← hn]
  clear hF hA hFA bx hn hsz hg
  show Calls _ _ #[.agg #[F.o.val, F.t.val]] w _
  go_enter Try.func52, Try.ntmps52
  go_wp2
  go_loopw [3, 4] (fun out i wr => ∃ j : Nat, j ≤ n ∧ i = .int .i64 ((j : Int) + 1) ∧ wr.ownsRow wA.heap.size 3 1 out j (iv (valsT F j)) ∧ Below wA.heap.size wA wr) (fun _ i _ => n - (intOf i - 1).toNat)
  case atStart =>
    have e := HA.out
    have h0 := H0.out
    have h1 := HB0.out
    rw [e] at h0 h1 ⊢
    have hsz : (w.alloc (Obj.cells #[F.o.val, F.t.val] 29)).heap.size = w.heap.size + 1 := size_alloc _ _
    rw [hsz] at h0
    exact ⟨0, Nat.zero_le _, rfl, by rw [hsz]; exact h0, h1⟩
  case round =>
    obtain ⟨j, hj, rfl, hown0, hnx⟩ := hrel
    have y0 : wr.cell? ⟨w.heap.size, 0, none⟩ = some (.slice F.o.a n F.o.c) := by rw [HN.out]; exact (HBX.out.on hnx).c0
    have y1 := (HBX.out.on hnx).c1
    by_cases hlt : j < n
    · have hlti : (j : Int) + 1 ≤ (n : Int) := by omega
      have hms := bestK_sites HG.out (k := j + 1) (by omega) (by rw [← HN.out]; omega)
      obtain ⟨v, hv⟩ : ∃ v, v = servT F (bestK (servT F) n (j + 1)) := ⟨_, rfl⟩
      have HV : Hid (valsT F (j + 1) = valsT F j ++ [v]) := Lib.hid (by rw [valsT_step, hv, HN.out])
      have C1 := Lib.hid (fun u (hu : Below wA.heap.size wA u) => by have := l4Best_any F (j + 1) u (HFA.out.on hu) HG.out (by omega) (by rw [← HN.out]; omega); unfold Fld.val Row.val at this; rw [← HN.out] at this; push_cast at this; exact this)
      have C2 := Lib.hid (fun u (hu : Below wA.heap.size wA u) (y : Row) (hy : y.At u) (hl : y.l = up (bestK (servT F) n (j + 1))) => by have := l2Serve_servT F y _ u (HFA.out.on hu) hy HG.out (by rw [← HN.out]; exact hl) (fun e => by rw [e] at hms; simp at hms) hms.2; rw [← HN.out, ← hv] at this; unfold Fld.val Row.val at this; rw [← HN.out] at this; exact this : ∀ u, Below wA.heap.size wA u → ∀ y : Row, y.At u → y.l = up (bestK (servT F) n (j + 1)) → Calls Try.prog 50 #[.agg #[.slice F.o.a n F.o.c, F.t.val], .slice y.a y.l.length y.c] u fun e w' => e = .returned (.int .i64 v) ∧ Below u.heap.size u w')
      have hd0 : Below wr.heap.size wr wr.drew := (Below.refl _ _).drew
      have HO := Lib.hid (owns_below hown0 hd0)
      have hN : Below wA.heap.size wA wr.drew := hnx.drew
      have hszr : wA.heap.size ≤ wr.drew.heap.size := hnx.size
      have HS : Hid (∀ u, Below wA.heap.size wA u → ((u.cell? ⟨w.heap.size, 0, none⟩ = some (.slice F.o.a n F.o.c) ∧ u.cell? ⟨w.heap.size, 1, none⟩ = some F.t.val) ∧ Below wA.heap.size wA u)) := Lib.hid fun u hu => ⟨⟨by rw [HN.out]; exact (HBX.out.on hu).c0, (HBX.out.on hu).c1⟩, hu⟩
      have s0 := HS.out _ hN
      clear hv hms hown0 hd0 hnx
      go_wp2_with fail
      go_region_held3 (fun u => ((u.cell? ⟨w.heap.size, 0, none⟩ = some (.slice F.o.a n F.o.c) ∧ u.cell? ⟨w.heap.size, 1, none⟩ = some F.t.val) ∧ Below wA.heap.size wA u)) (first | exact s0 | exact HS.out _ (by assumption)) (first | (go_at_call 46; refine (show Calls _ _ _ _ _ from C1.out _ hN).mono ?_; rintro e u1 ⟨y, rfl, hy, hb1⟩; have HY := Lib.hid hy; have hB1 : Below wA.heap.size wA u1 := hN.trans (hb1.mono hszr); have HB1 := Lib.hid hb1; have hsz1 := hb1.size; clear hy hb1) | (go_at_call 50; refine (show Calls _ _ _ _ _ from C2.out _ hB1 y HY.out.ins.at HY.out.l).mono ?_; rintro e u2 ⟨rfl, hb2⟩; have hown := owns_below (owns_below HO.out HB1.out) hb2; have hsz2 := hb2.size; have hB2 : Below wA.heap.size wA u2 := hB1.trans (hb2.mono (by omega)); have hB3 : Below wA.heap.size wA (u2.alloc (.cells #[.int .i64 v] 3)) := hB2.alloc (by omega) _; clear hb2) | (refine step_append_lies _ rfl (.tmp 13) (.tmp 19) 22 rfl wA.heap.size 3 i0 (.int .i64 0) 1 8 Try.underlying22 hi hz0 hz1 hz2 rfl (by decide) _ _ _ rfl (hown.alloc _) ⟨u2.heap.size, 0, none⟩ 1 1 [.int .i64 v] rfl rfl (one_cell _ _ _) (by simp [Value.oneCell']) (by omega) (by unfold maxLen; omega) (by omega) (by simp; omega) _ rfl ?_; intro g cap w1 hown' hgrow hat hlt1; have hB4 : Below wA.heap.size wA w1 := hB3.grown hgrow (by simp; omega) (fun j hj => (hown.lt j hj).1)))
      have R1 : w1.ownsRow wA.heap.size 3 1 (.slice (some ⟨g, 0, none⟩) (j + 1) cap) (j + 1) (iv (valsT F (j + 1))) := by rw [HV.out]; simpa [iv] using hown'
      clear hown' hgrow hown hat s0 hB1 hB2 hB3 hsz1 hsz2 y0 y1
      go_wp2
      go_roundw
      case rel => exact ⟨j + 1, by omega, by first | rfl | go_num | (push_cast; rfl), R1, hB4⟩
      case measure => simp [intOf]; omega
    · obtain rfl : j = n := by omega
      have hge : ¬ ((j : Int) + 1 ≤ (j : Int)) := by omega
      go_wp2
      go_ret
      obtain ⟨t, ht, htl, hto, hti⟩ := row_of_own (l := valsT F j) (by rw [valsT_len]; exact hown0)
      exact ⟨t, congrArg Ending.returned ht, htl, hto, hti.wide hbA.size (Nat.le_refl _), hbA.trans (hnx.mono hbA.size)⟩

set_option maxRecDepth 32000 in
set_option maxHeartbeats 2000000 in
theorem medianValues_any (F : Fld) (w : World) (hF : F.At w) (hg : F.good = true) :
    Calls Try.prog 53 #[F.val] w fun e w' => ∃ t : Row, e = .returned (.slice t.a t.l.length t.c) ∧ t.l = valsT F F.o.l.length ∧ t.Own 3 w' ∧ t.In w.heap.size w'.heap.size w' ∧ Below w.heap.size w w' := by
  obtain ⟨i0, hi, hz0, hz1, hz2⟩ := info_parts infoInt
  obtain ⟨wA, hA, hbA, bx, hFA, hszA⟩ := laid_fld F w 29 hF
  have hsz := good_sizes hg
  have HFA := Lib.hid hFA
  have HBX := Lib.hid bx
  have HA := Lib.hid hA
  have HG := Lib.hid hg
  obtain ⟨n, hn⟩ : ∃ n, n = F.o.l.length := ⟨_, rfl⟩
  have HN := Lib.hid hn
  have hn7 : n ≤ 7 := by omega
  have hni : (n : Int) ≤ 7 := by omega
  have H0 := Lib.hid (empty_own wA)
  have HB0 := Lib.hid (below_alloc wA (.cells #[] 3))
  have x0 : (wA.alloc (.cells #[] 3)).cell? ⟨w.heap.size, 0, none⟩ = some (.slice F.o.a n F.o.c) := by rw [hn]; exact (bx.later _).c0
  rw [hA] at x0
  rw [← hn]
  clear hF hA hFA bx hn hsz hg
  show Calls _ _ #[.agg #[F.o.val, F.t.val]] w _
  go_enter Try.func53, Try.ntmps53
  go_wp2
  go_loopw [3, 4, 5, 6, 11] (fun out _ _ _ i wr => ∃ j : Nat, j ≤ n ∧ i = .int .i64 j ∧ wr.ownsRow wA.heap.size 3 1 out j (iv (valsT F j)) ∧ Below wA.heap.size wA wr) (fun _ _ _ _ i _ => n - (intOf i).toNat)
  case atStart =>
    have e := HA.out
    have h0 := H0.out
    have h1 := HB0.out
    rw [e] at h0 h1 ⊢
    have hsz : (w.alloc (Obj.cells #[F.o.val, F.t.val] 29)).heap.size = w.heap.size + 1 := size_alloc _ _
    rw [hsz] at h0
    exact ⟨0, Nat.zero_le _, rfl, by rw [hsz]; exact h0, h1⟩
  case round =>
    obtain ⟨j, hj, rfl, hown0, hnx⟩ := hrel
    clear x0
    have y0 : wr.cell? ⟨w.heap.size, 0, none⟩ = some (.slice F.o.a n F.o.c) := by rw [HN.out]; exact (HBX.out.on hnx).c0
    have y1 := (HBX.out.on hnx).c1
    by_cases hlt : j < n
    · have hlti : (j : Int) < (n : Int) := by omega
      obtain ⟨v, hv⟩ : ∃ v, v = servT F (bestK (servT F) n (j + 1)) := ⟨_, rfl⟩
      have HV : Hid (valsT F (j + 1) = valsT F j ++ [v]) := Lib.hid (by rw [valsT_step, hv, HN.out])
      have C1 := Lib.hid (by
        have := implVal_any F ((j : Int) + 1) wr (HFA.out.on hnx) v true (.inr ⟨by unfold kB; rw [HG.out, decide_eq_true (by omega), decide_eq_true (by rw [← HN.out]; omega)]; rfl, by rw [hv, ← HN.out, show ((j : Int) + 1).toNat = j + 1 by omega], rfl⟩)
        unfold Fld.val Row.val at this; rw [← HN.out] at this; exact this)
      have HO := Lib.hid hown0
      have HNX := Lib.hid hnx
      have hszr := hnx.size
      clear hv hown0 hnx
      go_wp2_with fail
      refine C1.out.mono ?_
      rintro e W1 ⟨rfl, hb1⟩
      have hown := owns_below HO.out hb1
      have hnx1 := HNX.out.trans (hb1.mono hszr)
      have hsz1 := hb1.size
      clear y0 y1 hb1
      go_wp2_with (at_builtin; refine wpList_append_own _ rfl _ _ 62 rfl wA.heap.size 3 i0 (.int .i64 0) 1 8 Try.underlying62 hi hz0 hz1 hz2 rfl (by decide) _ _ _ rfl (hown.alloc _) ⟨W1.heap.size, 0, none⟩ 1 1 [.int .i64 v] rfl rfl (one_cell _ _ _) (by simp [Value.oneCell']) (by unfold maxLen; omega) (by omega) (by simp; omega) ?_; intro v' w1 hown' hgrow _)
      have R1 : w1.ownsRow wA.heap.size 3 1 v' (j + 1) (iv (valsT F (j + 1))) := by rw [HV.out]; simpa [iv] using hown'
      have R2 : Below wA.heap.size wA w1 := (hnx1.alloc (by omega) _).grown hgrow (by simp; omega) (fun j hj => (hown.lt j hj).1)
      clear hown' hgrow hown hnx1
      go_wp2
      go_roundw
      case rel => exact ⟨j + 1, by omega, by go_num, R1, R2⟩
      case measure => simp [intOf]; omega
    · obtain rfl : j = n := by omega
      go_wp2
      go_ret
      obtain ⟨t, ht, htl, hto, hti⟩ := row_of_own (l := valsT F j) (by rw [valsT_len]; exact hown0)
      exact ⟨t, congrArg Ending.returned ht, htl, hto, hti.wide hbA.size (Nat.le_refl _), hbA.trans (hnx.mono hbA.size)⟩

set_option maxRecDepth 16000 in
set_option maxHeartbeats 1000000 in
theorem specSteps_any (F : Fld) (w : World) (hF : F.At w) (l : List Int) (b : Bool) (hv : Steps F l b) :
    Calls Try.prog 25 #[F.val] w (PInts l b w) := by
  obtain ⟨wA, hA, hbA, bx, hFA, hszA⟩ := laid_fld F w 29 hF
  have HFA := Lib.hid hFA
  have HBX := Lib.hid bx
  have HA := Lib.hid hA
  have CT := Lib.hid (l2Good_any F wA hFA)
  have x0 := bx.c0
  have x1 := bx.c1
  rw [hA] at x0 x1
  clear hF hA hFA bx
  show Calls _ _ #[.agg #[F.o.val, F.t.val]] w _
  rcases hv with ⟨h2, rfl, rfl⟩ | ⟨h2, rfl, rfl⟩
  · rw [h2] at CT
    clear h2
    go_enter Try.func25, Try.ntmps25
    go_wp2_with fail
    rw [show w.alloc (Obj.cells #[F.o.val, F.t.val] 29) = wA from HA.out.symm]
    refine (show Calls _ _ _ _ _ from CT.out).mono ?_
    rintro e W1 ⟨rfl, hb1⟩
    have HB := Lib.hid (hbA.trans (hb1.mono hbA.size))
    clear hb1 x0 x1
    go_wp2
    go_ret2
    obtain ⟨t, ht, htl, hto, hti⟩ := row_of_own (empty_own W1)
    exact ⟨t, congrArg (fun v => Ending.returned (.tuple #[v, .bool false])) ht, htl, hto, hti.wide HB.out.size (Nat.le_refl _), HB.out.trans ((below_alloc W1 _).mono HB.out.size)⟩
  · rw [h2] at CT
    have CB := Lib.hid (fun W1 (hb1 : Below wA.heap.size wA W1) => l4Values_any F W1 (HFA.out.on hb1) h2)
    clear h2
    go_enter Try.func25, Try.ntmps25
    go_wp2_with fail
    rw [show w.alloc (Obj.cells #[F.o.val, F.t.val] 29) = wA from HA.out.symm]
    refine (show Calls _ _ _ _ _ from CT.out).mono ?_
    rintro e W1 ⟨rfl, hb1⟩
    clear x0 x1
    have y0 := (HBX.out.on hb1).c0
    have y1 := (HBX.out.on hb1).c1
    have CB1 := Lib.hid (CB.out W1 hb1)
    have HB1 := Lib.hid hb1
    clear hb1
    go_wp2_with fail
    refine (show Calls _ _ _ _ _ from CB1.out).mono ?_
    rintro e W2 ⟨y, rfl, hyl, hyo, hyi, hb2⟩
    have HYL := Lib.hid hyl
    clear hyl y0 y1
    have hb1 := HB1.out
    go_wp2
    go_ret2
    exact ⟨y, rfl, HYL.out, hyo, hyi.wide (Nat.le_trans hbA.size hb1.size) (Nat.le_refl _), (hbA.trans (hb1.mono hbA.size)).trans (hb2.mono (Nat.le_trans hbA.size hb1.size))⟩

set_option maxRecDepth 16000 in
set_option maxHeartbeats 1000000 in
theorem implSteps_any (F : Fld) (w : World) (hF : F.At w) (l : List Int) (b : Bool) (hv : Steps F l b) :
    Calls Try.prog 26 #[F.val] w (PInts l b w) := by
  obtain ⟨wA, hA, hbA, bx, hFA, hszA⟩ := laid_fld F w 29 hF
  have HFA := Lib.hid hFA
  have HBX := Lib.hid bx
  have HA := Lib.hid hA
  have CT := Lib.hid (implIsField_any F wA hFA)
  have x0 := bx.c0
  have x1 := bx.c1
  rw [hA] at x0 x1
  clear hF hA hFA bx
  show Calls _ _ #[.agg #[F.o.val, F.t.val]] w _
  rcases hv with ⟨h2, rfl, rfl⟩ | ⟨h2, rfl, rfl⟩
  · rw [h2] at CT
    clear h2
    go_enter Try.func26, Try.ntmps26
    go_wp2_with fail
    rw [show w.alloc (Obj.cells #[F.o.val, F.t.val] 29) = wA from HA.out.symm]
    refine (show Calls _ _ _ _ _ from CT.out).mono ?_
    rintro e W1 ⟨rfl, hb1⟩
    have HB := Lib.hid (hbA.trans (hb1.mono hbA.size))
    clear hb1 x0 x1
    go_wp2
    go_ret2
    obtain ⟨t, ht, htl, hto, hti⟩ := row_of_own (empty_own W1)
    exact ⟨t, congrArg (fun v => Ending.returned (.tuple #[v, .bool false])) ht, htl, hto, hti.wide HB.out.size (Nat.le_refl _), HB.out.trans ((below_alloc W1 _).mono HB.out.size)⟩
  · rw [h2] at CT
    have CB := Lib.hid (fun W1 (hb1 : Below wA.heap.size wA W1) => medianValues_any F W1 (HFA.out.on hb1) h2)
    clear h2
    go_enter Try.func26, Try.ntmps26
    go_wp2_with fail
    rw [show w.alloc (Obj.cells #[F.o.val, F.t.val] 29) = wA from HA.out.symm]
    refine (show Calls _ _ _ _ _ from CT.out).mono ?_
    rintro e W1 ⟨rfl, hb1⟩
    clear x0 x1
    have y0 := (HBX.out.on hb1).c0
    have y1 := (HBX.out.on hb1).c1
    have CB1 := Lib.hid (CB.out W1 hb1)
    have HB1 := Lib.hid hb1
    clear hb1
    go_wp2_with fail
    refine (show Calls _ _ _ _ _ from CB1.out).mono ?_
    rintro e W2 ⟨y, rfl, hyl, hyo, hyi, hb2⟩
    have HYL := Lib.hid hyl
    clear hyl y0 y1
    have hb1 := HB1.out
    go_wp2
    go_ret2
    exact ⟨y, rfl, HYL.out, hyo, hyi.wide (Nat.le_trans hbA.size hb1.size) (Nat.le_refl _), (hbA.trans (hb1.mono hbA.size)).trans (hb2.mono (Nat.le_trans hbA.size hb1.size))⟩
theorem steps_like {F G : Fld} {l : List Int} {b : Bool} (h : Steps F l b) (hl : G.Like F) : Steps G l b := by
  rcases h with ⟨h1, h2⟩ | ⟨h1, h2, h3⟩
  · exact .inl ⟨by rw [hl.good, h1], h2⟩
  · exact .inr ⟨by rw [hl.good, h1], by rw [valsT_like hl, hl.1]; exact h2, h3⟩
theorem medianSteps_pair (F : Fld) (_ : F.Small) : ∃ (l : List Int) (b : Bool) (_ : l.length ≤ 1048576),
    (∀ (G : Fld) (W : World), G.At W → G.Like F → Calls Try.prog 25 #[G.val] W (PInts l b W)) ∧
    (∀ (G : Fld) (W : World), G.At W → G.Like F → Calls Try.prog 26 #[G.val] W (PInts l b W)) := by
  obtain ⟨l, b, h, hl⟩ : ∃ l b, Steps F l b ∧ l.length ≤ 1048576 := by
    by_cases h : F.good = true
    · exact ⟨_, _, .inr ⟨h, rfl, rfl⟩, by rw [valsT_len]; have := (good_sizes h).2.1; omega⟩
    · exact ⟨_, _, .inl ⟨by simpa using h, rfl, rfl⟩, by simp⟩
  exact ⟨l, b, hl, fun G W hG hlk => specSteps_any G W hG l b (steps_like h hlk), fun G W hG hlk => implSteps_any G W hG l b (steps_like h hlk)⟩
end Go.Proofs.Ytcameijabkpcaaa
