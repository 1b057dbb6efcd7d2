/- Both sides of ClosedSites answer alike. Condition: Field and prices read as such. -/
import Derived.Test.YthabpdfbpdokjaaPairTightSites
import Derived.Test.YthabpdfbpdokjaaPairRestCosts
import Derived.Test.YthabpdfbpdokjaaSums
namespace Go.Proofs.Ythabpdfbpdokjaa
open Go.RowKit

/-- What ClosedSites answers. -/
def ClosedAre (F : Fld) (p : List Int) (v : Int) (l : List Int) (b : Bool) : Prop :=
  ((fairB F p = false ∨ upTo 1400 v = false) ∧ l = [] ∧ b = false) ∨ (fairB F p = true ∧ upTo 1400 v = true ∧ l = places (fun x => decide (v < x + p.sum)) (restsTo F p F.o.l.length) F.o.l.length ∧ b = true)
theorem closed_like {F G : Fld} {p : List Int} {v : Int} {l : List Int} {b : Bool} (h : ClosedAre F p v l b) (hl : G.Like F) : ClosedAre G p v l b := by
  rcases h with ⟨h1, h2, h3⟩ | ⟨h1, h0, h2, h3⟩
  · exact .inl ⟨by rw [fair_like hl]; exact h1, h2, h3⟩
  · exact .inr ⟨by rw [fair_like hl, h1], h0, by rw [h2, ← rests_like hl, hl.1], h3⟩
theorem closed_some (F : Fld) (p : List Int) (v : Int) : ∃ (l : List Int) (b : Bool), ClosedAre F p v l b ∧ l.length ≤ 1048576 := by
  by_cases h : fairB F p = true
  · by_cases h' : upTo 1400 v = true
    · exact ⟨_, _, .inr ⟨h, h', rfl, rfl⟩, by have := good_sizes (fair_iff.1 h).1.good; have := places_len (fun x => decide (v < x + p.sum)) (restsTo F p F.o.l.length) F.o.l.length; omega⟩
    · exact ⟨_, _, .inl ⟨.inr (by simpa using h'), rfl, rfl⟩, by simp⟩
  · exact ⟨_, _, .inl ⟨.inl (by simpa using h), rfl, rfl⟩, by simp⟩
theorem priced_small {F : Fld} {p : List Int} (h : Priced F p) : p.length ≤ 7 := by have := good_sizes h.good; have := h.len; omega

set_option maxRecDepth 8000 in
set_option maxHeartbeats 2000000 in
theorem specClosed_any (F : Fld) (p : Row) (v : Int) (w : World) (hF : F.At w) (hp : p.At w) (l : List Int) (b : Bool) (hv : ClosedAre F p.l v l b) :
    Calls Try.prog 21 #[F.val, .slice p.a p.l.length p.c, .int .i64 v] w (PInts l b w) := by
  obtain ⟨i0, hi, hz0, hz1, hz2⟩ := info_parts infoInt
  obtain ⟨wA, hA, hbA, bx, hFA, hszA⟩ := laid_fld F w 29 hF
  have HPA := Lib.hid (hp.on hbA)
  have HFA := Lib.hid hFA
  have HBX := Lib.hid bx
  have hown0 := empty_own wA
  have hb0 := below_alloc wA (.cells #[] 3)
  obtain ⟨w0, hw0⟩ : ∃ u, u = wA.alloc (.cells #[] 3) := ⟨_, rfl⟩
  rw [← hw0] at hown0 hb0
  have HW0 : Hid (w0 = (w.alloc (Obj.cells #[F.o.val, F.t.val] 29)).alloc (.cells #[] 3)) := Lib.hid (by rw [hw0, hA])
  have H0 := Lib.hid hown0
  have CT := Lib.hid (fun l b h => specRest_any F p w0 (HFA.out.on hb0) (HPA.out.on hb0) l b h)
  have hszw : Hid (wA.heap.size = w.heap.size + 1) := Lib.hid hszA
  have HSZ0 : Hid (w0.heap.size = wA.heap.size + 1) := Lib.hid (by rw [hw0]; exact size_alloc _ _)
  have y00 := (HBX.out.on hb0).c0
  have y01 := (HBX.out.on hb0).c1
  have Y0 := Lib.hid (show ((w.alloc (Obj.cells #[F.o.val, F.t.val] 29)).alloc (.cells #[] 3)).cell? ⟨w.heap.size, 0, none⟩ = some F.o.val by rw [← HW0.out]; exact y00)
  have Y1 := Lib.hid (show ((w.alloc (Obj.cells #[F.o.val, F.t.val] 29)).alloc (.cells #[] 3)).cell? ⟨w.heap.size, 1, none⟩ = some F.t.val by rw [← HW0.out]; exact y01)
  have z0 := Y0.out
  have z1 := Y1.out
  clear hF hp hA hFA bx hw0 hown0 hszA y00 y01
  show Calls _ _ #[.agg #[F.o.val, F.t.val], _, _] w _
  go_enter Try.func21, Try.ntmps21
  go_wp2_with fail
  rw [← HW0.out]
  have ci := Lib.hid fun W => l1In_any v 0 1400 W
  by_cases hfa : fairB F p.l = true
  · have CR := Lib.hid (CT.out _ _ (.inr ⟨hfa, rfl, rfl⟩))
    have hpr := (fair_iff.1 hfa).1
    have hsz := good_sizes hpr.good
    have hni : (F.o.l.length : Int) ≤ 7 := by omega
    have HSB := Lib.hid (show wA.heap.size < w0.heap.size by rw [HSZ0.out]; omega)
    have HRB := Lib.hid fun a => rest_bound hpr.good hpr.due (by omega) hpr.len a
    have HPR := Lib.hid hpr
    clear hpr
    refine (show Calls _ _ _ _ _ from CR.out).mono ?_
    rintro e W1 ⟨t, rfl, htl, -, hti, hb1⟩
    have hb01 := hb0.trans (hb1.mono hb0.size)
    have HO1 := Lib.hid (owns_below H0.out hb1)
    obtain ⟨ta, tc, tl⟩ := t
    simp only at htl
    subst htl
    rw [show (restsTo F p.l F.o.l.length).length = F.o.l.length from rests_length _ _ _]
    obtain ⟨t1, t2, t3⟩ := hti
    obtain ⟨b1, o, rfl, hlb, _, hbb, hcell⟩ := t3.resolve_left (fun h => by have := congrArg List.length (iv_nil h); simp only [rests_length, List.length_nil] at this; omega)
    have HCE := Lib.hid (fun j (hj : j < F.o.l.length) => (hcell j _ (iv_at (by rw [rests_length]; exact hj))).trans (by rw [rests_at F p.l hj]) : ∀ j, j < F.o.l.length → W1.cell? ⟨b1, o + j, none⟩ = some (.int .i64 (restAt F p.l j)))
    have HBB := Lib.hid hbb
    have HB01 := Lib.hid hb01
    clear z0 z1 t1 t2 t3 hcell hb1 hb01 hbb hsz
    by_cases hv2 : upTo 1400 v = true
    · have hv3 : (decide (0 ≤ v) && decide (v ≤ 1400)) = true := hv2
      have HLE : Hid (l = places (fun x => decide (v < x + p.l.sum)) (restsTo F p.l F.o.l.length) F.o.l.length ∧ b = true) := Lib.hid (by
        rcases hv with ⟨h | h, _⟩ | ⟨_, _, h1, h2⟩
        · rw [hfa] at h; cases h
        · rw [hv2] at h; cases h
        · exact ⟨h1, h2⟩)
      have ci1 := Lib.hid (fun W => by have := ci.out W; rw [hv3] at this; exact this : ∀ W, Calls Try.prog 47 #[.int .i64 v, .int .i64 0, .int .i64 1400] W fun e w' => e = .returned (.bool true) ∧ w' = W)
      have hvb := upTo_iff.1 hv2
      clear hv hv2 hv3 ci hfa
      go_wp2_with fail
      refine (ci1.out _).mono ?_
      rintro e W ⟨rfl, rfl⟩
      have HNE : Hid ((Value.slice (some ⟨w.heap.size + 1, 0, none⟩) 0 0).ownBlock ≠ some b1) := Lib.hid (fun e => by
        have e' : w.heap.size + 1 = b1 := by simpa [Value.ownBlock] using e
        have := HSB.out; have := hszw.out; omega)
      obtain ⟨P, hP⟩ : ∃ P : Int → Bool, P = fun x => decide (v < x + p.l.sum) := ⟨_, rfl⟩
      obtain ⟨R, hR⟩ : ∃ R, R = restsTo F p.l F.o.l.length := ⟨_, rfl⟩
      obtain ⟨s, hs⟩ : ∃ s, s = p.l.sum := ⟨_, rfl⟩
      have HPD : Hid (∀ x, P x = decide (v < x + s)) := Lib.hid fun x => by rw [hP, hs]
      have HLE2 : Hid (l = places P R F.o.l.length) := Lib.hid (by rw [HLE.out.1, hP, hR])
      have HRD : Hid (∀ k, k < F.o.l.length → R.getD k 0 = restAt F p.l k) := Lib.hid fun k hk => by rw [hR, rests_getD F p.l hk]
      have hsb := sum_due HPR.out.due (by omega)
      rw [← hs] at hsb
      have hp7 := priced_small HPR.out
      have CS := Lib.hid (fun u (hu : Below wA.heap.size wA u) => by have := l3Sum_any p u (HPA.out.on hu) (due_more HPR.out.due) (by omega); rw [← hs] at this; exact this : ∀ u, Below wA.heap.size wA u → Calls Try.prog 48 #[.slice p.a p.l.length p.c] u fun e w' => e = .returned (.int .i64 s) ∧ w' = u)
      have hsb2 : s ≤ 3500 := by omega
      have hsb1 : 0 ≤ s := hsb.1
      clear hP hR hs hsb
      go_wp2
      go_loopw [8, 11] (fun out i wr => ∃ k : Nat, k ≤ F.o.l.length ∧ i = .int .i64 k ∧ wr.ownsRow wA.heap.size 3 1 out (places P R k).length (iv (places P R k)) ∧ Below wA.heap.size wA wr ∧ out.ownBlock ≠ some b1 ∧ b1 < wr.heap.size ∧ ∀ j, j < F.o.l.length → wr.cell? ⟨b1, o + j, none⟩ = some (.int .i64 (restAt F p.l j))) (fun _ i _ => F.o.l.length - (intOf i).toNat)
      case atStart => exact ⟨0, Nat.zero_le _, rfl, by have := HO1.out; rw [hszw.out] at this ⊢; exact this, HB01.out, HNE.out, HBB.out, HCE.out⟩
      case round =>
        obtain ⟨k, hk, rfl, hown0, hnx, hne, hbw, hce⟩ := hrel
        by_cases hlt : k < F.o.l.length
        · have hlti : (k : Int) < (F.o.l.length : Int) := by omega
          obtain ⟨y, hy⟩ : ∃ y, y = restAt F p.l k := ⟨_, rfl⟩
          have hcy : wr.cell? ⟨b1, o + k, none⟩ = some (.int .i64 y) := by rw [hy]; exact hce k hlt
          have HXY : Hid (R.getD k 0 = y) := Lib.hid (by rw [HRD.out k hlt, hy])
          have HCR := Lib.hid hce
          have hyb := HRB.out k
          rw [← hy] at hyb
          have w1 : IntKind.i64.wrap (s + y) = s + y := IntWalk.i64_in _ (by omega)
          have e1 : -9223372036854775808 ≤ s + y := by omega
          have e2 : s + y ≤ 9223372036854775807 := by omega
          have CS1 := Lib.hid (fun n => CS.out (wr.drewN n) (hnx.trans ((below_draws wr n).mono hnx.size)) : ∀ n, Calls Try.prog 48 #[.slice p.a p.l.length p.c] (wr.drewN n) fun e w' => e = .returned (.int .i64 s) ∧ w' = wr.drewN n)
          have hpl := places_len P R k
          have hszr := hnx.size
          clear hy hce hyb
          by_cases hxy : v < s + y
          · have HE : Hid (places P R (k + 1) = places P R k ++ [(k : Int)]) := Lib.hid (places_yes (by rw [HXY.out, HPD.out]; simp; omega))
            have HO := Lib.hid hown0
            have HN := Lib.hid hnx
            have HNE2 := Lib.hid hne
            clear hown0 hnx hne
            go_wp2
            go_quiet ((go_at_call 48; exact Calls.quiet_of_same (CS1.out _)))
            obtain ⟨u, hu⟩ : ∃ u, u = wr.drewN nq := ⟨_, rfl⟩
            have hbd := below_draws wr nq
            rw [← hu] at hbd ⊢
            have hown := owns_below HO.out hbd
            have hnu := HN.out.trans (hbd.mono hszr)
            have hszu := hbd.size
            have HCU := Lib.hid (fun j hj => (hbd.cell (p := ⟨b1, o + j, none⟩) hbw).trans (HCR.out j hj) : ∀ j, j < F.o.l.length → u.cell? ⟨b1, o + j, none⟩ = some (.int .i64 (restAt F p.l j)))
            clear hu hbd hcy
            go_wp2_with (at_builtin; refine wpList_append_own_at _ rfl _ _ 22 rfl wA.heap.size 3 i0 (.int .i64 0) 1 8 Try.underlying22 hi hz0 hz1 hz2 rfl (by decide) _ _ _ rfl (hown.alloc _) ⟨u.heap.size, 0, none⟩ 1 1 [.int .i64 (k : Int)] rfl rfl (one_cell _ _ _) (by simp [Value.oneCell']) (by unfold maxLen; omega) (by omega) (by simp; omega) ?_; intro v' w1 hown' hgrow _ hat)
            have R1 : w1.ownsRow wA.heap.size 3 1 v' (places P R (k + 1)).length (iv (places P R (k + 1))) := by rw [HE.out]; exact own_snoc rfl hown'
            have R2 : Below wA.heap.size wA w1 := (hnu.alloc (by omega) _).grown hgrow (by simp; omega) (fun j hj => (hown.lt j hj).1)
            have hub : b1 < (u.alloc (.cells #[.int .i64 (k : Int)] 3)).heap.size := by rw [size_alloc]; omega
            have R3 : v'.ownBlock ≠ some b1 := by
              rcases hat with h | h
              · rw [h]; exact HNE2.out
              · rw [h]; intro e; simp only [Option.some.injEq] at e; omega
            have R4 : b1 < w1.heap.size := Nat.lt_of_lt_of_le hub hgrow.size
            have R5 := Lib.hid (fun j hj => grown_cell hgrow hub HNE2.out (((below_alloc u _).cell (p := ⟨b1, o + j, none⟩) (by show b1 < _; omega)).trans (HCU.out j hj)) : ∀ j, j < F.o.l.length → w1.cell? ⟨b1, o + j, none⟩ = some (.int .i64 (restAt F p.l j)))
            clear hown' hgrow hown hat hub
            go_wp2
            go_roundw
            case rel => exact ⟨k + 1, by omega, by go_num, R1, R2, R3, R4, R5.out⟩
            case measure => simp [intOf]; omega
          · have HE : Hid (places P R (k + 1) = places P R k) := Lib.hid (places_no (by rw [HXY.out, HPD.out]; simp; omega))
            have HO := Lib.hid hown0
            have HN := Lib.hid hnx
            have HNE2 := Lib.hid hne
            clear hown0 hnx hne
            go_wp2
            go_quiet ((go_at_call 48; exact Calls.quiet_of_same (CS1.out _)))
            have hbd := below_draws wr nq
            have R1 := Lib.hid (owns_below HO.out hbd)
            have R2 := HN.out.trans (hbd.mono hszr)
            have R4 : b1 < (wr.drewN nq).heap.size := Nat.lt_of_lt_of_le hbw hbd.size
            have R5 := Lib.hid (fun j hj => (hbd.cell (p := ⟨b1, o + j, none⟩) hbw).trans (HCR.out j hj) : ∀ j, j < F.o.l.length → (wr.drewN nq).cell? ⟨b1, o + j, none⟩ = some (.int .i64 (restAt F p.l j)))
            clear hcy
            go_wp2
            go_roundw
            case rel => exact ⟨k + 1, by omega, by go_num, by rw [HE.out]; exact R1.out, R2, HNE2.out, R4, R5.out⟩
            case measure => simp [intOf]; omega
        · obtain rfl : k = F.o.l.length := by omega
          go_wp2
          go_ret2
          rw [HLE2.out, HLE.out.2]
          exact ints_end rfl hown0 hbA.size (hbA.trans (hnx.mono hbA.size))
    · have hv1 : upTo 1400 v = false := by simpa using hv2
      have hv3 : (decide (0 ≤ v) && decide (v ≤ 1400)) = false := hv1
      have HLE : Hid (l = [] ∧ b = false) := Lib.hid (by
        rcases hv with ⟨_, h1, h2⟩ | ⟨_, h, _⟩
        · exact ⟨h1, h2⟩
        · rw [hv1] at h; cases h)
      have ci1 := Lib.hid (fun W => by have := ci.out W; rw [hv3] at this; exact this : ∀ W, Calls Try.prog 47 #[.int .i64 v, .int .i64 0, .int .i64 1400] W fun e w' => e = .returned (.bool false) ∧ w' = W)
      clear hv hv1 hv2 hv3 ci hfa
      go_wp2_with fail
      refine (ci1.out _).mono ?_
      rintro e W ⟨rfl, rfl⟩
      go_wp2
      go_ret2
      rw [HLE.out.1, HLE.out.2]
      exact ints_end rfl (by have := HO1.out; rw [hszw.out] at this; exact this) (by omega) (hbA.trans (HB01.out.mono hbA.size))
  · have hfa1 : fairB F p.l = false := by simpa using hfa
    have HLE : Hid (l = [] ∧ b = false) := Lib.hid (by
      rcases hv with ⟨_, h1, h2⟩ | ⟨h, _⟩
      · exact ⟨h1, h2⟩
      · rw [hfa1] at h; cases h)
    have CR := Lib.hid (CT.out _ _ (.inl ⟨hfa1, rfl, rfl⟩))
    clear hv hfa hfa1 ci
    refine (show Calls _ _ _ _ _ from CR.out).mono ?_
    rintro e W1 ⟨t, rfl, htl, -, hti, hb1⟩
    have hb01 := hb0.trans (hb1.mono hb0.size)
    have HO1 := Lib.hid (owns_below H0.out hb1)
    clear z0 z1 htl hti
    go_wp2
    go_ret2
    rw [HLE.out.1, HLE.out.2]
    exact ints_end rfl (by have := HO1.out; rw [hszw.out] at this; exact this) (by omega) (hbA.trans (hb01.mono hbA.size))


set_option maxRecDepth 8000 in
set_option maxHeartbeats 2000000 in
theorem implClosed_any (F : Fld) (p : Row) (v : Int) (w : World) (hF : F.At w) (hp : p.At w) (l : List Int) (b : Bool) (hv : ClosedAre F p.l v l b) :
    Calls Try.prog 22 #[F.val, .slice p.a p.l.length p.c, .int .i64 v] w (PInts l b w) := by
  obtain ⟨wA, hA, hbA, bx, hFA, hszA⟩ := laid_fld F w 29 hF
  have hbB := below_alloc wA (.cells #[.int .i64 v] 3)
  obtain ⟨wB, hB⟩ : ∃ u, u = wA.alloc (.cells #[.int .i64 v] 3) := ⟨_, rfl⟩
  rw [← hB] at hbB
  have hbw := hbA.trans (hbB.mono hbA.size)
  have HPB := Lib.hid ((hp.on hbA).on hbB)
  have HFB := Lib.hid (hFA.on hbB)
  have HBX := Lib.hid (bx.on hbB)
  have HW : Hid (wB = (w.alloc (Obj.cells #[F.o.val, F.t.val] 29)).alloc (.cells #[.int .i64 v] 3)) := Lib.hid (by rw [hB, hA])
  have hcv : wB.cell? ⟨w.heap.size + 1, 0, none⟩ = some (.int .i64 v) := by rw [hB, ← hszA]; simp
  have HCV := Lib.hid hcv
  have hlt1 : w.heap.size + 1 < wB.heap.size := World.block_lt_of_cell? _ _ hcv
  have CT := Lib.hid (fun l b h => implRest_any F p wB HFB.out HPB.out l b h)
  have y00 := HBX.out.c0
  have y01 := HBX.out.c1
  rw [HW.out] at y00 y01
  clear hF hp hA hFA bx hB hbA hbB hcv
  show Calls _ _ #[.agg #[F.o.val, F.t.val], _, _] w _
  go_enter Try.func22, Try.ntmps22
  go_wp2_with fail
  rw [← HW.out]
  clear y00 y01
  by_cases hfa : fairB F p.l = true
  · have CR := Lib.hid (CT.out _ _ (.inr ⟨hfa, rfl, rfl⟩))
    have hpr := (fair_iff.1 hfa).1
    have hsz := good_sizes hpr.good
    have hni : (F.o.l.length : Int) ≤ 7 := by omega
    have HRB := Lib.hid fun a => rest_bound hpr.good hpr.due (by omega) hpr.len a
    have HPR := Lib.hid hpr
    clear hpr
    refine (show Calls _ _ _ _ _ from CR.out).mono ?_
    rintro e W1 ⟨t, rfl, htl, -, hti, hb1⟩
    have hcv1 : W1.cell? ⟨w.heap.size + 1, 0, none⟩ = some (.int .i64 v) := (hb1.cell (p := ⟨w.heap.size + 1, 0, none⟩) hlt1).trans HCV.out
    have hbw1 := hbw.trans (hb1.mono hbw.size)
    have htn : t.l.length = F.o.l.length := by rw [htl, rests_length]
    by_cases hv2 : upTo 1400 v = true
    · have HLE : Hid (l = places (fun x => decide (v < x + p.l.sum)) (restsTo F p.l F.o.l.length) F.o.l.length ∧ b = true) := Lib.hid (by
        rcases hv with ⟨h | h, _⟩ | ⟨_, _, h1, h2⟩
        · rw [hfa] at h; cases h
        · rw [hv2] at h; cases h
        · exact ⟨h1, h2⟩)
      obtain ⟨hv0, hv1⟩ := upTo_iff.1 hv2
      obtain ⟨s, hs⟩ : ∃ s, s = p.l.sum := ⟨_, rfl⟩
      have hp7 := priced_small HPR.out
      have hsb := sum_due HPR.out.due (by omega)
      have CS := Lib.hid (by have := sumB_any p W1 (HPB.out.on hb1) (due_more HPR.out.due) (by omega); rw [← hs] at this; exact this : Calls Try.prog 50 #[.slice p.a p.l.length p.c] W1 fun e w' => e = .returned (.int .i64 s) ∧ w' = W1)
      rw [← hs] at hsb
      have HLE2 : Hid (l = places (fun x => decide (v < x + s)) t.l t.l.length) := Lib.hid (by rw [HLE.out.1, htl, rests_length, hs])
      have hsb2 : s ≤ 3500 := by omega
      have hsb1 : 0 ≤ s := hsb.1
      have hbC := below_alloc W1 (.cells #[.int .i64 s] 3)
      have CP := Lib.hid (placesWhere_closed t W1.heap.size (w.heap.size + 1) (fun x => decide (v < x + s)) (W1.alloc (.cells #[.int .i64 s] 3)) (hti.at.on hbC) (by omega) (fun x hx u hu => by
        have hxb : -3500 ≤ x ∧ x ≤ 99 := by
          rw [htl] at hx
          obtain ⟨a, _, rfl⟩ := List.mem_map.1 hx
          have := HRB.out a; omega
        refine closed1_any x s v W1.heap.size (w.heap.size + 1) u ?_ ?_ (by omega) (by omega) (by omega) (by omega)
        · exact (hu.cell (p := ⟨W1.heap.size, 0, none⟩) (by show W1.heap.size < _; rw [size_alloc]; omega)).trans (by simp)
        · exact ((hbC.trans (hu.mono hbC.size)).cell (p := ⟨w.heap.size + 1, 0, none⟩) (World.block_lt_of_cell? _ _ hcv1)).trans hcv1))
      have HBC := Lib.hid (hbw1.trans (hbC.mono hbw1.size))
      clear hv hv2 hfa htl htn hti hb1 hs hsb hbC
      go_wp2_with fail
      refine CS.out.mono ?_
      rintro e W ⟨rfl, rfl⟩
      go_wp2_with fail
      refine (show Calls _ _ _ _ _ from CP.out).mono ?_
      rintro e W3 ⟨q, rfl, hql, hqo, hqi, hb3⟩
      have HQL := Lib.hid hql
      have hszc := HBC.out.size
      clear hql
      go_wp2
      go_ret2
      rw [HLE2.out, HLE.out.2]
      exact ⟨q, rfl, HQL.out, hqo, hqi.wide hszc (Nat.le_refl _), HBC.out.trans (hb3.mono hszc)⟩
    · have hv1 : upTo 1400 v = false := by simpa using hv2
      have HLE : Hid (l = [] ∧ b = false) := Lib.hid (by
        rcases hv with ⟨_, h1, h2⟩ | ⟨_, h, _⟩
        · exact ⟨h1, h2⟩
        · rw [hv1] at h; cases h)
      have HO1 := Lib.hid (empty_own W1)
      have hb0 := below_alloc W1 (.cells #[] 3)
      have hsz1 := hbw1.size
      have HB2 := Lib.hid (hbw1.trans (hb0.mono hbw1.size))
      clear hv hv1 hfa htl htn hti hb1 hb0 hbw1
      by_cases h0 : v < 0
      · clear hv2
        go_wp2
        go_ret2
        rw [HLE.out.1, HLE.out.2]
        exact ints_end rfl HO1.out hsz1 HB2.out
      · have h1 : 1400 < v := by
          have : ¬ (0 ≤ v ∧ v ≤ 1400) := fun h => hv2 (upTo_iff.2 h)
          omega
        clear hv2
        go_wp2
        go_ret2
        rw [HLE.out.1, HLE.out.2]
        exact ints_end rfl HO1.out hsz1 HB2.out
  · have hfa1 : fairB F p.l = false := by simpa using hfa
    have HLE : Hid (l = [] ∧ b = false) := Lib.hid (by
      rcases hv with ⟨_, h1, h2⟩ | ⟨h, _⟩
      · exact ⟨h1, h2⟩
      · rw [hfa1] at h; cases h)
    have CR := Lib.hid (CT.out _ _ (.inl ⟨hfa1, rfl, rfl⟩))
    clear hv hfa hfa1
    refine (show Calls _ _ _ _ _ from CR.out).mono ?_
    rintro e W1 ⟨t, rfl, htl, -, hti, hb1⟩
    have hbw1 := hbw.trans (hb1.mono hbw.size)
    have HO1 := Lib.hid (empty_own W1)
    have hb0 := below_alloc W1 (.cells #[] 3)
    have hsz1 := hbw1.size
    have HB2 := Lib.hid (hbw1.trans (hb0.mono hbw1.size))
    clear htl hti hb0
    go_wp2
    go_ret2
    rw [HLE.out.1, HLE.out.2]
    exact ints_end rfl HO1.out hsz1 HB2.out

theorem closedSites_pair (F : Fld) (p : Row) (v : Int) (_ : (Lit.int .i64 v).wf = true) (_ : F.Small) (_ : p.l.length ≤ 1048576) : ∃ (l : List Int) (b : Bool) (_ : l.length ≤ 1048576),
    (∀ (G : Fld) (q : Row) (W : World), G.At W → q.At W → G.Like F → q.l = p.l → Calls Try.prog 21 #[G.val, .slice q.a q.l.length q.c, .int .i64 v] W (PInts l b W)) ∧
    (∀ (G : Fld) (q : Row) (W : World), G.At W → q.At W → G.Like F → q.l = p.l → Calls Try.prog 22 #[G.val, .slice q.a q.l.length q.c, .int .i64 v] W (PInts l b W)) := by
  obtain ⟨l, b, h, hl⟩ := closed_some F p.l v
  exact ⟨l, b, hl, fun G q W hG hq hl hs => specClosed_any G q v W hG hq l b (by rw [hs]; exact closed_like h hl), fun G q W hG hq hl hs => implClosed_any G q v W hG hq l b (by rw [hs]; exact closed_like h hl)⟩
end Go.Proofs.Ythabpdfbpdokjaa
