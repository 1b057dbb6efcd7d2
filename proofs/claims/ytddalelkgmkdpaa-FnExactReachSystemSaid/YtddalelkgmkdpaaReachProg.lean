/- ReachSystem, as the program has it. Condition: the Field reads as such. -/
import Derived.Test.YtddalelkgmkdpaaTurnProg
import Derived.Test.YtddalelkgmkdpaaGood
namespace Go.Proofs.Ytddalelkgmkdpaa
open Go.RowKit Go.Shelf

/-- A client whose length to a site is at most r. -/
def nearP (a : Nat) (r : Int) (l : List Int) : Bool := decide (l.getD a 0 ≤ r)
/-- The clients that each site reaches. -/
def reachD (n : Nat) (r : Int) (d : List (List Int)) : List (List Int) := (List.range n).map fun a => picks (nearP a r) d d.length
theorem reachD_len (n : Nat) (r : Int) (d : List (List Int)) : (reachD n r d).length = n := by unfold reachD; simp
theorem reachD_get (n : Nat) (r : Int) (d : List (List Int)) {k : Nat} (h : k < n) : (reachD n r d)[k]'(by rw [reachD_len]; exact h) = picks (nearP k r) d d.length := by simp [reachD]
def reachOK (F : Fld) (r : Int) : Bool := F.good && fromTo 0 99 r
def ansR (F : Fld) (r : Int) : Sys := if reachOK F r then mkSys F.t.con.length (List.replicate F.o.l.length 1) (reachD F.o.l.length r F.t.con) else mkSys 0 [] []
theorem reachOK_like {F G : Fld} (hl : G.Like F) (r : Int) : reachOK G r = reachOK F r := by unfold reachOK; rw [hl.good]
theorem ansR_like {F G : Fld} (hl : G.Like F) (r : Int) : ansR G r = ansR F r := by unfold ansR; rw [reachOK_like hl, hl.1, hl.2]
theorem good_parts {F : Fld} (h : F.good = true) : 1 ≤ F.o.l.length ∧ F.o.l.length ≤ 7 ∧ F.t.R.length ≤ 7 ∧ ∀ r ∈ F.t.R, r.l.length = F.o.l.length := by
  obtain ⟨h1, h2, _, h4, h5⟩ := goodB_iff.1 h
  rw [con_length] at h4
  refine ⟨h1, h2, h4, fun r hr => ?_⟩
  have := List.all_eq_true.1 h5 r.l (List.mem_map.2 ⟨r, hr, rfl⟩)
  unfold rowB at this
  simp only [Bool.and_eq_true, decide_eq_true_eq] at this
  exact this.2

set_option maxHeartbeats 1000000 in
theorem reach1_any (l : Row) (a : Nat) (r : Int) (ga gr : Nat) (w : World) (hl : l.At w) (hsm : l.l.length ≤ 7) (hlt : a < l.l.length) (hga : w.cell? ⟨ga, 0, none⟩ = some (.int .i64 (a : Int))) (hgr : w.cell? ⟨gr, 0, none⟩ = some (.int .i64 r)) :
    Calls Try.prog 82 #[.slice l.a l.l.length l.c, .pointer (some ⟨ga, 0, none⟩), .pointer (some ⟨gr, 0, none⟩)] w fun e w' => e = .returned (.bool (nearP a r l.l)) ∧ Below w.heap.size w w' := by
  obtain ⟨b, o, ha, hcl⟩ : ∃ b o, l.a = some ⟨b, o, none⟩ ∧ w.cell? ⟨b, o + a, none⟩ = some (.int .i64 (l.l.getD a 0)) := by
    rcases hl.2.2 with h3 | ⟨b, o, h5, _, hc5⟩
    · have := congrArg List.length (iv_nil h3); rw [List.length_nil] at this; omega
    · exact ⟨b, o, h5, by rw [hc5 a _ (iv_at hlt), List.getD_eq_getElem?_getD, List.getElem?_eq_getElem hlt]; rfl⟩
  obtain ⟨x, hx⟩ : ∃ x, x = l.l.getD a 0 := ⟨_, rfl⟩
  have HN : Hid (nearP a r l.l = decide (x ≤ r)) := Lib.hid (by rw [hx]; rfl)
  rw [← hx] at hcl
  have hai : (a : Int) < (l.l.length : Int) := by omega
  have hni : (l.l.length : Int) ≤ 7 := by omega
  rw [ha]
  clear hl hx ha
  go_enter Try.func82, Try.ntmps82
  go_wp2
  go_quiet (fail)
  go_wp2
  go_ret
  exact ⟨by rw [HN.out]; rfl, below_draws w _⟩

set_option maxRecDepth 8000 in
set_option maxHeartbeats 1000000 in
/-- The places of the rows of a table that are picked by ReachSystem$1. -/
theorem placesWhere_reach (T : Tab) (ga gr : Nat) (P : List Int → Bool) (w : World) (hT : T.At w) (hs : T.R.length ≤ 1048576)
    (hP : ∀ r ∈ T.R, ∀ u, Below w.heap.size w u → Calls Try.prog 82 #[.slice r.a r.l.length r.c, .pointer (some ⟨ga, 0, none⟩), .pointer (some ⟨gr, 0, none⟩)] u fun e w' => e = .returned (.bool (P r.l)) ∧ Below u.heap.size u w') :
    Calls Try.prog 83 #[.slice T.a T.R.length T.c, .func (.func 82) #[] #[.pointer (some ⟨ga, 0, none⟩), .pointer (some ⟨gr, 0, none⟩)]] w fun e w' => ∃ t : Row, e = .returned (.slice t.a t.l.length t.c) ∧ t.l = picks P T.con T.R.length ∧ t.Own 3 w' ∧ t.In w.heap.size w'.heap.size w' ∧ Below w.heap.size w w' := by
  obtain ⟨i0, hi, hz0, hz1, hz2⟩ := info_parts infoInt
  have hni : (T.R.length : Int) ≤ 1048576 := by omega
  have HT := Lib.hid hT
  have HP := Lib.hid hP
  have hown0 := empty_own w
  have hb0 := below_alloc w (.cells #[] 3)
  have H0 := Lib.hid hown0
  have HB0 := Lib.hid hb0
  clear hP hown0 hb0 hT
  go_enter Try.func83, Try.ntmps83
  go_wp2
  go_loopw [5, 6, 7, 11] (fun out _ _ i wr => ∃ k : Nat, k ≤ T.R.length ∧ i = .int .i64 k ∧ wr.ownsRow w.heap.size 3 1 out (picks P T.con k).length (iv (picks P T.con k)) ∧ Below w.heap.size w wr) (fun _ _ _ i _ => T.R.length - (intOf i).toNat)
  case atStart => exact ⟨0, Nat.zero_le _, rfl, H0.out, HB0.out⟩
  case round =>
    obtain ⟨k, hk, rfl, hown0, hnx⟩ := hrel
    by_cases hlt : k < T.R.length
    · have hlti : (k : Int) < (T.R.length : Int) := by omega
      obtain ⟨b, o, x, hta, hcl, hxa, hxl, hxm⟩ := tab_cells HT.out hnx hlt
      have HX := Lib.hid hxl
      have cp := HP.out x hxm wr hnx
      obtain ⟨v, hv⟩ : ∃ v, v = P x.l := ⟨_, rfl⟩
      rw [← hv] at cp
      have CP := Lib.hid cp
      have HV := Lib.hid hv
      have HO := Lib.hid hown0
      have HN := Lib.hid hnx
      have hszr := hnx.size
      have hpl := picks_len P T.con k
      rw [hta]
      clear cp hv hown0 hnx hta hxa hxl hxm
      go_wp2_with fail
      refine (show Calls _ _ _ _ _ from CP.out).mono ?_
      rintro e W1 ⟨rfl, hb1⟩
      have hnx1 := HN.out.trans (hb1.mono hszr)
      have hown := owns_below HO.out hb1
      have hsz1 := hb1.size
      clear hb1 hcl
      cases v with
      | false =>
        have HE : Hid (picks P T.con (k + 1) = picks P T.con k) := Lib.hid (picks_no (by rw [HX.out, ← HV.out]))
        have HOW := Lib.hid hown
        clear hown
        go_wp2
        go_roundw
        case rel => exact ⟨k + 1, by omega, by go_num, by rw [HE.out]; exact HOW.out, hnx1⟩
        case measure => simp [intOf]; omega
      | true =>
        have HE : Hid (picks P T.con (k + 1) = picks P T.con k ++ [(k : Int)]) := Lib.hid (picks_yes (by rw [HX.out, ← HV.out]))
        have HX2 := Lib.hid hnx1
        clear hnx1
        go_wp2_with (at_builtin; refine wpList_append_own _ rfl _ _ 23 rfl w.heap.size 3 i0 (.int .i64 0) 1 8 Try.underlying23 hi hz0 hz1 hz2 rfl (by decide) _ _ _ rfl (hown.alloc _) ⟨W1.heap.size, 0, none⟩ 1 1 [.int .i64 (k : Int)] rfl rfl (one_cell _ _ _) (by simp [Value.oneCell']) (by unfold maxLen; omega) (by omega) (by simp; omega) ?_; intro v' w1 hown' hgrow _)
        have R1 : w1.ownsRow w.heap.size 3 1 v' (picks P T.con (k + 1)).length (iv (picks P T.con (k + 1))) := by rw [HE.out]; exact own_snoc rfl hown'
        have R2 : Below w.heap.size w w1 := (HX2.out.alloc (by omega) _).grown hgrow (by simp; omega) (fun j hj => (hown.lt j hj).1)
        clear hown' hgrow hown
        go_wp2
        go_roundw
        case rel => exact ⟨k + 1, by omega, by go_num, R1, R2⟩
        case measure => simp [intOf]; omega
    · obtain rfl : k = T.R.length := by omega
      go_wp2
      go_ret
      obtain ⟨t, ht, htl, hto, hti⟩ := row_of_own hown0
      exact ⟨t, congrArg Ending.returned ht, htl, hto, hti, hnx⟩

set_option maxRecDepth 16000 in
set_option maxHeartbeats 3000000 in
theorem implReachSystem_any (F : Fld) (r : Int) (w : World) (hF : F.At w) :
    Calls Try.prog 39 #[.agg #[.slice F.o.a F.o.l.length F.o.c, .slice F.t.a F.t.R.length F.t.c], .int .i64 r] w (PSys (ansR F r) (reachOK F r) w) := by
  obtain ⟨j0, hj, hj0, hj1, hj2⟩ := info_parts infoInts
  obtain ⟨wA, hA⟩ : ∃ u, u = w.alloc (Obj.cells #[.slice F.o.a F.o.l.length F.o.c, .slice F.t.a F.t.R.length F.t.c] 47) := ⟨_, rfl⟩
  obtain ⟨wC, hC⟩ : ∃ u, u = wA.alloc (.cells #[.int .i64 r] 3) := ⟨_, rfl⟩
  obtain ⟨wB, hB⟩ : ∃ u, u = wC.alloc (Obj.cells #[.int .i64 0, .slice none 0 0, .slice none 0 0] 29) := ⟨_, rfl⟩
  have hbA : Below w.heap.size w wA := by rw [hA]; exact below_alloc _ _
  have hszA : wA.heap.size = w.heap.size + 1 := by rw [hA, size_alloc]
  have hbC : Below wA.heap.size wA wC := by rw [hC]; exact below_alloc _ _
  have hszC : wC.heap.size = w.heap.size + 2 := by rw [hC, size_alloc, hszA]
  have hbB : Below wC.heap.size wC wB := by rw [hB]; exact below_alloc _ _
  have hszB : wB.heap.size = w.heap.size + 3 := by rw [hB, size_alloc, hszC]
  have bx : Box2 wA w.heap.size (.slice F.o.a F.o.l.length F.o.c) (.slice F.t.a F.t.R.length F.t.c) 47 := by rw [hA]; exact Box2.made _ _ _ _
  have bx1 := (bx.on hbC).on hbB
  have hrc : wC.cell? ⟨w.heap.size + 1, 0, none⟩ = some (.int .i64 r) := by rw [hC, ← hszA]; simp
  have hrB : wB.cell? ⟨w.heap.size + 1, 0, none⟩ = some (.int .i64 r) := (hbB.cell (p := ⟨w.heap.size + 1, 0, none⟩) (by show w.heap.size + 1 < _; omega)).trans hrc
  have by1 : Box3 wB (w.heap.size + 1 + 1) (.int .i64 0) (.slice none 0 0) (.slice none 0 0) 29 := by rw [hB, show w.heap.size + 1 + 1 = wC.heap.size by omega]; exact Box3.made _ _ _ _ _
  have hbw : Below w.heap.size w wB := (hbA.trans (hbC.mono hbA.size)).trans (hbB.mono (by omega))
  have hFB : F.At wB := hF.on hbw
  have HFB := Lib.hid hFB
  have HBX := Lib.hid bx1
  have HBY := Lib.hid by1
  have HRB : Hid (∀ u, Below wB.heap.size wB u → u.cell? ⟨w.heap.size + 1, 0, none⟩ = some (.int .i64 r)) := Lib.hid fun u hu => (hu.cell (p := ⟨w.heap.size + 1, 0, none⟩) (by show w.heap.size + 1 < _; omega)).trans hrB
  have HB : Hid (wB = ((w.alloc (Obj.cells #[.slice F.o.a F.o.l.length F.o.c, .slice F.t.a F.t.R.length F.t.c] 47)).alloc (.cells #[.int .i64 r] 3)).alloc (Obj.cells #[.int .i64 0, .slice none 0 0, .slice none 0 0] 29)) := Lib.hid (by rw [hB, hC, hA])
  have x0 := bx1.c0
  have x1 := bx1.c1
  rw [HB.out] at x0 x1
  obtain ⟨v, hv⟩ : ∃ v, v = F.good := ⟨_, rfl⟩
  have CG := implIsField_any F wB hFB
  rw [← hv] at CG
  have CG1 := Lib.hid CG
  have HV := Lib.hid hv
  have HSB := Lib.hid hszB
  clear hF hA bx hB hbB bx1 by1 hFB CG hv hszA hbA hC hbC hszC hrc hrB hszB
  go_enter Try.func39, Try.ntmps39
  go_wp2_with fail
  rw [← HB.out]
  refine (show Calls _ _ #[.agg #[.slice F.o.a F.o.l.length F.o.c, .slice F.t.a F.t.R.length F.t.c]] _ _ from CG1.out).mono ?_
  rintro e W1 ⟨rfl, hb1⟩
  have hbw1 := hbw.trans (hb1.mono hbw.size)
  have hs1 : w.heap.size + 3 ≤ W1.heap.size := by rw [← HSB.out]; exact hb1.size
  have by1 := HBY.out.on hb1
  have HY1 := Lib.hid by1
  have HB1 := Lib.hid hb1
  have c3 := HRB.out W1 hb1
  clear x0 x1 hb1
  have HEND : Hid (reachOK F r = false → ∀ wF, Box3 wF (w.heap.size + 1 + 1) (.int .i64 0) (.slice none 0 0) (.slice none 0 0) 29 → Touch (w.heap.size + 2) (w.heap.size + 3) W1 wF → PSys (ansR F r) (reachOK F r) w (.returned (.tuple #[.agg #[.int .i64 0, .slice none 0 0, .slice none 0 0], .bool false])) wF) := Lib.hid fun hno wF _ tF => by
    have hK : ansR F r = mkSys 0 [] [] := by unfold ansR; rw [hno]; rfl
    rw [hK, hno]
    have hbf := hbw1.trans (tF.below (by omega) (by omega))
    exact sys_end (T := ⟨none, 0, []⟩) (t := ⟨none, 0, []⟩) (lo := w.heap.size) (mid := w.heap.size) rfl rfl rfl ⟨⟨by simp [tv], by decide, .inl rfl⟩, by simp⟩ ⟨⟨by simp, List.Pairwise.nil⟩, by intro r hr; simp at hr⟩ ⟨by simp [iv], by decide, .inl rfl⟩ (.inl rfl) (Nat.le_refl _) (Nat.le_refl _) hbf.size hbf
  have hcases : (reachOK F r = false ∧ (v = false ∨ r < 0 ∨ 99 < r)) ∨ (reachOK F r = true ∧ v = true ∧ 0 ≤ r ∧ r ≤ 99) := by
    unfold reachOK
    rw [← HV.out]
    cases v with
    | false => exact .inl ⟨rfl, .inl rfl⟩
    | true =>
      by_cases h : 0 ≤ r ∧ r ≤ 99
      · exact .inr ⟨by rw [fromTo_iff.2 h]; rfl, rfl, h⟩
      · exact .inl ⟨by rw [Bool.true_and, Bool.eq_false_iff]; exact fun e => h (fromTo_iff.1 e), .inr (by omega)⟩
  rcases hcases with ⟨hno, hc⟩ | ⟨hyes, rfl, hr0, hr1⟩
  · have HNO := Lib.hid hno
    have y0 := by1.c0
    have y1 := by1.c1
    have y2 := by1.c2
    have f0 := by1.fr 0
    have f1 := by1.fr 1
    have f2 := by1.fr 2
    clear by1 hno
    have HFIN : Hid (∀ wF, wF = ((W1.setCell ⟨w.heap.size + 1 + 1, 0, none⟩ (.int .i64 0)).setCell ⟨w.heap.size + 1 + 1, 1, none⟩ (.slice none 0 0)).setCell ⟨w.heap.size + 1 + 1, 2, none⟩ (.slice none 0 0) → Box3 wF (w.heap.size + 1 + 1) (.int .i64 0) (.slice none 0 0) (.slice none 0 0) 29 ∧ PSys (ansR F r) (reachOK F r) w (.returned (.tuple #[.agg #[.int .i64 0, .slice none 0 0, .slice none 0 0], .bool false])) wF) := Lib.hid fun wF hF => by
      have bF : Box3 wF (w.heap.size + 1 + 1) (.int .i64 0) (.slice none 0 0) (.slice none 0 0) 29 := by rw [hF]; exact ((HY1.out.set0 _).set1 _).set2 _
      refine ⟨bF, HEND.out HNO.out wF bF ?_⟩
      rw [hF]
      exact (((Touch.refl _ _ W1).set (by omega) (by omega) _ _).set (by omega) (by omega) _ _).set (by omega) (by omega) _ _
    rcases hc with rfl | hc | hc
    · go_wp2
      obtain ⟨wF, hF⟩ : ∃ wF, wF = ((W1.setCell ⟨w.heap.size + 1 + 1, 0, none⟩ (.int .i64 0)).setCell ⟨w.heap.size + 1 + 1, 1, none⟩ (.slice none 0 0)).setCell ⟨w.heap.size + 1 + 1, 2, none⟩ (.slice none 0 0) := ⟨_, rfl⟩
      rw [← hF]
      obtain ⟨bF, hP⟩ := HFIN.out wF hF
      have r0 := bF.c0
      have r1 := bF.c1
      have r2 := bF.c2
      clear y0 y1 y2 f0 f1 f2 hF
      exact bodyPost_ret (v := .tuple #[.agg #[.int .i64 0, .slice none 0 0, .slice none 0 0], .bool false]) (by simp [results, Try.results39, go_sem, r0, r1, r2]) rfl hP
    · cases v with
      | false =>
        go_wp2
        obtain ⟨wF, hF⟩ : ∃ wF, wF = ((W1.setCell ⟨w.heap.size + 1 + 1, 0, none⟩ (.int .i64 0)).setCell ⟨w.heap.size + 1 + 1, 1, none⟩ (.slice none 0 0)).setCell ⟨w.heap.size + 1 + 1, 2, none⟩ (.slice none 0 0) := ⟨_, rfl⟩
        rw [← hF]
        obtain ⟨bF, hP⟩ := HFIN.out wF hF
        have r0 := bF.c0
        have r1 := bF.c1
        have r2 := bF.c2
        clear y0 y1 y2 f0 f1 f2 hF
        exact bodyPost_ret (v := .tuple #[.agg #[.int .i64 0, .slice none 0 0, .slice none 0 0], .bool false]) (by simp [results, Try.results39, go_sem, r0, r1, r2]) rfl hP
      | true =>
        go_wp2
        obtain ⟨wF, hF⟩ : ∃ wF, wF = ((W1.setCell ⟨w.heap.size + 1 + 1, 0, none⟩ (.int .i64 0)).setCell ⟨w.heap.size + 1 + 1, 1, none⟩ (.slice none 0 0)).setCell ⟨w.heap.size + 1 + 1, 2, none⟩ (.slice none 0 0) := ⟨_, rfl⟩
        rw [← hF]
        obtain ⟨bF, hP⟩ := HFIN.out wF hF
        have r0 := bF.c0
        have r1 := bF.c1
        have r2 := bF.c2
        clear y0 y1 y2 f0 f1 f2 hF
        exact bodyPost_ret (v := .tuple #[.agg #[.int .i64 0, .slice none 0 0, .slice none 0 0], .bool false]) (by simp [results, Try.results39, go_sem, r0, r1, r2]) rfl hP
    · cases v with
      | false =>
        go_wp2
        obtain ⟨wF, hF⟩ : ∃ wF, wF = ((W1.setCell ⟨w.heap.size + 1 + 1, 0, none⟩ (.int .i64 0)).setCell ⟨w.heap.size + 1 + 1, 1, none⟩ (.slice none 0 0)).setCell ⟨w.heap.size + 1 + 1, 2, none⟩ (.slice none 0 0) := ⟨_, rfl⟩
        rw [← hF]
        obtain ⟨bF, hP⟩ := HFIN.out wF hF
        have r0 := bF.c0
        have r1 := bF.c1
        have r2 := bF.c2
        clear y0 y1 y2 f0 f1 f2 hF
        exact bodyPost_ret (v := .tuple #[.agg #[.int .i64 0, .slice none 0 0, .slice none 0 0], .bool false]) (by simp [results, Try.results39, go_sem, r0, r1, r2]) rfl hP
      | true =>
        have hc0 : ¬ r < 0 := by omega
        go_wp2
        obtain ⟨wF, hF⟩ : ∃ wF, wF = ((W1.setCell ⟨w.heap.size + 1 + 1, 0, none⟩ (.int .i64 0)).setCell ⟨w.heap.size + 1 + 1, 1, none⟩ (.slice none 0 0)).setCell ⟨w.heap.size + 1 + 1, 2, none⟩ (.slice none 0 0) := ⟨_, rfl⟩
        rw [← hF]
        obtain ⟨bF, hP⟩ := HFIN.out wF hF
        have r0 := bF.c0
        have r1 := bF.c1
        have r2 := bF.c2
        clear y0 y1 y2 f0 f1 f2 hF
        exact bodyPost_ret (v := .tuple #[.agg #[.int .i64 0, .slice none 0 0, .slice none 0 0], .bool false]) (by simp [results, Try.results39, go_sem, r0, r1, r2]) rfl hP
  · obtain ⟨hn1, hn7, hm7, hrows⟩ := good_parts HV.out.symm
    obtain ⟨n, hn⟩ : ∃ n, n = F.o.l.length := ⟨_, rfl⟩
    have hmi : (F.t.R.length : Int) ≤ 7 := by omega
    have hni : (n : Int) ≤ 7 := by omega
    have HK : Hid (ansR F r = mkSys (F.t.R.length : Int) (List.replicate n 1) (reachD n r F.t.con) ∧ reachOK F r = true) := Lib.hid ⟨by unfold ansR; rw [hyes, con_length, ← hn]; rfl, hyes⟩
    have HN := Lib.hid hn
    have HROW := Lib.hid hrows
    have HCL := Lib.hid (con_length F.t)
    have bx1 := HBX.out.on HB1.out
    have z0 : (W1.alloc (.cells #[] 23)).cell? ⟨w.heap.size, 0, none⟩ = some (.slice F.o.a n F.o.c) := by rw [hn]; exact (bx1.on (below_alloc _ _)).c0
    have HG0 := Lib.hid (tab_empty W1)
    have HB0 := Lib.hid (below_alloc W1 (.cells #[] 23))
    have hnr0 : ¬ r < 0 := by omega
    have hnr1 : ¬ 99 < r := by omega
    have hn8 : n ≤ 8 := by omega
    clear by1 hn hrows bx1 hyes
    go_wp2
    go_loopw [6, 7, 8, 25] (fun sv _ _ iv_ wr => ∃ (k : Nat) (Q : List Row), k ≤ n ∧ iv_ = .int .i64 k ∧ Q.length = k ∧ Q.map Row.l = (reachD n r F.t.con).take k ∧ Grows W1.heap.size wr sv Q ∧ Below W1.heap.size W1 wr) (fun _ _ _ iv_ _ => n - (intOf iv_).toNat)
    case atStart => exact ⟨0, [], Nat.zero_le _, rfl, rfl, rfl, HG0.out, HB0.out⟩
    case round =>
      obtain ⟨k, Q, hk, rfl, hQl, hQm, hgr, hnx⟩ := hrel
      have HNX := Lib.hid hnx
      have hszr := hnx.size
      have HGR := Lib.hid hgr
      have HQL := Lib.hid hQl
      have HBR : Hid (Below wB.heap.size wB wr) := Lib.hid (HB1.out.trans (hnx.mono HB1.out.size))
      by_cases hlt : k < n
      · have hlti : (k : Int) < (n : Int) := by omega
        obtain ⟨wS, hS⟩ : ∃ u, u = wr.alloc (.cells #[.int .i64 (k : Int)] 3) := ⟨_, rfl⟩
        have hbS : Below wr.heap.size wr wS := by rw [hS]; exact below_alloc _ _
        have HBS : Hid (Below wB.heap.size wB wS) := Lib.hid (HBR.out.trans (hbS.mono HBR.out.size))
        have hga : wS.cell? ⟨wr.heap.size, 0, none⟩ = some (.int .i64 (k : Int)) := by rw [hS]; simp
        have hgalt := World.block_lt_of_cell? _ _ hga
        have hzS : (wr.alloc (.cells #[.int .i64 (k : Int)] 3)).cell? ⟨w.heap.size, 1, none⟩ = some (.slice F.t.a F.t.R.length F.t.c) := by rw [← hS]; exact (HBX.out.on HBS.out).c1
        have CC := Lib.hid (placesWhere_reach F.t wr.heap.size (w.heap.size + 1) (nearP k r) wS (HFB.out.2.on (HBS.out)) (by omega) (fun x hx u hu => reach1_any x k r wr.heap.size (w.heap.size + 1) u ((HFB.out.2.2 x hx).on (HBS.out.trans (hu.mono HBS.out.size))) (by rw [HROW.out x hx]; omega) (by rw [HROW.out x hx, ← HN.out]; exact hlt) ((hu.cell (p := ⟨wr.heap.size, 0, none⟩) hgalt).trans hga) (HRB.out u (HBS.out.trans (hu.mono HBS.out.size)))))
        have HQ : Hid (Q.map Row.l ++ [picks (nearP k r) F.t.con F.t.R.length] = (reachD n r F.t.con).take (k + 1)) := Lib.hid (by
          rw [hQm, List.take_succ_eq_append_getElem (by rw [reachD_len]; exact hlt), reachD_get n r _ hlt, HCL.out])
        have HS := Lib.hid hS
        have HNS := Lib.hid (hnx.trans (hbS.mono hszr))
        have HGS := Lib.hid (hgr.on hbS)
        have hszS := hbS.size
        clear hgr hnx hQl hQm hS hbS hga hgalt
        go_wp2_with fail
        rw [← HS.out]
        refine (show Calls _ _ _ _ _ from CC.out).mono ?_
        rintro e W2 ⟨t, rfl, htl, hto, hti, hb2⟩
        have hfr := HGS.out.fresh hti
        have HAP := Lib.hid hfr.1
        have HOF := Lib.hid hfr.2
        have hG2 := HGS.out.on hb2
        have hown := hG2.own
        rw [HQL.out] at hown
        have HG2 := Lib.hid hG2
        have HTO := Lib.hid hto
        have HTI := Lib.hid (show t.In W1.heap.size W2.heap.size W2 from hti.wide (by omega) (Nat.le_refl _))
        have HTL := Lib.hid htl
        have HN2 := Lib.hid (HNS.out.trans (hb2.mono (by omega)))
        have hs2 := hb2.size
        clear hfr hG2 hto hti htl hb2 hzS
        go_wp2_with (at_builtin; refine wpList_append_own_at _ rfl _ _ 22 rfl W1.heap.size 23 j0 (.slice none 0 0) 1 24 Try.underlying22 hj hj0 hj1 hj2 rfl (by decide) _ _ _ rfl (hown.alloc _) ⟨W2.heap.size, 0, none⟩ 1 1 [.slice t.a t.l.length t.c] rfl rfl (one_cell _ _ _) (by simp [Value.oneCell']) (by unfold maxLen; omega) (by omega) (by simp; omega) ?_; intro v' w1 hown' hgrow _ hloc)
        have hba := below_alloc W2 (.cells #[.slice t.a t.l.length t.c] 23)
        have R1 := Lib.hid ((HG2.out.on hba).append (HTO.out.on hba) ((HTI.out.on hba).wide (Nat.le_refl _) hba.size) HAP.out HOF.out (by rw [HQL.out]; exact hown') hgrow (hloc.imp id fun h => ⟨_, h, Nat.le_refl _⟩))
        have R2 := Lib.hid ((HN2.out.alloc (by omega) _).grown hgrow (by simp; omega) (fun j hj => (hown.lt j hj).1))
        clear hown' hgrow hown hloc hba
        go_wp2
        go_roundw
        case rel => exact ⟨k + 1, Q ++ [t], by omega, by go_num, by rw [List.length_append, HQL.out]; rfl, by rw [List.map_append, ← HQ.out, ← HTL.out]; rfl, R1.out, R2.out⟩
        case measure => simp [intOf]; omega
      · obtain rfl : k = n := by omega
        obtain ⟨T, hTv, hTR, hTo, hTi⟩ := hgr.tab
        have hTl : T.R.length = k := by rw [hTR, hQl]
        have hTc : T.con = reachD k r F.t.con := by
          show T.R.map Row.l = _
          rw [hTR, hQm, List.take_of_length_le (by rw [reachD_len]; exact Nat.le_refl _)]
        rw [hTv, hTl]
        have bxr := HBX.out.on HBR.out
        have z1 := bxr.c1
        have CU := Lib.hid (unitSystem_any (F.t.R.length : Int) T.a k T.c wr hn8)
        have HTO := Lib.hid hTo
        have HTI := Lib.hid hTi
        have HTC := Lib.hid hTc
        have HTL := Lib.hid hTl
        clear hgr hnx hQl hQm bxr hTo hTi hTc hTl hTR hTv
        go_wp2_with fail
        refine (show Calls _ _ _ _ _ from CU.out).mono ?_
        rintro e W3 ⟨t, rfl, htl, hto, hti, hb3⟩
        have HB3 : Hid (Below wB.heap.size wB W3) := Lib.hid (HBR.out.trans (hb3.mono HBR.out.size))
        have byr := HBY.out.on HB3.out
        have y0 := byr.c0
        have y1 := byr.c1
        have y2 := byr.c2
        have f0 := byr.fr 0
        have f1 := byr.fr 1
        have f2 := byr.fr 2
        have HY3 := Lib.hid byr
        have HTI3 := Lib.hid (HTI.out.on hb3)
        have HTO3 := Lib.hid (HTO.out.on hb3)
        have Hti := Lib.hid (show t.In wr.heap.size W3.heap.size W3 from hti.wide (by omega) (Nat.le_refl _))
        have Hto := Lib.hid hto
        have Htl := Lib.hid htl
        have hs3 := hb3.size
        have HBW3 := Lib.hid (hbw.trans (HB3.out.mono hbw.size))
        clear byr hti hto htl hb3 z1
        go_wp2
        obtain ⟨wF, hF⟩ : ∃ wF, wF = ((W3.setCell ⟨w.heap.size + 1 + 1, 0, none⟩ (.int .i64 (F.t.R.length : Int))).setCell ⟨w.heap.size + 1 + 1, 1, none⟩ (.slice T.a k T.c)).setCell ⟨w.heap.size + 1 + 1, 2, none⟩ (.slice t.a t.l.length t.c) := ⟨_, rfl⟩
        rw [← hF]
        have bF : Box3 wF (w.heap.size + 1 + 1) (.int .i64 (F.t.R.length : Int)) (.slice T.a k T.c) (.slice t.a t.l.length t.c) 29 := by rw [hF]; exact ((HY3.out.set0 _).set1 _).set2 _
        have tF : Touch (w.heap.size + 2) (w.heap.size + 3) W3 wF := by
          rw [hF]
          exact (((Touch.refl _ _ W3).set (by omega) (by omega) _ _).set (by omega) (by omega) _ _).set (by omega) (by omega) _ _
        have r0 := bF.c0
        have r1 := bF.c1
        have r2 := bF.c2
        have hsF := tF.size
        clear y0 y1 y2 f0 f1 f2 hF
        refine bodyPost_ret (v := .tuple #[.agg #[.int .i64 (F.t.R.length : Int), .slice T.a k T.c, .slice t.a t.l.length t.c], .bool true]) (by simp [results, Try.results39, go_sem, r0, r1, r2]) rfl ?_
        have hbf := HBW3.out.trans (tF.below (by omega) (by omega))
        rw [HK.out.1, HK.out.2, ← HTL.out]
        exact sys_end (lo := W1.heap.size) (mid := wr.heap.size) rfl (by rw [HTC.out, HTL.out, mkSys_con]) (by rw [Htl.out, HTL.out]; rfl) (HTI3.out.touch tF (.inr (by omega))) (HTO3.out.touch HTI3.out tF (.inr (by omega))) ((Hti.out.touch tF (.inr (by omega))).wide (Nat.le_refl _) hsF) (Hto.out.touch Hti.out tF (.inr (by omega))) (by omega) hszr (by omega) hbf

end Go.Proofs.Ytddalelkgmkdpaa
