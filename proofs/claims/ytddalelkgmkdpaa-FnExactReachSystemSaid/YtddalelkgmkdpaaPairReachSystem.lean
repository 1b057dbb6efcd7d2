/- Both sides of ReachSystem answer alike. Condition: the Field reads as such. -/
import Derived.Test.YtddalelkgmkdpaaReachSpec
namespace Go.Proofs.Ytddalelkgmkdpaa
open Go.RowKit Go.Shelf

set_option maxRecDepth 16000 in
set_option maxHeartbeats 2000000 in
theorem specReachSystem_any (F : Fld) (r : Int) (w : World) (hF : F.At w) :
    Calls Try.prog 37 #[.agg #[.slice F.o.a F.o.l.length F.o.c, .slice F.t.a F.t.R.length F.t.c], .int .i64 r] w (PSys (ansR F r) (reachOK F r) w) := by
  obtain ⟨wA, hA⟩ : ∃ u, u = w.alloc (Obj.cells #[.slice F.o.a F.o.l.length F.o.c, .slice F.t.a F.t.R.length F.t.c] 47) := ⟨_, rfl⟩
  obtain ⟨wB, hB⟩ : ∃ u, u = wA.alloc (Obj.cells #[.int .i64 0, .slice none 0 0, .slice none 0 0] 29) := ⟨_, rfl⟩
  have hbA : Below w.heap.size w wA := by rw [hA]; exact below_alloc _ _
  have hszA : wA.heap.size = w.heap.size + 1 := by rw [hA, size_alloc]
  have hbB : Below wA.heap.size wA wB := by rw [hB]; exact below_alloc _ _
  have hszB : wB.heap.size = w.heap.size + 2 := by rw [hB, size_alloc, hszA]
  have bx : Box2 wA w.heap.size (.slice F.o.a F.o.l.length F.o.c) (.slice F.t.a F.t.R.length F.t.c) 47 := by rw [hA]; exact Box2.made _ _ _ _
  have bx1 := bx.on hbB
  have by1 : Box3 wB (w.heap.size + 1) (.int .i64 0) (.slice none 0 0) (.slice none 0 0) 29 := by rw [hB, ← hszA]; exact Box3.made _ _ _ _ _
  have hbw : Below w.heap.size w wB := hbA.trans (hbB.mono hbA.size)
  have hFB : F.At wB := hF.on hbw
  have HFB := Lib.hid hFB
  have HBX := Lib.hid bx1
  have HBY := Lib.hid by1
  have HB : Hid (wB = (w.alloc (Obj.cells #[.slice F.o.a F.o.l.length F.o.c, .slice F.t.a F.t.R.length F.t.c] 47)).alloc (Obj.cells #[.int .i64 0, .slice none 0 0, .slice none 0 0] 29)) := Lib.hid (by rw [hB, hA])
  have x0 := bx1.c0
  have x1 := bx1.c1
  rw [HB.out] at x0 x1
  obtain ⟨v, hv⟩ : ∃ v, v = F.good := ⟨_, rfl⟩
  have CG := l2Good_any F wB hFB
  rw [← hv] at CG
  have CG1 := Lib.hid CG
  obtain ⟨s, hs⟩ : ∃ s, s = fromTo 0 99 r := ⟨_, rfl⟩
  have CI := Lib.hid (fun W => by have := l1In_any r 0 99 W; rw [show (decide (0 ≤ r) && decide (r ≤ 99)) = s from hs.symm] at this; exact this : ∀ W, Calls Try.prog 71 #[.int .i64 r, .int .i64 0, .int .i64 99] W fun e w' => e = .returned (.bool s) ∧ w' = W)
  have HV := Lib.hid hv
  have HOK : Hid (reachOK F r = (v && s)) := Lib.hid (by unfold reachOK; rw [hv, hs])
  have HSB := Lib.hid hszB
  clear hF hA bx hB hbB bx1 by1 hFB CG hv hszA hbA hs hszB
  go_enter Try.func37, Try.ntmps37
  go_wp2_with fail
  rw [← HB.out]
  refine (show Calls _ _ #[.agg #[.slice F.o.a F.o.l.length F.o.c, .slice F.t.a F.t.R.length F.t.c]] _ _ from CG1.out).mono ?_
  rintro e W1 ⟨rfl, hb1⟩
  have hbw1 := hbw.trans (hb1.mono hbw.size)
  have hs1 : w.heap.size + 2 ≤ W1.heap.size := by rw [← HSB.out]; exact hb1.size
  have by1 := HBY.out.on hb1
  have HY1 := Lib.hid by1
  have HB1 := Lib.hid hb1
  clear x0 x1 hb1
  have HFIN0 : Hid (reachOK F r = false → ∀ wF, wF = ((W1.setCell ⟨w.heap.size + 1, 0, none⟩ (.int .i64 0)).setCell ⟨w.heap.size + 1, 1, none⟩ (.slice none 0 0)).setCell ⟨w.heap.size + 1, 2, none⟩ (.slice none 0 0) → Box3 wF (w.heap.size + 1) (.int .i64 0) (.slice none 0 0) (.slice none 0 0) 29 ∧ PSys (ansR F r) (reachOK F r) w (.returned (.tuple #[.agg #[.int .i64 0, .slice none 0 0, .slice none 0 0], .bool false])) wF) := Lib.hid fun hno wF hF => by
    have bF : Box3 wF (w.heap.size + 1) (.int .i64 0) (.slice none 0 0) (.slice none 0 0) 29 := by rw [hF]; exact ((HY1.out.set0 _).set1 _).set2 _
    have tF : Touch (w.heap.size + 1) (w.heap.size + 2) W1 wF := by
      rw [hF]
      exact (((Touch.refl _ _ W1).set (by omega) (by omega) _ _).set (by omega) (by omega) _ _).set (by omega) (by omega) _ _
    have hK : ansR F r = mkSys 0 [] [] := by unfold ansR; rw [hno]; rfl
    rw [hK, hno]
    have hbf := hbw1.trans (tF.below (by omega) (by omega))
    exact ⟨bF, sys_end (T := ⟨none, 0, []⟩) (t := ⟨none, 0, []⟩) (lo := w.heap.size) (mid := w.heap.size) rfl rfl rfl ⟨⟨by simp [tv], by decide, .inl rfl⟩, by simp⟩ ⟨⟨by simp, List.Pairwise.nil⟩, by intro r hr; simp at hr⟩ ⟨by simp [iv], by decide, .inl rfl⟩ (.inl rfl) (Nat.le_refl _) (Nat.le_refl _) hbf.size hbf⟩
  have y0 := by1.c0
  have y1 := by1.c1
  have y2 := by1.c2
  have f0 := by1.fr 0
  have f1 := by1.fr 1
  have f2 := by1.fr 2
  clear by1
  cases v with
  | false =>
      have HFIN := Lib.hid (HFIN0.out (by rw [HOK.out]; rfl))
      go_wp2
      obtain ⟨wF, hF⟩ : ∃ wF, wF = ((W1.setCell ⟨w.heap.size + 1, 0, none⟩ (.int .i64 0)).setCell ⟨w.heap.size + 1, 1, none⟩ (.slice none 0 0)).setCell ⟨w.heap.size + 1, 2, none⟩ (.slice none 0 0) := ⟨_, rfl⟩
      rw [← hF]
      obtain ⟨bF, hP⟩ := HFIN.out wF hF
      have r0 := bF.c0
      have r1 := bF.c1
      have r2 := bF.c2
      clear y0 y1 y2 f0 f1 f2 hF
      exact bodyPost_ret (v := .tuple #[.agg #[.int .i64 0, .slice none 0 0, .slice none 0 0], .bool false]) (by simp [results, Try.results37, go_sem, r0, r1, r2]) rfl hP
  | true =>
    go_wp2_with fail
    refine (show Calls _ _ _ _ _ from CI.out _).mono ?_
    rintro e W ⟨rfl, rfl⟩
    cases s with
    | false =>
      have HFIN := Lib.hid (HFIN0.out (by rw [HOK.out]; rfl))
      go_wp2
      obtain ⟨wF, hF⟩ : ∃ wF, wF = ((W.setCell ⟨w.heap.size + 1, 0, none⟩ (.int .i64 0)).setCell ⟨w.heap.size + 1, 1, none⟩ (.slice none 0 0)).setCell ⟨w.heap.size + 1, 2, none⟩ (.slice none 0 0) := ⟨_, rfl⟩
      rw [← hF]
      obtain ⟨bF, hP⟩ := HFIN.out wF hF
      have r0 := bF.c0
      have r1 := bF.c1
      have r2 := bF.c2
      clear y0 y1 y2 f0 f1 f2 hF
      exact bodyPost_ret (v := .tuple #[.agg #[.int .i64 0, .slice none 0 0, .slice none 0 0], .bool false]) (by simp [results, Try.results37, go_sem, r0, r1, r2]) rfl hP
    | true =>
      have HOK1 : Hid (reachOK F r = true) := Lib.hid (by rw [HOK.out]; rfl)
      have CT := Lib.hid (l6Reach_any F r W (HFB.out.on HB1.out) HV.out.symm)
      have HK : Hid (ansR F r = mkSys (F.t.R.length : Int) (List.replicate F.o.l.length 1) (reachD F.o.l.length r F.t.con)) := Lib.hid (by unfold ansR; rw [HOK1.out, con_length]; rfl)
      have bx1 := HBX.out.on HB1.out
      have z0 := bx1.c0
      have z1 := bx1.c1
      clear y0 y1 y2 f0 f1 f2 bx1
      go_wp2_with fail
      refine (show Calls _ _ _ _ _ from CT.out).mono ?_
      rintro e W2 ⟨T, t, rfl, hTc, htl, hFo, hFi, hb2⟩
      have by2 := HY1.out.on hb2
      have y0 := by2.c0
      have y1 := by2.c1
      have y2 := by2.c2
      have f0 := by2.fr 0
      have f1 := by2.fr 1
      have f2 := by2.fr 2
      have HY2 := Lib.hid by2
      have HTC := Lib.hid hTc
      have HTL := Lib.hid htl
      have HFO := Lib.hid hFo
      have HFI := Lib.hid hFi
      have HB2 := Lib.hid (hbw1.trans (hb2.mono hbw1.size))
      have hs2 := hb2.size
      clear by2 hTc htl hFo hFi hb2 z0 z1
      go_wp2
      obtain ⟨wF, hF⟩ : ∃ wF, wF = ((W2.setCell ⟨w.heap.size + 1, 0, none⟩ (.int .i64 (F.t.R.length : Int))).setCell ⟨w.heap.size + 1, 1, none⟩ (.slice T.a T.R.length T.c)).setCell ⟨w.heap.size + 1, 2, none⟩ (.slice t.a t.l.length t.c) := ⟨_, rfl⟩
      rw [← hF]
      have bF : Box3 wF (w.heap.size + 1) (.int .i64 (F.t.R.length : Int)) (.slice T.a T.R.length T.c) (.slice t.a t.l.length t.c) 29 := by rw [hF]; exact ((HY2.out.set0 _).set1 _).set2 _
      have tF : Touch (w.heap.size + 1) (w.heap.size + 2) W2 wF := by
        rw [hF]
        exact (((Touch.refl _ _ W2).set (by omega) (by omega) _ _).set (by omega) (by omega) _ _).set (by omega) (by omega) _ _
      have r0 := bF.c0
      have r1 := bF.c1
      have r2 := bF.c2
      have hsF := tF.size
      have hbf := HB2.out.trans (tF.below (by omega) (by omega))
      clear y0 y1 y2 f0 f1 f2 hF
      refine bodyPost_ret (v := .tuple #[.agg #[.int .i64 (F.t.R.length : Int), .slice T.a T.R.length T.c, .slice t.a t.l.length t.c], .bool true]) (by simp [results, Try.results37, go_sem, r0, r1, r2]) rfl ?_
      have h1 := HFI.out
      have h2 : Fld.In W.heap.size wF.heap.size wF ⟨t, T⟩ := (h1.touch tF (.inr (by omega))).wide (Nat.le_refl _) hsF
      rw [HK.out, HOK1.out]
      exact ⟨⟨(F.t.R.length : Int), ⟨t, T⟩⟩, rfl, ⟨rfl, HTL.out, by rw [mkSys_con]; exact HTC.out⟩, HFO.out.touch h1 tF (.inr (by omega)), h2.wide (by omega) (Nat.le_refl _), hbf⟩

theorem ansR_small (F : Fld) (r : Int) : (ansR F r).f.o.l.length + (ansR F r).f.t.R.length + tot (ansR F r).f.t.con ≤ 1048576 := by
  unfold ansR
  by_cases h : reachOK F r = true
  · rw [if_pos h]
    have hg : F.good = true := by unfold reachOK at h; rw [Bool.and_eq_true] at h; exact h.1
    obtain ⟨_, hn7, hm7, _⟩ := good_parts hg
    have hcl := con_length F.t
    rw [mkSys_con]
    obtain ⟨n, hn⟩ : ∃ n, n = F.o.l.length := ⟨_, rfl⟩
    rw [← hn]
    have h1 : (mkSys (F.t.con.length : Int) (List.replicate n 1) (reachD n r F.t.con)).f.t.R.length = n := by unfold mkSys; simp [reachD_len]
    have h2 : (mkSys (F.t.con.length : Int) (List.replicate n 1) (reachD n r F.t.con)).f.o.l.length = n := by unfold mkSys; simp
    have h3 : tot (reachD n r F.t.con) ≤ 8 * (reachD n r F.t.con).length := by
      have hall : ∀ l ∈ reachD n r F.t.con, l.length ≤ 8 := fun l hl => by
        unfold reachD at hl
        obtain ⟨x, _, rfl⟩ := List.mem_map.1 hl
        have := picks_len (nearP x r) F.t.con F.t.con.length
        omega
      generalize reachD n r F.t.con = d at hall
      clear h1 h2
      induction d with
      | nil => simp [tot]
      | cons a q ih =>
        have h1 := ih (fun l hl => hall l (List.mem_cons_of_mem _ hl))
        have h2 := hall a List.mem_cons_self
        unfold tot at *
        simp only [List.map_cons, List.sum_cons, List.length_cons]
        omega
    rw [reachD_len] at h3
    rw [h1, h2]; omega
  · rw [if_neg h]; simp [mkSys, Tab.con, tot]

theorem reachSystem_pair (F : Fld) (r : Int) (_ : (Lit.int .i64 r).wf = true) (_ : F.Small) : ∃ (K : Sys) (b : Bool) (_ : K.f.Small),
    (∀ (G : Fld) (W : World), G.At W → G.Like F → Calls Try.prog 37 #[G.val, .int .i64 r] W (PSys K b W)) ∧
    (∀ (G : Fld) (W : World), G.At W → G.Like F → Calls Try.prog 39 #[G.val, .int .i64 r] W (PSys K b W)) :=
  ⟨ansR F r, reachOK F r, ansR_small F r, fun G W h hl => by have := specReachSystem_any G r W h; rw [ansR_like hl, reachOK_like hl] at this; exact this, fun G W h hl => by have := implReachSystem_any G r W h; rw [ansR_like hl, reachOK_like hl] at this; exact this⟩

end Go.Proofs.Ytddalelkgmkdpaa
