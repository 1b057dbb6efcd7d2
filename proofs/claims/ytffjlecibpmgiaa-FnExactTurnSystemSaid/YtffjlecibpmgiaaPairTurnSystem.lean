/- Both sides of TurnSystem answer alike. Condition: the System reads as such. -/
import Derived.Test.YtffjlecibpmgiaaTurnSpec
namespace Go.Proofs.Ytffjlecibpmgiaa
open Go.RowKit Go.Shelf

set_option maxRecDepth 16000 in
set_option maxHeartbeats 2000000 in
theorem specTurnSystem_any (S : Sys) (w : World) (hS : S.At w) :
    Calls Try.prog 35 #[.agg #[.int .i64 S.n, .slice S.f.t.a S.f.t.R.length S.f.t.c, .slice S.f.o.a S.f.o.l.length S.f.o.c]] w (PSys (ansT S) S.good w) := by
  obtain ⟨wA, hA, hb, bx, hSA, hszA⟩ := laid_sys S w 28 hS
  obtain ⟨wB, hB⟩ : ∃ u, u = wA.alloc (Obj.cells #[.int .i64 0, .slice none 0 0, .slice none 0 0] 28) := ⟨_, rfl⟩
  have hbB : Below wA.heap.size wA wB := by rw [hB]; exact below_alloc _ _
  have hszB : wB.heap.size = w.heap.size + 2 := by rw [hB, size_alloc, hszA]
  have bx1 := bx.on hbB
  have by1 : Box3 wB (w.heap.size + 1) (.int .i64 0) (.slice none 0 0) (.slice none 0 0) 28 := by rw [hB, ← hszA]; exact Box3.made _ _ _ _ _
  have hbw := hb.trans (hbB.mono hb.size)
  have hSB : S.f.At wB := hSA.on hbB
  have HSB := Lib.hid hSB
  have HBX := Lib.hid bx1
  have HBY := Lib.hid by1
  have HSZ := Lib.hid hszB
  have HB : Hid (wB = (w.alloc (Obj.cells #[.int .i64 S.n, .slice S.f.t.a S.f.t.R.length S.f.t.c, .slice S.f.o.a S.f.o.l.length S.f.o.c] 28)).alloc (Obj.cells #[.int .i64 0, .slice none 0 0, .slice none 0 0] 28)) := Lib.hid (by rw [hB, hA])
  have x0 := bx1.c0
  have x1 := bx1.c1
  have x2 := bx1.c2
  rw [HB.out] at x0 x1 x2
  obtain ⟨v, hv⟩ : ∃ v, v = S.good := ⟨_, rfl⟩
  have CG := l6Good_any S wB hSB
  rw [← hv] at CG ⊢
  have CG1 := Lib.hid CG
  have HV := Lib.hid hv
  clear hS hA bx hSA hB hbB bx1 by1 hSB CG hv hszA hb hszB
  go_enter Try.func35, Try.ntmps35
  go_wp2_with fail
  rw [← HB.out]
  refine (show Calls _ _ _ _ _ from CG1.out).mono ?_
  rintro e W1 ⟨rfl, hb1⟩
  have hbw1 := hbw.trans (hb1.mono hbw.size)
  have hs1 := hb1.size
  have by1 := HBY.out.on hb1
  have HB1 := Lib.hid hb1
  have HY1 := Lib.hid by1
  clear x0 x1 x2 hb1
  cases v with
  | false =>
    have y0 := by1.c0
    have y1 := by1.c1
    have y2 := by1.c2
    have f0 := by1.fr 0
    have f1 := by1.fr 1
    have f2 := by1.fr 2
    clear by1
    go_wp2
    obtain ⟨wF, hF⟩ : ∃ wF, wF = ((W1.setCell ⟨w.heap.size + 1, 0, none⟩ (.int .i64 0)).setCell ⟨w.heap.size + 1, 1, none⟩ (.slice none 0 0)).setCell ⟨w.heap.size + 1, 2, none⟩ (.slice none 0 0) := ⟨_, rfl⟩
    rw [← hF]
    have bF : Box3 wF (w.heap.size + 1) (.int .i64 0) (.slice none 0 0) (.slice none 0 0) 28 := by rw [hF]; exact ((HY1.out.set0 _).set1 _).set2 _
    have hszB := HSZ.out
    have tF : Touch (w.heap.size + 1) (w.heap.size + 2) W1 wF := by
      rw [hF]
      exact (((Touch.refl _ _ W1).set (by omega) (by omega) _ _).set (by omega) (by omega) _ _).set (by omega) (by omega) _ _
    have r0 := bF.c0
    have r1 := bF.c1
    have r2 := bF.c2
    have hbf := hbw1.trans (tF.below (by omega) (by omega))
    clear y0 y1 y2 f0 f1 f2 hF hszB
    refine bodyPost_ret (v := .tuple #[.agg #[.int .i64 0, .slice none 0 0, .slice none 0 0], .bool false]) (by simp [results, Try.results35, go_sem, r0, r1, r2]) rfl ?_
    have hK : ansT S = mkSys 0 [] [] := by unfold ansT; rw [← HV.out]; rfl
    rw [hK]
    exact sys_end (T := ⟨none, 0, []⟩) (t := ⟨none, 0, []⟩) (lo := w.heap.size) (mid := w.heap.size) rfl rfl rfl ⟨⟨by simp [tv], by decide, .inl rfl⟩, by simp⟩ ⟨⟨by simp, List.Pairwise.nil⟩, by intro r hr; simp at hr⟩ ⟨by simp [iv], by decide, .inl rfl⟩ (.inl rfl) (Nat.le_refl _) (Nat.le_refl _) hbf.size hbf
  | true =>
    have CT := Lib.hid (l6Turned_any S W1 ((show Sys.At wB S from HSB.out).on HB1.out) HV.out.symm)
    have HK : Hid (ansT S = mkSys (S.f.t.R.length : Int) (List.replicate S.n.toNat 1) (turnD S.n.toNat S.f.t.con)) := Lib.hid (by unfold ansT turnS; rw [← HV.out, con_length]; rfl)
    have bx1 := HBX.out.on HB1.out
    have z0 := bx1.c0
    have z1 := bx1.c1
    have z2 := bx1.c2
    clear by1 bx1
    go_wp2_with fail
    refine (show Calls _ _ _ _ _ from CT.out).mono ?_
    rintro e W2 ⟨T, t, rfl, hTc, htl, hFo, hFi, hb2⟩
    have by2 := HY1.out.on hb2
    have y0 := by2.c0
    have y1 := by2.c1
    have y2 := by2.c2
    have f0 := by2.fr 0
    have f1 := by2.fr 1
    have f2 := by2.fr 2
    have HY2 := Lib.hid by2
    have HTC := Lib.hid hTc
    have HTL := Lib.hid htl
    have HFO := Lib.hid hFo
    have HFI := Lib.hid hFi
    have HB2 := Lib.hid (hbw1.trans (hb2.mono hbw1.size))
    have hs2 := hb2.size
    clear by2 hTc htl hFo hFi hb2 z0 z1 z2
    go_wp2
    obtain ⟨wF, hF⟩ : ∃ wF, wF = ((W2.setCell ⟨w.heap.size + 1, 0, none⟩ (.int .i64 (S.f.t.R.length : Int))).setCell ⟨w.heap.size + 1, 1, none⟩ (.slice T.a T.R.length T.c)).setCell ⟨w.heap.size + 1, 2, none⟩ (.slice t.a t.l.length t.c) := ⟨_, rfl⟩
    rw [← hF]
    have bF : Box3 wF (w.heap.size + 1) (.int .i64 (S.f.t.R.length : Int)) (.slice T.a T.R.length T.c) (.slice t.a t.l.length t.c) 28 := by rw [hF]; exact ((HY2.out.set0 _).set1 _).set2 _
    have hszB := HSZ.out
    have tF : Touch (w.heap.size + 1) (w.heap.size + 2) W2 wF := by
      rw [hF]
      exact (((Touch.refl _ _ W2).set (by omega) (by omega) _ _).set (by omega) (by omega) _ _).set (by omega) (by omega) _ _
    have r0 := bF.c0
    have r1 := bF.c1
    have r2 := bF.c2
    have hsF := tF.size
    have hbf := HB2.out.trans (tF.below (by omega) (by omega))
    have HSZ2 := Lib.hid hszB
    clear y0 y1 y2 f0 f1 f2 hF hszB
    refine bodyPost_ret (v := .tuple #[.agg #[.int .i64 (S.f.t.R.length : Int), .slice T.a T.R.length T.c, .slice t.a t.l.length t.c], .bool true]) (by simp [results, Try.results35, go_sem, r0, r1, r2]) rfl ?_
    have hszB := HSZ2.out
    have h1 := HFI.out
    have h2 : Fld.In W1.heap.size wF.heap.size wF ⟨t, T⟩ := (h1.touch tF (.inr (by omega))).wide (Nat.le_refl _) hsF
    exact ⟨⟨(S.f.t.R.length : Int), ⟨t, T⟩⟩, rfl, ⟨by rw [HK.out]; rfl, by rw [HK.out]; exact HTL.out, by rw [HK.out, mkSys_con]; exact HTC.out⟩, HFO.out.touch h1 tF (.inr (by omega)), h2.wide (by omega) (Nat.le_refl _), hbf⟩

theorem ansT_small (S : Sys) : (ansT S).f.o.l.length + (ansT S).f.t.R.length + tot (ansT S).f.t.con ≤ 1048576 := by
  unfold ansT
  by_cases h : S.good = true
  · rw [if_pos h]
    obtain ⟨n, hn, hn8, hm8, _, _, _⟩ := good_n h
    have hnn : S.n.toNat = n := by omega
    unfold turnS
    rw [hnn, mkSys_con]
    have h1 : (mkSys S.f.t.con.length (List.replicate n 1) (turnD n S.f.t.con)).f.t.R.length = n := by unfold mkSys; simp [turnD_len]
    have h2 : (mkSys S.f.t.con.length (List.replicate n 1) (turnD n S.f.t.con)).f.o.l.length = n := by unfold mkSys; simp
    have h3 : tot (turnD n S.f.t.con) ≤ 8 * (turnD n S.f.t.con).length := by
      have hall : ∀ l ∈ turnD n S.f.t.con, l.length ≤ 8 := fun l hl => by
        unfold turnD at hl
        obtain ⟨x, _, rfl⟩ := List.mem_map.1 hl
        exact Nat.le_trans (picks_len _ _ _) hm8
      generalize turnD n S.f.t.con = d at hall
      clear hn hn8 hm8 hnn h1 h2 h
      induction d with
      | nil => simp [tot]
      | cons a r ih =>
        have h1 := ih (fun l hl => hall l (List.mem_cons_of_mem _ hl))
        have h2 := hall a List.mem_cons_self
        unfold tot at *
        simp only [List.map_cons, List.sum_cons, List.length_cons]
        omega
    rw [turnD_len] at h3
    rw [h1, h2]; omega
  · rw [if_neg h]; simp [mkSys, Tab.con, tot]

theorem turnSystem_pair (S : Sys) (_ : S.Small) : ∃ (K : Sys) (b : Bool) (_ : K.f.Small),
    (∀ (G : Sys) (W : World), G.At W → G.Like S → Calls Try.prog 35 #[.agg #[.int .i64 G.n, .slice G.f.t.a G.f.t.R.length G.f.t.c, .slice G.f.o.a G.f.o.l.length G.f.o.c]] W (PSys K b W)) ∧
    (∀ (G : Sys) (W : World), G.At W → G.Like S → Calls Try.prog 36 #[.agg #[.int .i64 G.n, .slice G.f.t.a G.f.t.R.length G.f.t.c, .slice G.f.o.a G.f.o.l.length G.f.o.c]] W (PSys K b W)) :=
  ⟨ansT S, S.good, ansT_small S, fun G W h hl => by have := specTurnSystem_any G W h; rw [ansT_like hl, hl.good] at this; exact this, fun G W h hl => by have := implTurnSystem_any G W h; rw [ansT_like hl, hl.good] at this; exact this⟩

end Go.Proofs.Ytffjlecibpmgiaa
