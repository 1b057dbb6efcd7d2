/- TurnSystem, as the program has it. Condition: the System reads as such. -/
import Derived.Test.YtddalelkgmkdpaaTurnImpl
namespace Go.Proofs.Ytddalelkgmkdpaa
open Go.RowKit Go.Shelf

/-- A System of these numbers. -/
def mkSys (n : Int) (o : List Int) (d : List (List Int)) : Sys := ⟨n, ⟨⟨none, 0, o⟩, ⟨none, 0, d.map fun l => ⟨none, 0, l⟩⟩⟩⟩
theorem mkSys_con (n : Int) (o : List Int) (d : List (List Int)) : (mkSys n o d).f.t.con = d := by
  unfold mkSys Tab.con
  simp only [List.map_map]
  exact List.map_id' d
/-- The turned System. -/
def turnS (S : Sys) : Sys := mkSys S.f.t.con.length (List.replicate S.n.toNat 1) (turnD S.n.toNat S.f.t.con)
def ansT (S : Sys) : Sys := if S.good then turnS S else mkSys 0 [] []
theorem ansT_like {S U : Sys} (hl : U.Like S) : ansT U = ansT S := by unfold ansT turnS; rw [hl.good, hl.1, hl.2.2]

theorem sys_end {W w' : World} {lo : Nat} {K : Sys} {b : Bool} {z : Int} {T : Tab} {t : Row} {mid : Nat} (hz : z = K.n) (hd : T.con = K.f.t.con) (ho : t.l = K.f.o.l) (hTi : T.In lo mid w') (hTo : T.Own 3 w') (hti : t.In mid w'.heap.size w') (hto : t.Own 3 w') (hlo : W.heap.size ≤ lo) (hm : lo ≤ mid) (hm2 : mid ≤ w'.heap.size) (hb : Below W.heap.size W w') :
    PSys K b W (.returned (.tuple #[.agg #[.int .i64 z, .slice T.a T.R.length T.c, .slice t.a t.l.length t.c], .bool b])) w' :=
  ⟨⟨z, ⟨t, T⟩⟩, rfl, ⟨hz, ho, hd⟩, fld_own hTi hTo hti hto, ⟨hti.wide (by omega) (Nat.le_refl _), hTi.wide hlo hm2⟩, hb⟩

set_option maxRecDepth 16000 in
set_option maxHeartbeats 2000000 in
theorem implTurnSystem_any (S : Sys) (w : World) (hS : S.At w) :
    Calls Try.prog 64 #[.agg #[.int .i64 S.n, .slice S.f.t.a S.f.t.R.length S.f.t.c, .slice S.f.o.a S.f.o.l.length S.f.o.c]] w (PSys (ansT S) S.good w) := by
  obtain ⟨j0, hj, hj0, hj1, hj2⟩ := info_parts infoInts
  obtain ⟨wA, hA, hb, bx, hSA, hszA⟩ := laid_sys S w 29 hS
  obtain ⟨wB, hB⟩ : ∃ u, u = wA.alloc (Obj.cells #[.int .i64 0, .slice none 0 0, .slice none 0 0] 29) := ⟨_, rfl⟩
  have hbB : Below wA.heap.size wA wB := by rw [hB]; exact below_alloc _ _
  have hszB : wB.heap.size = w.heap.size + 2 := by rw [hB, size_alloc, hszA]
  have bx1 := bx.on hbB
  have by1 : Box3 wB (w.heap.size + 1) (.int .i64 0) (.slice none 0 0) (.slice none 0 0) 29 := by rw [hB, ← hszA]; exact Box3.made _ _ _ _ _
  have hbw := hb.trans (hbB.mono hb.size)
  have hSB : S.f.At wB := hSA.on hbB
  have HSB := Lib.hid hSB
  have HBX := Lib.hid bx1
  have HBY := Lib.hid by1
  have HB : Hid (wB = (w.alloc (Obj.cells #[.int .i64 S.n, .slice S.f.t.a S.f.t.R.length S.f.t.c, .slice S.f.o.a S.f.o.l.length S.f.o.c] 29)).alloc (Obj.cells #[.int .i64 0, .slice none 0 0, .slice none 0 0] 29)) := Lib.hid (by rw [hB, hA])
  have x0 := bx1.c0
  have x1 := bx1.c1
  have x2 := bx1.c2
  rw [HB.out] at x0 x1 x2
  obtain ⟨v, hv⟩ : ∃ v, v = S.good := ⟨_, rfl⟩
  have CG := implIsSystem_any S wB hSB
  rw [← hv] at CG ⊢
  have CG1 := Lib.hid CG
  have HV := Lib.hid hv
  clear hS hA bx hSA hB hbB bx1 by1 hSB CG hv hszA hb
  go_enter Try.func64, Try.ntmps64
  go_wp2_with fail
  rw [← HB.out]
  refine (show Calls _ _ _ _ _ from CG1.out).mono ?_
  rintro e W1 ⟨rfl, hb1⟩
  have hbw1 := hbw.trans (hb1.mono hbw.size)
  have hs1 := hb1.size
  have by1 := HBY.out.on hb1
  have y0 := by1.c0
  have y1 := by1.c1
  have y2 := by1.c2
  have f0 := by1.fr 0
  have f1 := by1.fr 1
  have f2 := by1.fr 2
  have HY1 := Lib.hid by1
  have HB1 := Lib.hid hb1
  clear x0 x1 x2 by1 hb1
  cases v with
  | false =>
    go_wp2
    obtain ⟨wF, hF⟩ : ∃ wF, wF = ((W1.setCell ⟨w.heap.size + 1, 0, none⟩ (.int .i64 0)).setCell ⟨w.heap.size + 1, 1, none⟩ (.slice none 0 0)).setCell ⟨w.heap.size + 1, 2, none⟩ (.slice none 0 0) := ⟨_, rfl⟩
    rw [← hF]
    have bF : Box3 wF (w.heap.size + 1) (.int .i64 0) (.slice none 0 0) (.slice none 0 0) 29 := by rw [hF]; exact ((HY1.out.set0 _).set1 _).set2 _
    have tF : Touch (w.heap.size + 1) (w.heap.size + 2) W1 wF := by
      rw [hF]
      exact (((Touch.refl _ _ W1).set (by omega) (by omega) _ _).set (by omega) (by omega) _ _).set (by omega) (by omega) _ _
    have r0 := bF.c0
    have r1 := bF.c1
    have r2 := bF.c2
    have hsF := tF.size
    clear y0 y1 y2 f0 f1 f2 hF
    refine bodyPost_ret (v := .tuple #[.agg #[.int .i64 0, .slice none 0 0, .slice none 0 0], .bool false]) (by simp [results, Try.results64, go_sem, r0, r1, r2]) rfl ?_
    have hK : ansT S = mkSys 0 [] [] := by unfold ansT; rw [← HV.out]; rfl
    rw [hK]
    have hbf := hbw1.trans (tF.below (by omega) (by omega))
    exact sys_end (T := ⟨none, 0, []⟩) (t := ⟨none, 0, []⟩) (lo := w.heap.size) (mid := w.heap.size) rfl rfl rfl ⟨⟨by simp [tv], by decide, .inl rfl⟩, by simp⟩ ⟨⟨by simp, List.Pairwise.nil⟩, by intro r hr; simp at hr⟩ ⟨by simp [iv], by decide, .inl rfl⟩ (.inl rfl) (Nat.le_refl _) (Nat.le_refl _) hbf.size hbf
  | true =>
    obtain ⟨n, hn, hn8, hm8, hom, hcost, hset⟩ := good_n HV.out.symm
    have h8 := good_row8 HV.out.symm
    have hcl := con_length S.f.t
    have hmi : (S.f.t.R.length : Int) ≤ 8 := by omega
    have hni : (n : Int) ≤ 8 := by omega
    have HK : Hid (ansT S = mkSys (S.f.t.R.length : Int) (List.replicate n 1) (turnD n S.f.t.con)) := Lib.hid (by unfold ansT turnS; rw [← HV.out, hn, Int.toNat_natCast, hcl]; rfl)
    have bx1 := HBX.out.on HB1.out
    have z0 := (bx1.on (below_alloc W1 (.cells #[] 23))).c0
    rw [hn] at z0
    have HSN := Lib.hid hn
    have H8 := Lib.hid h8
    have hgr0 := tab_empty W1
    have hbe := below_alloc W1 (.cells #[] 23)
    have HG0 := Lib.hid hgr0
    have HB0 := Lib.hid hbe
    have CW := Lib.hid fun (x : Int) (u : World) (hu : Below W1.heap.size W1 u) => setsWith_any S x u ((show Sys.At wB S from HSB.out).on (HB1.out.trans (hu.mono hs1))) h8 (by omega)
    have hm8' : S.f.t.R.length ≤ 8 := by omega
    clear y0 y1 y2 f0 f1 f2 hn hm8 hom hcost hset h8 hcl bx1 hgr0 hbe
    go_wp2
    go_loopw [4, 5, 13] (fun sv _ iv_ wr => ∃ (k : Nat) (Q : List Row), k ≤ n ∧ iv_ = .int .i64 k ∧ Q.length = k ∧ Q.map Row.l = (turnD n S.f.t.con).take k ∧ Grows W1.heap.size wr sv Q ∧ Below W1.heap.size W1 wr) (fun _ _ iv_ _ => n - (intOf iv_).toNat)
    case atStart => exact ⟨0, [], Nat.zero_le _, rfl, rfl, rfl, HG0.out, HB0.out⟩
    case round =>
      obtain ⟨k, Q, hk, rfl, hQl, hQm, hgr, hnx⟩ := hrel
      have HNX := Lib.hid hnx
      have hszr := hnx.size
      have HGR := Lib.hid hgr
      have HQL := Lib.hid hQl
      have HQM := Lib.hid hQm
      have HBR : Hid (Below wB.heap.size wB wr) := Lib.hid (HB1.out.trans (hnx.mono hs1))
      by_cases hlt : k < n
      · have hlti : (k : Int) < (n : Int) := by omega
        have bxr := HBX.out.on HBR.out
        have z0 := bxr.c0
        have z1 := bxr.c1
        have z2 := bxr.c2
        have CC := Lib.hid (CW.out (k : Int) wr hnx)
        have HQ : Hid (Q.map Row.l ++ [withEl S.f.t.con (k : Int)] = (turnD n S.f.t.con).take (k + 1)) := Lib.hid (by
          rw [hQm, List.take_succ_eq_append_getElem (by rw [turnD_len]; exact hlt), turnD_get n _ hlt])
        clear hgr hnx hQl hQm bxr
        go_wp2_with fail
        refine (show Calls _ _ _ _ _ from CC.out).mono ?_
        rintro e W2 ⟨t, rfl, htl, hto, hti, hb2⟩
        have hfr := HGR.out.fresh hti
        have HAP := Lib.hid hfr.1
        have HOF := Lib.hid hfr.2
        have hG2 := HGR.out.on hb2
        have hown := hG2.own
        rw [HQL.out] at hown
        have HG2 := Lib.hid hG2
        have HTO := Lib.hid hto
        have HTI := Lib.hid (show t.In W1.heap.size W2.heap.size W2 from hti.wide (by omega) (Nat.le_refl _))
        have HTL := Lib.hid htl
        have HN2 := Lib.hid (HNX.out.trans (hb2.mono hszr))
        have hs2 := hb2.size
        clear hfr hG2 hto hti htl hb2 z0 z1 z2
        go_wp2_with (at_builtin; refine wpList_append_own_at _ rfl _ _ 22 rfl W1.heap.size 23 j0 (.slice none 0 0) 1 24 Try.underlying22 hj hj0 hj1 hj2 rfl (by decide) _ _ _ rfl (hown.alloc _) ⟨W2.heap.size, 0, none⟩ 1 1 [.slice t.a t.l.length t.c] rfl rfl (one_cell _ _ _) (by simp [Value.oneCell']) (by unfold maxLen; omega) (by omega) (by simp; omega) ?_; intro v' w1 hown' hgrow _ hloc)
        have hba := below_alloc W2 (.cells #[.slice t.a t.l.length t.c] 23)
        have R1 := Lib.hid ((HG2.out.on hba).append (HTO.out.on hba) ((HTI.out.on hba).wide (Nat.le_refl _) hba.size) HAP.out HOF.out (by rw [HQL.out]; exact hown') hgrow (hloc.imp id fun h => ⟨_, h, Nat.le_refl _⟩))
        have R2 := Lib.hid ((HN2.out.alloc (by omega) _).grown hgrow (by simp; omega) (fun j hj => (hown.lt j hj).1))
        clear hown' hgrow hown hloc hba
        go_wp2
        go_roundw
        case rel => exact ⟨k + 1, Q ++ [t], by omega, by go_num, by rw [List.length_append, HQL.out]; rfl, by rw [List.map_append, ← HQ.out, ← HTL.out]; rfl, R1.out, R2.out⟩
        case measure => simp [intOf]; omega
      · obtain rfl : k = n := by omega
        obtain ⟨T, hTv, hTR, hTo, hTi⟩ := hgr.tab
        have hTl : T.R.length = k := by rw [hTR, hQl]
        have hTc : T.con = turnD k S.f.t.con := by
          show T.R.map Row.l = _
          rw [hTR, hQm, List.take_of_length_le (by rw [turnD_len]; exact Nat.le_refl _)]
        rw [hTv, hTl]
        have bxr := HBX.out.on HBR.out
        have z1 := bxr.c1
        have CU := Lib.hid (unitSystem_any (S.f.t.R.length : Int) T.a k T.c wr hn8)
        have HTO := Lib.hid hTo
        have HTI := Lib.hid hTi
        have HTC := Lib.hid hTc
        have HTL := Lib.hid hTl
        clear hgr hnx hQl hQm bxr hTo hTi hTc hTl hTR hTv
        go_wp2_with fail
        refine (show Calls _ _ _ _ _ from CU.out).mono ?_
        rintro e W3 ⟨t, rfl, htl, hto, hti, hb3⟩
        have HB3 : Hid (Below wB.heap.size wB W3) := Lib.hid (HBR.out.trans (hb3.mono HBR.out.size))
        have byr := HBY.out.on HB3.out
        have y0 := byr.c0
        have y1 := byr.c1
        have y2 := byr.c2
        have f0 := byr.fr 0
        have f1 := byr.fr 1
        have f2 := byr.fr 2
        have HY3 := Lib.hid byr
        have HTI3 := Lib.hid (HTI.out.on hb3)
        have HTO3 := Lib.hid (HTO.out.on hb3)
        have Hti := Lib.hid (show t.In wr.heap.size W3.heap.size W3 from hti.wide (by omega) (Nat.le_refl _))
        have Hto := Lib.hid hto
        have Htl := Lib.hid htl
        have hs3 := hb3.size
        have HBW3 := Lib.hid (hbw.trans (HB3.out.mono hbw.size))
        clear byr hti hto htl hb3 z1
        go_wp2
        obtain ⟨wF, hF⟩ : ∃ wF, wF = ((W3.setCell ⟨w.heap.size + 1, 0, none⟩ (.int .i64 (S.f.t.R.length : Int))).setCell ⟨w.heap.size + 1, 1, none⟩ (.slice T.a k T.c)).setCell ⟨w.heap.size + 1, 2, none⟩ (.slice t.a t.l.length t.c) := ⟨_, rfl⟩
        rw [← hF]
        have bF : Box3 wF (w.heap.size + 1) (.int .i64 (S.f.t.R.length : Int)) (.slice T.a k T.c) (.slice t.a t.l.length t.c) 29 := by rw [hF]; exact ((HY3.out.set0 _).set1 _).set2 _
        have tF : Touch (w.heap.size + 1) (w.heap.size + 2) W3 wF := by
          rw [hF]
          exact (((Touch.refl _ _ W3).set (by omega) (by omega) _ _).set (by omega) (by omega) _ _).set (by omega) (by omega) _ _
        have r0 := bF.c0
        have r1 := bF.c1
        have r2 := bF.c2
        have hsF := tF.size
        clear y0 y1 y2 f0 f1 f2 hF
        refine bodyPost_ret (v := .tuple #[.agg #[.int .i64 (S.f.t.R.length : Int), .slice T.a k T.c, .slice t.a t.l.length t.c], .bool true]) (by simp [results, Try.results64, go_sem, r0, r1, r2]) rfl ?_
        have hbf := HBW3.out.trans (tF.below (by omega) (by omega))
        rw [← HTL.out]
        exact sys_end (lo := W1.heap.size) (mid := wr.heap.size) (by rw [HK.out]; rfl) (by rw [HTC.out, HK.out, mkSys_con]) (by rw [Htl.out, HK.out]; rfl) (HTI3.out.touch tF (.inr (by omega))) (HTO3.out.touch HTI3.out tF (.inr (by omega))) ((Hti.out.touch tF (.inr (by omega))).wide (Nat.le_refl _) hsF) (Hto.out.touch Hti.out tF (.inr (by omega))) (by omega) hszr (by omega) hbf

end Go.Proofs.Ytddalelkgmkdpaa
