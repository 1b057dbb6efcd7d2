/- Both sides of IsHitting answer alike. Condition: System and list read as such. -/
import Derived.Test.YtddalelkgmkdpaaPlainHits
namespace Go.Proofs.Ytddalelkgmkdpaa
open Go.RowKit Go.Shelf

def hitOK (S : Sys) (e : List Int) : Bool := S.good && setB S.n.toNat e
theorem hitOK_like {S U : Sys} {c e : Row} (hl : U.Like S) (he : e.l = c.l) : hitOK U e.l = hitOK S c.l := by unfold hitOK; rw [hl.good, hl.1, he]

set_option maxRecDepth 16000 in
set_option maxHeartbeats 1000000 in
theorem l6Hits_any (S : Sys) (c : Row) (w : World) (hS : S.At w) (hc : c.At w) (h8 : ∀ l ∈ S.f.t.con, l.length ≤ 8) (hR : S.f.t.R.length ≤ 8) :
    Calls Try.prog 63 #[.agg #[.int .i64 S.n, .slice S.f.t.a S.f.t.R.length S.f.t.c, .slice S.f.o.a S.f.o.l.length S.f.o.c], .slice c.a c.l.length c.c] w fun e w' => e = .returned (.bool (hitsB S.f.t.con c.l)) ∧ Below w.heap.size w w' := by
  obtain ⟨wA, hA, hb, bx, hSA, hszA⟩ := laid_sys S w 29 hS
  have HCA := Lib.hid (hc.on hb)
  have HTA := Lib.hid hSA.2
  have HBX := Lib.hid bx
  have HA := Lib.hid hA
  have H8 := Lib.hid h8
  have hRi : (S.f.t.R.length : Int) ≤ 8 := by omega
  have HCL := Lib.hid (con_length S.f.t)
  clear hS hc bx hSA hA h8 hszA
  go_enter Try.func63, Try.ntmps63
  go_wp2
  go_loopw [5] (fun i wr => ∃ k : Nat, k ≤ S.f.t.R.length ∧ i = .int .i64 k ∧ DrewTo wA wr ∧ (S.f.t.con.take k).all (fun l => l.any fun x => c.l.contains x) = true) (fun i _ => S.f.t.R.length - (intOf i).toNat)
  case atStart => exact ⟨0, Nat.zero_le _, rfl, by rw [← HA.out]; exact DrewTo.refl _, by simp⟩
  case round =>
    obtain ⟨k, hk, rfl, hdw, hall⟩ := hrel
    have HALL := Lib.hid hall
    have HBW := Lib.hid hdw.below
    have HDW := Lib.hid hdw
    clear hall
    have y1 := (HBX.out.on HBW.out).c1
    by_cases hlt : k < S.f.t.R.length
    · have hlti : (k : Int) < (S.f.t.R.length : Int) := by omega
      obtain ⟨bt, ot, r, hta, hcr, hrat, hrl, hrm⟩ := tab_cells HTA.out HBW.out hlt
      have hr8 := H8.out r.l (List.mem_map.2 ⟨r, hrm, rfl⟩)
      have hkl : k < S.f.t.con.length := by rw [HCL.out]; exact hlt
      have hgk : S.f.t.con[k] = r.l := by
        rw [List.getD_eq_getElem?_getD, List.getElem?_eq_getElem hkl, Option.getD_some] at hrl; exact hrl
      obtain ⟨q, hq⟩ : ∃ q, q = (newE c.l r.l).length := ⟨_, rfl⟩
      have hqle : q ≤ 8 := by rw [hq]; exact Nat.le_trans (newE_le _ _) hr8
      have CN := Lib.hid fun d => (by
        have := l6New_any r c (wr.drewN d) (hrat.on (below_draws wr d)) ((HCA.out.on HBW.out).on (below_draws wr d)) (by omega)
        rw [← hq] at this; exact this)
      have hqi : (q : Int) ≤ 8 := by omega
      rw [hta] at y1
      by_cases hh : q = r.l.length
      · have HS : Hid (hitsB S.f.t.con c.l = false) := Lib.hid (all_out hkl (by rw [hgk]; exact newE_all.1 (by rw [← hq]; exact hh)))
        have hd : decide ((q : Int) = (r.l.length : Int)) = true := by rw [hh]; simp
        have hee : ((q : Int) == (r.l.length : Int)) = true := by rw [hh]; simp
        clear hta hrl hrm hgk hq hrat hdw
        go_wp2
        go_quiet ((go_at_call 76; exact Calls.quiet_of_same (CN.out _)))
        go_wp2
        go_ret
        exact ⟨by rw [HS.out]; rfl, hb.trans ((HBW.out.trans ((below_draws wr _).mono HBW.out.size)).mono hb.size)⟩
      · have HS : Hid ((S.f.t.con.take (k + 1)).all (fun l => l.any fun x => c.l.contains x) = true) := Lib.hid (all_take hkl HALL.out (by
          rw [hgk]
          cases hx : r.l.any (fun x => c.l.contains x) with
          | true => rfl
          | false => exact absurd (by rw [hq]; exact newE_all.2 hx) hh))
        have hd : decide ((q : Int) = (r.l.length : Int)) = false := by simp; omega
        have hee : ((q : Int) == (r.l.length : Int)) = false := by simp; omega
        clear hta hrl hrm hgk hq hrat hdw
        go_wp2
        go_quiet ((go_at_call 76; exact Calls.quiet_of_same (CN.out _)))
        go_wp2
        go_roundw
        case rel => exact ⟨k + 1, by omega, by go_num, HDW.out.more _, HS.out⟩
        case measure => simp [intOf]; omega
    · obtain rfl : k = S.f.t.R.length := by omega
      have HS : Hid (hitsB S.f.t.con c.l = true) := Lib.hid (all_end (by rw [HCL.out]; exact HALL.out))
      go_wp2
      go_ret
      exact ⟨by rw [HS.out]; rfl, hb.trans (HBW.out.mono hb.size)⟩

set_option maxRecDepth 16000 in
set_option maxHeartbeats 1000000 in
theorem specIsHitting_any (S : Sys) (c : Row) (w : World) (hS : S.At w) (hc : c.At w) (l b : Bool) (h : (hitOK S c.l = false ∧ l = false ∧ b = false) ∨ (hitOK S c.l = true ∧ l = hitsB S.f.t.con c.l ∧ b = true)) :
    Calls Try.prog 25 #[.agg #[.int .i64 S.n, .slice S.f.t.a S.f.t.R.length S.f.t.c, .slice S.f.o.a S.f.o.l.length S.f.o.c], .slice c.a c.l.length c.c] w (PBool2 l b w) := by
  obtain ⟨wA, hA, hb, bx, hSA, hszA⟩ := laid_sys S w 29 hS
  have x0 := bx.c0
  have x1 := bx.c1
  have x2 := bx.c2
  rw [hA] at x0 x1 x2
  have HSA : Hid (S.At wA) := Lib.hid hSA
  have HCA := Lib.hid (hc.on hb)
  have HBX := Lib.hid bx
  have HA := Lib.hid hA
  obtain ⟨v, hv⟩ : ∃ v, v = S.good := ⟨_, rfl⟩
  have CG := l6Good_any S wA hSA
  rw [← hv] at CG
  have CG1 := Lib.hid CG
  have HH := Lib.hid h
  have HV := Lib.hid hv
  have HNO : Hid (hitOK S c.l = false → l = false ∧ b = false) := Lib.hid (fun hn => by rcases HH.out with h | h; exact h.2; rw [hn] at h; exact absurd h.1 (by simp))
  clear hS hc bx hSA hA hv CG h
  unfold PBool2
  go_enter Try.func25, Try.ntmps25
  go_wp2_with fail
  rw [← HA.out]
  refine (show Calls _ _ _ _ _ from CG1.out).mono ?_
  rintro e W1 ⟨rfl, hb1⟩
  have hbw := hb.trans (hb1.mono hb.size)
  have HB1 := Lib.hid hb1
  clear x0 x1 x2 hb1
  cases v with
  | false =>
    have HE := Lib.hid (HNO.out (by unfold hitOK; rw [← HV.out]; rfl))
    go_wp2
    go_ret2
    exact ⟨by rw [HE.out.1, HE.out.2]; rfl, hbw⟩
  | true =>
    obtain ⟨n, hn, hn8, hm8, -, -, -⟩ := good_n HV.out.symm
    have h8 := good_row8 HV.out.symm
    have hcl := con_length S.f.t
    have y0 := (HBX.out.on HB1.out).c0
    rw [hn] at y0
    obtain ⟨u, hu⟩ : ∃ u, u = setB n c.l := ⟨_, rfl⟩
    have CR := rising_any c n W1 (HCA.out.on HB1.out) (by omega)
    rw [← hu] at CR
    have CR1 := Lib.hid CR
    have HOK : Hid (hitOK S c.l = u) := Lib.hid (by unfold hitOK; rw [← HV.out, hn, Int.toNat_natCast, hu]; rfl)
    have hni : (n : Int) ≤ 8 := by omega
    have CB := Lib.hid fun W (hW : Below wA.heap.size wA W) => l6Hits_any S c W (HSA.out.on hW) (HCA.out.on hW) h8 (by omega)
    clear hn hm8 h8 hcl hu CR
    go_wp2_with fail
    refine (show Calls _ _ _ _ _ from CR1.out).mono ?_
    rintro e W2 ⟨rfl, d, rfl⟩
    have hbw2 := hbw.trans ((below_draws W1 d).mono hbw.size)
    have HB2 := Lib.hid (HB1.out.trans ((below_draws W1 d).mono HB1.out.size))
    clear y0
    cases u with
    | false =>
      have HE := Lib.hid (HNO.out HOK.out)
      go_wp2
      go_ret2
      exact ⟨by rw [HE.out.1, HE.out.2]; rfl, hbw2⟩
    | true =>
      have HE : Hid (l = hitsB S.f.t.con c.l ∧ b = true) := Lib.hid (by rcases HH.out with h | h; rw [HOK.out] at h; exact absurd h.1 (by simp); exact h.2)
      have bx2 := HBX.out.on HB2.out
      have z0 := bx2.c0
      have z1 := bx2.c1
      have z2 := bx2.c2
      have CB1 := Lib.hid (CB.out _ HB2.out)
      clear bx2
      go_wp2_with fail
      refine (show Calls _ _ _ _ _ from CB1.out).mono ?_
      rintro e W3 ⟨rfl, hb3⟩
      go_wp2
      go_ret2
      exact ⟨by rw [HE.out.1, HE.out.2]; rfl, hbw2.trans (hb3.mono hbw2.size)⟩

set_option maxRecDepth 16000 in
set_option maxHeartbeats 1000000 in
theorem implIsHitting_any (S : Sys) (c : Row) (w : World) (hS : S.At w) (hc : c.At w) (l b : Bool) (h : (hitOK S c.l = false ∧ l = false ∧ b = false) ∨ (hitOK S c.l = true ∧ l = hitsB S.f.t.con c.l ∧ b = true)) :
    Calls Try.prog 27 #[.agg #[.int .i64 S.n, .slice S.f.t.a S.f.t.R.length S.f.t.c, .slice S.f.o.a S.f.o.l.length S.f.o.c], .slice c.a c.l.length c.c] w (PBool2 l b w) := by
  obtain ⟨wA, hA, hb, bx, hSA, hszA⟩ := laid_sys S w 29 hS
  have x0 := bx.c0
  have x1 := bx.c1
  have x2 := bx.c2
  rw [hA] at x0 x1 x2
  have HCA := Lib.hid (hc.on hb)
  have HA := Lib.hid hA
  obtain ⟨v, hv⟩ : ∃ v, v = S.good := ⟨_, rfl⟩
  have CG := implTurnSystem_any S wA hSA
  rw [← hv] at CG
  have CG1 := Lib.hid CG
  have HH := Lib.hid h
  have HV := Lib.hid hv
  have HNO : Hid (hitOK S c.l = false → l = false ∧ b = false) := Lib.hid (fun hn => by rcases HH.out with h | h; exact h.2; rw [hn] at h; exact absurd h.1 (by simp))
  clear hS hc bx hSA hA hv CG h
  unfold PBool2
  go_enter Try.func27, Try.ntmps27
  go_wp2_with fail
  rw [← HA.out]
  refine (show Calls _ _ _ _ _ from CG1.out).mono ?_
  rintro e W1 ⟨G, rfl, hlike, -, hGi, hb1⟩
  have hbw := hb.trans (hb1.mono hb.size)
  have HB1 := Lib.hid hb1
  have HLK := Lib.hid hlike
  have HGI := Lib.hid hGi
  clear x0 x1 x2 hb1 hlike hGi
  cases v with
  | false =>
    have HE := Lib.hid (HNO.out (by unfold hitOK; rw [← HV.out]; rfl))
    have HBF := Lib.hid (hbw.trans ((below_alloc W1 (Obj.cells #[.int .i64 G.n, .slice G.f.t.a G.f.t.R.length G.f.t.c, .slice G.f.o.a G.f.o.l.length G.f.o.c] 29)).mono hbw.size))
    go_wp2
    go_ret2
    exact ⟨by rw [HE.out.1, HE.out.2]; rfl, HBF.out⟩
  | true =>
    obtain ⟨n, hn, hn8, hm8, -, -, -⟩ := good_n HV.out.symm
    have hans : ansT S = turnS S := by unfold ansT; rw [← HV.out]; rfl
    have hlk := HLK.out
    rw [hans] at hlk
    have hnn : S.n.toNat = n := by omega
    obtain ⟨wB, hB⟩ : ∃ u, u = W1.alloc (Obj.cells #[.int .i64 G.n, .slice G.f.t.a G.f.t.R.length G.f.t.c, .slice G.f.o.a G.f.o.l.length G.f.o.c] 29) := ⟨_, rfl⟩
    have hbB : Below W1.heap.size W1 wB := by rw [hB]; exact below_alloc _ _
    have hGB : G.At wB := HGI.out.at.on hbB
    have hcB : c.At wB := (HCA.out.on HB1.out).on hbB
    have htwo : twoS G c.l = setB n c.l := by
      have h1 := twoS_like (c := c) (e := c) hlk rfl
      rw [h1]
      unfold twoS
      rw [turnS_good HV.out.symm]
      have : (turnS S).f.t.con.length = n := by unfold turnS; rw [mkSys_con, turnD_len, hnn]
      rw [this]; rfl
    have hok : hitOK S c.l = setB n c.l := by unfold hitOK; rw [← HV.out, hnn]; rfl
    have CI := Lib.hid (implIsCover_any G c wB hGB hcB l b (by
      rcases HH.out with h | h
      · exact .inl ⟨by rw [htwo, ← hok]; exact h.1, h.2.1, h.2.2⟩
      · have ht : twoS G c.l = true := by rw [htwo, ← hok]; exact h.1
        obtain ⟨T, hT⟩ := fineS_of ht
        refine .inr ⟨T, hT, ht, ?_, h.2.2⟩
        rw [h.2.1, covB_like hlk]
        unfold covB
        have hlt : ∀ k ∈ T, k < n := fun k hk => by
          have h3 := hT.lt k hk
          rw [hlk.2.2] at h3
          unfold turnS at h3
          rw [mkSys_con, turnD_len, hnn] at h3
          exact h3
        have h4 := hits_cover S.f.t.con n T hlt
        rw [hT.set, ← h4]
        have h5 : (turnS S).f.t.con = turnD n S.f.t.con := by unfold turnS; rw [mkSys_con, hnn]
        rw [h5]
        rfl))
    have HB := Lib.hid hB
    have HBB := Lib.hid (hbw.trans (hbB.mono hbw.size))
    clear hn hn8 hm8 hans hlk hnn hB hbB hGB hcB htwo hok
    go_wp2_with fail
    rw [← HB.out]
    refine (show Calls _ _ _ _ _ from CI.out).mono ?_
    rintro e W2 ⟨rfl, hb2⟩
    go_wp2
    go_ret2
    exact ⟨rfl, HBB.out.trans (hb2.mono HBB.out.size)⟩

theorem isHitting_pair (S : Sys) (c : Row) (_ : S.Small) (_ : c.l.length ≤ 1048576) : ∃ (v : Bool) (b : Bool),
    (∀ (G : Sys) (t : Row) (W : World), G.At W → t.At W → G.Like S → t.l = c.l → Calls Try.prog 25 #[.agg #[.int .i64 G.n, .slice G.f.t.a G.f.t.R.length G.f.t.c, .slice G.f.o.a G.f.o.l.length G.f.o.c], .slice t.a t.l.length t.c] W (PBool2 v b W)) ∧
    (∀ (G : Sys) (t : Row) (W : World), G.At W → t.At W → G.Like S → t.l = c.l → Calls Try.prog 27 #[.agg #[.int .i64 G.n, .slice G.f.t.a G.f.t.R.length G.f.t.c, .slice G.f.o.a G.f.o.l.length G.f.o.c], .slice t.a t.l.length t.c] W (PBool2 v b W)) := by
  by_cases h : hitOK S c.l = true
  · refine ⟨hitsB S.f.t.con c.l, true, fun G t W hG ht hl hs => specIsHitting_any G t W hG ht _ _ ?_, fun G t W hG ht hl hs => implIsHitting_any G t W hG ht _ _ ?_⟩
    all_goals exact .inr ⟨by rw [hitOK_like hl hs]; exact h, by rw [hl.2.2, hs], rfl⟩
  · have h' : hitOK S c.l = false := by simpa using h
    refine ⟨false, false, fun G t W hG ht hl hs => specIsHitting_any G t W hG ht _ _ ?_, fun G t W hG ht hl hs => implIsHitting_any G t W hG ht _ _ ?_⟩
    all_goals exact .inl ⟨by rw [hitOK_like hl hs]; exact h', rfl, rfl⟩
end Go.Proofs.Ytddalelkgmkdpaa
