/- The System of what sites reach, as the model makes it. Condition: a valid Field that reads as such. -/
import Derived.Test.YtddalelkgmkdpaaReachProg
import Derived.Test.YtddalelkgmkdpaaTurnLoop
import Derived.Test.YtddalelkgmkdpaaSets
namespace Go.Proofs.Ytddalelkgmkdpaa
open Go.RowKit Go.Shelf

theorem own_sliceR {w : World} {B k : Nat} {e : TypeId} {v : Value} {xs : List Value} (h : w.ownsRow B e 1 v (k + 1) xs) : ∃ g cap, v = .slice (some ⟨g, 0, none⟩) (k + 1) cap := by
  rcases id h.2 with ⟨_, h0⟩ | ⟨g, cap, cur, hv, _⟩
  · omega
  · exact ⟨g, cap, hv⟩

theorem own_baseR {w : World} {B B' : Nat} {e : TypeId} {v : Value} {n : Nat} {xs : List Value} (h : w.ownsRow B e 1 v n xs) (hB : B' ≤ B) : w.ownsRow B' e 1 v n xs := by
  obtain ⟨h1, h2⟩ := id h
  refine ⟨h1, ?_⟩
  rcases h2 with h2 | ⟨g, cap, cur, rfl, hg, r⟩
  · exact .inl h2
  · exact .inr ⟨g, cap, cur, rfl, by omega, r⟩

set_option maxRecDepth 16000 in
set_option maxHeartbeats 4000000 in
theorem l6Reach_any (F : Fld) (r : Int) (w : World) (hF : F.At w) (hg : F.good = true) :
    Calls Try.prog 80 #[.agg #[.slice F.o.a F.o.l.length F.o.c, .slice F.t.a F.t.R.length F.t.c], .int .i64 r] w fun e w' => ∃ (T : Tab) (t : Row), e = .returned (.agg #[.int .i64 (F.t.R.length : Int), .slice T.a T.R.length T.c, .slice t.a t.l.length t.c]) ∧ T.con = reachD F.o.l.length r F.t.con ∧ t.l = List.replicate F.o.l.length 1 ∧
      Fld.Own 3 w' ⟨t, T⟩ ∧ Fld.In w.heap.size w'.heap.size w' ⟨t, T⟩ ∧ Below w.heap.size w w' := by
  obtain ⟨j0, hj, hj0, hj1, hj2⟩ := info_parts infoInts
  obtain ⟨i0, hi, hz0, hz1, hz2⟩ := info_parts infoInt
  obtain ⟨wA, hA⟩ : ∃ u, u = w.alloc (Obj.cells #[.slice F.o.a F.o.l.length F.o.c, .slice F.t.a F.t.R.length F.t.c] 47) := ⟨_, rfl⟩
  have hb : Below w.heap.size w wA := by rw [hA]; exact below_alloc _ _
  have bx : Box2 wA w.heap.size (.slice F.o.a F.o.l.length F.o.c) (.slice F.t.a F.t.R.length F.t.c) 47 := by rw [hA]; exact Box2.made _ _ _ _
  have hSA : F.At wA := hF.on hb
  have hszA : wA.heap.size = w.heap.size + 1 := by rw [hA, size_alloc]
  obtain ⟨hn1, hn7, hm7, hrows⟩ := good_parts hg
  obtain ⟨n, hn⟩ : ∃ n, n = F.o.l.length := ⟨_, rfl⟩
  have hn8 : n ≤ 8 := by omega
  have h8 := hrows
  have hcl := con_length F.t
  obtain ⟨M, hM⟩ : ∃ M : Int, M = (F.t.R.length : Int) := ⟨_, rfl⟩
  obtain ⟨D, hD⟩ : ∃ D, D = reachD n r F.t.con := ⟨_, rfl⟩
  obtain ⟨wR, hR⟩ : ∃ u, u = wA.alloc (Obj.cells #[.int .i64 0, .slice none 0 0, .slice none 0 0] 29) := ⟨_, rfl⟩
  have hbR : Below wA.heap.size wA wR := by rw [hR]; exact below_alloc _ _
  have hszR : wR.heap.size = w.heap.size + 2 := by rw [hR, size_alloc, hszA]
  have bxR := bx.on hbR
  have byR : Box3 wR (w.heap.size + 1) (.int .i64 0) (.slice none 0 0) (.slice none 0 0) 29 := by rw [hR, ← hszA]; exact Box3.made _ _ _ _ _
  obtain ⟨b, hbb⟩ : ∃ b, b = w.heap.size + 2 := ⟨_, rfl⟩
  obtain ⟨V, hV⟩ : ∃ V, V = ((wR.alloc (.cells #[] 23)).alloc (.cells #[] 3)).alloc (Obj.cells #[.int .i64 M, .slice (some ⟨b, 0, none⟩) 0 0, .slice (some ⟨b + 1, 0, none⟩) 0 0] 29) := ⟨_, rfl⟩
  have hb1 := below_alloc wR (.cells #[] 23)
  have hs1 : (wR.alloc (.cells #[] 23)).heap.size = b + 1 := by rw [size_alloc, hszR, hbb]
  have hb2 := below_alloc (wR.alloc (.cells #[] 23)) (.cells #[] 3)
  have hs2 : ((wR.alloc (.cells #[] 23)).alloc (.cells #[] 3)).heap.size = b + 2 := by rw [size_alloc, hs1]
  have hb3 : Below (b + 2) ((wR.alloc (.cells #[] 23)).alloc (.cells #[] 3)) V := by rw [hV, ← hs2]; exact below_alloc _ _
  have hszV : V.heap.size = b + 3 := by rw [hV, size_alloc, hs2]
  have hbRV : Below wR.heap.size wR V := (hb1.trans (hb2.mono hb1.size)).trans (hb3.mono (by omega))
  have T0 : Turn b M D wR 0 0 [] (.slice (some ⟨b, 0, none⟩) 0 0) (.slice (some ⟨b + 1, 0, none⟩) 0 0) V := by
    refine ⟨rfl, rfl, ?_, ?_, ?_, by simp [Value.ownBlock], by simp [Value.ownBlock], by simp [Value.ownBlock], by simp, by simp, by rw [show b = wR.heap.size by omega]; exact hbRV, by omega⟩
    · have h1 := (tab_empty wR).on (hb2.mono (Nat.le_refl _))
      rw [hszR, ← hbb] at h1
      exact h1.on (by rw [hs2]; exact hb3)
    · rw [hV, ← hs2]; exact Box3.made _ _ _ _ _
    · have h1 := empty_own (wR.alloc (.cells #[] 23))
      rw [hs1] at h1
      exact own_baseR (owns_below h1 (by rw [hs2]; exact hb3)) (by omega)
  have HV : Hid (V = ((((w.alloc (Obj.cells #[.slice F.o.a F.o.l.length F.o.c, .slice F.t.a F.t.R.length F.t.c] 47)).alloc (Obj.cells #[.int .i64 0, .slice none 0 0, .slice none 0 0] 29)).alloc (.cells #[] 23)).alloc (.cells #[] 3)).alloc (Obj.cells #[.int .i64 M, .slice (some ⟨w.heap.size + 1 + 1, 0, none⟩) 0 0, .slice (some ⟨w.heap.size + 1 + 1 + 1, 0, none⟩) 0 0] 29)) := Lib.hid (by rw [hV, hR, hA, hbb])
  have HAV := Lib.hid ((hbR.trans (hbRV.mono hbR.size)) : Below wA.heap.size wA V)
  have HBX := Lib.hid bxR
  have HBY := Lib.hid byR
  have HSV := Lib.hid (show Fld.At wR F from hSA.on hbR)
  have HBWR := Lib.hid (hb.trans (hbR.mono hb.size))
  have HT0 := Lib.hid T0
  have HBB := Lib.hid hbb
  have HSZ := Lib.hid hszV
  have HSR := Lib.hid hszR
  have HCL := Lib.hid hcl
  have H8 := Lib.hid h8
  have HDL : Hid (D.length = n) := Lib.hid (by rw [hD, reachD_len])
  have HDG : Hid (∀ k, (hk : k < n) → (hd : k < D.length) → D[k] = picks (nearP k r) F.t.con F.t.con.length) := Lib.hid (fun k hk hd => by simp only [hD]; exact reachD_get n r _ hk)
  have HM := Lib.hid hM
  have hMi : M ≤ 8 := by omega
  have hmR8 : F.t.R.length ≤ 7 := hm7
  have hni : (n : Int) ≤ 8 := by omega
  have HBW := Lib.hid (hb.trans (HAV.out.mono hb.size))
  have x0 : (w.alloc (Obj.cells #[.slice F.o.a F.o.l.length F.o.c, .slice F.t.a F.t.R.length F.t.c] 47)).cell? ⟨w.heap.size, 1, none⟩ = some (.slice F.t.a F.t.R.length F.t.c) := by have := bx.c1; rw [hA] at this; exact this
  have HN := Lib.hid hn
  rw [hM] at HV
  rw [← hn, ← hD]
  clear hF hA bx hSA hR hbR bxR byR hV hb1 hb2 hb3 hbRV T0 hbb hszV hszR hcl h8 hD hM hg hs1 hs2 hm7 hszA hb hrows hn1 hn7
  rw [← hn] at HBX HV x0
  clear hn
  go_enter Try.func80, Try.ntmps80
  go_wp2_with fail
  rw [← HV.out]
  rw [show w.heap.size + 1 + 1 + 1 + 1 = b + 2 by have := HBB.out; omega]
  go_loopw [6, 7, 8] (fun xv _ _ wr => ∃ (k : Nat) (Q : List Row) (vs vc : Value), k ≤ n ∧ xv = .int .i64 k ∧ Turn b M D wR k k Q vs vc wr) (fun xv _ _ _ => n - (intOf xv).toNat)
  case atStart => exact ⟨0, [], _, _, Nat.zero_le _, rfl, by have := HT0.out; rw [HBB.out] at this ⊢; exact this⟩
  case round =>
    obtain ⟨k, Q, vs, vc, hk, rfl, hT⟩ := hrel
    have HT := Lib.hid hT
    have hBW : Below wR.heap.size wR wr := by rw [HSR.out, ← HBB.out]; exact hT.below
    have HBR := Lib.hid hBW
    have y0 := (HBX.out.on hBW).c0
    have y1 := (HBX.out.on hBW).c1
    by_cases hlt : k < n
    · have hlti : (k : Int) < (n : Int) := by omega
      have hown0 := empty_own wr
      have hbe := below_alloc wr (.cells #[] 3)
      have HO0 := Lib.hid hown0
      have HE0 := Lib.hid hbe
      have hszr := hT.size
      clear hT hBW hown0 hbe
      go_wp2
      go_loopw [7, 8] (fun rv jv w3 => ∃ j : Nat, j ≤ F.t.R.length ∧ jv = .int .i64 j ∧ w3.ownsRow wr.heap.size 3 1 rv (picks (nearP k r) F.t.con j).length (iv (picks (nearP k r) F.t.con j)) ∧ Below wr.heap.size wr w3) (fun _ jv _ => F.t.R.length - (intOf jv).toNat)
      case atStart => exact ⟨0, Nat.zero_le _, rfl, HO0.out, HE0.out⟩
      case round =>
        obtain ⟨j, hjle, rfl, hownj, hnx⟩ := hrel
        have HNX := Lib.hid hnx
        have hszn := hnx.size
        have HBR3 := Lib.hid (HBR.out.trans (hnx.mono HBR.out.size))
        have z1 := (HBX.out.on HBR3.out).c1
        by_cases hltj : j < F.t.R.length
        · have hltji : (j : Int) < (F.t.R.length : Int) := by omega
          obtain ⟨bt, ot, x, hta, hcr, hrat, hrl, hrm⟩ := tab_cells HSV.out.2 HBR3.out hltj
          have hxl := H8.out x hrm
          have hkx : k < x.l.length := by rw [hxl, ← HN.out]; exact hlt
          obtain ⟨bx, ox, hxa, hxc⟩ : ∃ b o, x.a = some ⟨b, o, none⟩ ∧ wr.cell? ⟨b, o + k, none⟩ = some (.int .i64 (x.l.getD k 0)) := by
            rcases hrat.2.2 with h3 | ⟨b, o, h5, _, hc5⟩
            · have := congrArg List.length (iv_nil h3); rw [List.length_nil] at this; omega
            · exact ⟨b, o, h5, by rw [hc5 k _ (iv_at hkx), List.getD_eq_getElem?_getD, List.getElem?_eq_getElem hkx]; rfl⟩
          obtain ⟨y, hy⟩ : ∃ y, y = x.l.getD k 0 := ⟨_, rfl⟩
          rw [← hy] at hxc
          have HOW := Lib.hid hownj
          have hpl := picks_len (nearP k r) F.t.con j
          have HV0 : Hid (nearP k r (F.t.con.getD j []) = decide (y ≤ r)) := Lib.hid (by rw [hrl, hy]; rfl)
          have hki : (k : Int) < (x.l.length : Int) := by omega
          have hxi : (x.l.length : Int) ≤ 8 := by have := HN.out; omega
          rw [hta] at z1
          rw [hxa] at hcr
          clear hta hrat hrl hrm hnx hownj hxl hxa hy
          by_cases hyr : y ≤ r
          · have HE : Hid (picks (nearP k r) F.t.con (j + 1) = picks (nearP k r) F.t.con j ++ [(j : Int)]) := Lib.hid (picks_yes (by rw [HV0.out]; simp; exact hyr))
            have hown := HOW.out
            go_wp2_with (at_builtin; refine wpList_append_own _ rfl _ _ 23 rfl _ 3 i0 (.int .i64 0) 1 8 Try.underlying23 hi hz0 hz1 hz2 rfl (by decide) _ _ _ rfl (hown.alloc _) ⟨wr.heap.size, 0, none⟩ 1 1 [.int .i64 (j : Int)] rfl rfl (one_cell _ _ _) (by simp [Value.oneCell']) (by unfold maxLen; omega) (by omega) (by simp; omega) ?_; intro v' w1 hown' hgrow _)
            have R1 := Lib.hid (by have h9 := own_snoc rfl hown'; rw [← HE.out] at h9; exact h9)
            have R2 := Lib.hid ((HNX.out.alloc (by omega) _).grown hgrow (by simp; omega) (fun j hj => (hown.lt j hj).1))
            clear hown' hgrow hown
            go_wp2
            go_roundw
            case rel => exact ⟨j + 1, by omega, by go_num, R1.out, R2.out⟩
            case measure => simp [intOf]; omega
          · have HE : Hid (picks (nearP k r) F.t.con (j + 1) = picks (nearP k r) F.t.con j) := Lib.hid (picks_no (by rw [HV0.out]; simp; omega))
            go_wp2
            go_roundw
            case rel => exact ⟨j + 1, by omega, by go_num, by rw [HE.out]; exact HOW.out, HNX.out⟩
            case measure => simp [intOf]; omega
        · obtain rfl : j = F.t.R.length := by omega
          obtain ⟨t, ht, htl, hto, hti⟩ := row_of_own hownj
          have HB3 := HNX
          have T0 := HT
          have T3 := Lib.hid (HT.out.on hnx)
          have HTL : Hid (t.l = D[k]'(by rw [HDL.out]; exact hlt)) := Lib.hid (by rw [HDG.out k hlt, htl, HCL.out])
          have HTO := Lib.hid hto
          have HTI := Lib.hid hti
          subst ht
          clear htl hto hti hnx hownj
          have hbr := T3.out.box
          have c1' : (wr.alloc (.cells #[.slice t.a t.l.length t.c] 23)).cell? ⟨b + 2, 1, none⟩ = some vs := (hbr.on (below_alloc _ _)).c1
          have c1w : wr.cell? ⟨b + 2, 1, none⟩ = some vs := hbr.c1
          have hown := T3.out.grows.own
          rw [T3.out.len] at hown
          have hsz3 := T3.out.size
          clear hbr
          have HHL : Hid (k < D.length) := Lib.hid (by rw [HDL.out]; exact hlt)
          go_wp2_with (first | (at_builtin; refine wpList_append_own_at _ rfl _ _ 22 rfl b 23 j0 (.slice none 0 0) 1 24 Try.underlying22 hj hj0 hj1 hj2 rfl (by decide) _ _ _ rfl (hown.alloc _) ⟨wr.heap.size, 0, none⟩ 1 1 [.slice t.a t.l.length t.c] rfl rfl (one_cell _ _ _) (by simp [Value.oneCell']) (by unfold maxLen; omega) (by omega) (by simp; omega) ?_; intro v' w1 hown' hgrow _ hloc; obtain ⟨g', cap', rfl⟩ := own_sliceR hown'; have hbx1 : Box3 w1 (b + 2) (.int .i64 M) vs vc 29 := (hgrow.block (b + 2) (by rw [size_alloc]; omega) (fun e => T3.out.ns e.symm)).trans (T3.out.box.on (below_alloc _ _)); have c1 := hbx1.c1; have c2 := hbx1.c2; have f1 := hbx1.fr 1; have HT5 := Lib.hid (T0.out.sets (o := .cells #[.slice t.a t.l.length t.c] 23) HB3.out HHL.out HTL.out HTO.out HTI.out hown' hgrow hloc); have d2 := HT5.out.box.c2; have hsz5 := HT5.out.size; have hown5 := HT5.out.own; clear hown hown' hgrow hloc hbx1) | (at_builtin; refine wpList_append_own_at _ rfl _ _ 23 rfl b 3 i0 (.int .i64 0) 1 8 Try.underlying23 hi hz0 hz1 hz2 rfl (by decide) _ _ _ rfl (hown5.alloc _) ⟨w1.heap.size, 0, none⟩ 1 1 [.int .i64 1] rfl rfl (by rw [show w1.heap.size = (w1.setCell ⟨b + 2, 1, none⟩ (.slice (some ⟨g', 0, none⟩) (k + 1) cap')).heap.size by simp [World.setCell]]; exact one_cell _ _ _) (by simp [Value.oneCell']) (by unfold maxLen; omega) (by omega) (by rw [size_alloc]; omega) ?_; intro v6 w6 hown6 hgrow6 _ hloc6; obtain ⟨g6, cap6, rfl⟩ := own_sliceR hown6; have hbx6 := (hgrow6.block (b + 2) (by rw [size_alloc]; omega) (fun e => HT5.out.nc e.symm)).trans (HT5.out.box.on (below_alloc _ _)); have c6 := Box3.c2 hbx6; have f6 := Box3.fr hbx6 2; have T7 := Lib.hid (HT5.out.costs (o := .cells #[.int .i64 1] 3) hown6 hgrow6 hloc6); clear hown5 hown6 hgrow6 hloc6 hbx6))
          go_roundw
          case rel => exact ⟨k + 1, Q ++ [t], _, _, by omega, by go_num, T7.out⟩
          case measure => simp [intOf]; omega
    · obtain rfl : k = n := by omega
      have hb := HT.out.box
      have e0 := hb.c0
      have e1 := hb.c1
      have e2 := hb.c2
      have byr := HBY.out.on hBW
      have f0 := byr.c0
      have f1 := byr.c1
      have f2 := byr.c2
      have q0 := byr.fr 0
      have q1 := byr.fr 1
      have q2 := byr.fr 2
      have HYR := Lib.hid byr
      have HBW2 := Lib.hid (HBWR.out.trans (hBW.mono HBWR.out.size))
      obtain ⟨T, t, hTv, htv, hTc, htl, hFo, hFi⟩ := HT.out.parts
      subst hTv htv
      have HTC : Hid (T.con = D) := Lib.hid (by rw [hTc, List.take_of_length_le (by rw [HDL.out]; exact Nat.le_refl _)])
      have HTL := Lib.hid htl
      have HFO := Lib.hid hFo
      have HFI := Lib.hid hFi
      have hszr := hT.size
      clear hT hBW hb byr hTc htl hFo hFi y1
      go_wp2
      obtain ⟨wF, hF⟩ : ∃ wF, wF = ((wr.setCell ⟨w.heap.size + 1, 0, none⟩ (.int .i64 M)).setCell ⟨w.heap.size + 1, 1, none⟩ (.slice T.a T.R.length T.c)).setCell ⟨w.heap.size + 1, 2, none⟩ (.slice t.a t.l.length t.c) := ⟨_, rfl⟩
      rw [← hF]
      have bF : Box3 wF (w.heap.size + 1) (.int .i64 M) (.slice T.a T.R.length T.c) (.slice t.a t.l.length t.c) 29 := by rw [hF]; exact ((HYR.out.set0 _).set1 _).set2 _
      have hsR := HSR.out
      have hbbo := HBB.out
      have tF : Touch (w.heap.size + 1) (w.heap.size + 2) wr wF := by
        rw [hF]
        exact (((Touch.refl _ _ wr).set (by omega) (by omega) _ _).set (by omega) (by omega) _ _).set (by omega) (by omega) _ _
      have hsF := tF.size
      have HEQ := Lib.hid (And.intro hsR hbbo)
      clear hsR hbbo
      have r0 := bF.c0
      have r1 := bF.c1
      have r2 := bF.c2
      clear e0 e1 e2 f0 f1 f2 q0 q1 q2 hF
      refine bodyPost_ret (v := .agg #[.int .i64 M, .slice T.a T.R.length T.c, .slice t.a t.l.length t.c]) (by simp [results, Try.results80, go_sem, r0, r1, r2]) rfl ?_
      obtain ⟨hsR, hbbo⟩ := HEQ.out
      have h1 := HFI.out
      have h2 : Fld.In b wF.heap.size wF ⟨t, T⟩ := (h1.touch tF (.inr (by omega))).wide (Nat.le_refl _) hsF
      exact ⟨T, t, by rw [HM.out], HTC.out, HTL.out, HFO.out.touch h1 tF (.inr (by omega)), h2.wide (by omega) (Nat.le_refl _), HBW2.out.trans (tF.below (by omega) (by omega))⟩
end Go.Proofs.Ytddalelkgmkdpaa
