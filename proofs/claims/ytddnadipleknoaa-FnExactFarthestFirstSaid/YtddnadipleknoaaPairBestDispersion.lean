/- BestDispersion on both sides, as its law wants it. No condition. -/
import Derived.Test.YtddnadipleknoaaBestDispI
namespace Go.Proofs.Ytddnadipleknoaa
open Go.RowKit Go.Shelf

set_option maxHeartbeats 1000000 in
theorem l11K_any (T : Tab) (k : Int) (w : World) (hT : T.At w) :
    Calls Try.prog 24 #[.slice T.a T.R.length T.c, .int .i64 k] w fun e w' => e = .returned (.bool (spreadB T.con k)) ∧ DrewTo w w' := by
  have C := Lib.hid (l11Ground_any T w hT)
  obtain ⟨g, hg⟩ : ∃ g, g = grdB T.con := ⟨_, rfl⟩
  have HE : Hid (spreadB T.con k = (g && (decide (2 ≤ k) && decide (k ≤ (T.R.length : Int))))) := Lib.hid (by unfold spreadB; rw [hg, con_length, Bool.and_assoc])
  have CI := Lib.hid (fun W => l1In_any k 2 (T.R.length : Int) W)
  have hlim := tab_lim0 hT
  rw [← hg] at C
  rw [HE.out]
  clear hT hg HE
  cases g with
  | false =>
    go_enter Try.func24, Try.ntmps24
    go_wp2_with fail
    refine (show Calls _ _ _ _ _ from C.out).mono ?_
    rintro e W ⟨rfl, hd⟩
    go_wp2
    go_ret
    exact ⟨rfl, hd⟩
  | true =>
    go_enter Try.func24, Try.ntmps24
    go_wp2_with fail
    refine (show Calls _ _ _ _ _ from C.out).mono ?_
    rintro e W ⟨rfl, hd⟩
    go_wp2_with fail
    refine (show Calls _ _ _ _ _ from CI.out W).mono ?_
    rintro e W2 ⟨rfl, rfl⟩
    go_wp2
    go_ret
    exact ⟨rfl, hd⟩

set_option maxRecDepth 32000 in
set_option maxHeartbeats 2000000 in
theorem specBestD_any (T : Tab) (kk : Int) (w : World) (hT : T.At w) (l : List Int) (b : Bool) (hv : BDis T.con kk l b) :
    Calls Try.prog 8 #[.slice T.a T.R.length T.c, .int .i64 kk] w (PInts l b w) := by
  obtain ⟨wA, hA⟩ : ∃ u, u = w.alloc (.cells #[] 3) := ⟨_, rfl⟩
  have hbA : Below w.heap.size w wA := by rw [hA]; exact below_alloc _ _
  have E0 := Lib.hid (show wA.ownsRow w.heap.size 3 1 (.slice (some ⟨w.heap.size, 0, none⟩) 0 0) 0 (iv []) by rw [hA]; exact empty_own w)
  have HT := Lib.hid (hT.on hbA)
  have CT := Lib.hid (l11K_any T kk wA (hT.on hbA))
  have HA := Lib.hid hA
  have hCL := con_length T
  rcases hv with ⟨h2, rfl, rfl⟩ | ⟨h2, rfl, rfl⟩
  · rw [h2] at CT
    clear h2 hT hA hCL
    go_enter Try.func8, Try.ntmps8
    go_wp2_with fail
    rw [← HA.out]
    refine (show Calls _ _ _ _ _ from CT.out).mono ?_
    rintro e W1 ⟨rfl, hd⟩
    go_wp2
    go_ret2
    obtain ⟨t, ht, htl, hto, hti⟩ := row_of_own (owns_below E0.out hd.below)
    exact ⟨t, congrArg (fun v => Ending.returned (.tuple #[v, .bool false])) ht, htl, hto, hti, hbA.trans (hd.below.mono hbA.size)⟩
  · rw [h2] at CT
    obtain ⟨hg, k, rfl, h2k, hk⟩ := spread_nat h2
    rw [hCL] at hk
    obtain ⟨n, hn⟩ : ∃ n, n = T.R.length := ⟨_, rfl⟩
    have HN := Lib.hid hn
    have hn7 : n ≤ 7 := by have := hg.few; rw [hCL] at this; omega
    have hni : (n : Int) ≤ 7 := by omega
    have hki : (k : Int) ≤ 7 := by omega
    have HG := Lib.hid hg
    have HRES : Hid (up (bestK (negD T.con) T.con.length ((k : Nat) : Int).toNat) = up (bestK (negD T.con) n k)) := Lib.hid (by rw [Int.toNat_natCast, hCL, hn])
    rw [HRES.out]
    rw [← hn] at hk ⊢
    have CT1 := Lib.hid (by have := CT.out; rw [← hn] at this; exact this)
    clear h2 hT hA hCL hg hn CT
    go_enter Try.func8, Try.ntmps8
    go_wp2_with fail
    rw [← HA.out]
    refine (show Calls _ _ _ _ _ from CT1.out).mono ?_
    rintro e V ⟨rfl, hd⟩
    have HV := Lib.hid (hbA.trans (hd.below.mono hbA.size))
    have HTV := Lib.hid (HT.out.on hd.below)
    have EV := Lib.hid (owns_below E0.out hd.below)
    have CS := Lib.hid (l2Sets_any n V hn7)
    clear hd
    go_wp2_with fail
    refine CS.out.mono ?_
    rintro e W1 ⟨v, g, cap, Q, rfl, htab, hb1⟩
    obtain ⟨hgl, hcc, hcm, hwg⟩ := htab.lt
    obtain ⟨c, hc⟩ : ∃ c, c = 2 ^ n - 1 := ⟨_, rfl⟩
    rw [← hc] at htab hcc
    have hc7 : c ≤ 127 := by
      have : 2 ^ n ≤ 2 ^ 7 := Nat.pow_le_pow_right (by omega) hn7
      have h7 : (2 : Nat) ^ 7 = 128 := rfl
      omega
    obtain rfl := htab.val
    have HC := Lib.hid hc
    have HTB := Lib.hid htab
    have HB1 := Lib.hid hb1
    have HL : Hid (∀ i, (hi : i < Q.length) → ∃ hi2 : i < (setsTo n c).length, Q[i].l = up (setsTo n c)[i] ∧ (setsTo n c)[i] ≠ [] ∧ ∀ m ∈ (setsTo n c)[i], m < T.R.length) := Lib.hid fun i hi => by
      have hi2 : i < (setsTo n c).length := by rw [setsTo_len, ← htab.len]; exact hi
      have hr := htab.row hi
      rw [List.getD_eq_getElem?_getD, List.getElem?_eq_getElem hi2] at hr
      have hmem : (setsTo n c)[i] ∈ allSets n := by
        have e := sets_all n hn7
        rw [← hc] at e
        rw [← e]; exact List.getElem_mem _
      have hgd := List.all_eq_true.1 (sets_good n hn7).1 _ hmem
      simp only [Bool.and_eq_true, decide_eq_true_eq, List.all_eq_true] at hgd
      exact ⟨hi2, hr, List.length_pos_iff.1 hgd.1, fun m hm => by rw [← HN.out]; exact hgd.2 m hm⟩
    have hci : (c : Int) ≤ 127 := by omega
    have hW1 := hb1.size
    have E1 := Lib.hid (owns_below EV.out hb1)
    have HVS := Lib.hid HV.out.size
    have HTW := Lib.hid (HTV.out.on hb1)
    have HFW := Lib.hid (HV.out.trans (hb1.mono HV.out.size))
    clear htab hb1 hc
    go_wp2
    go_loopw [6, 8] (fun yv i wr => ∃ (j : Nat) (y : Row), j ≤ c ∧ i = .int .i64 j ∧ yv = .slice y.a y.l.length y.c ∧ Best1 w.heap.size wr y (firstK (negD T.con) k ((setsTo n c).take j)) ∧ Below W1.heap.size W1 wr) (fun _ i _ => c - (intOf i).toNat)
    case atStart =>
      obtain ⟨t, ht, htl, hto, hti⟩ := row_of_own E1.out
      exact ⟨0, t, Nat.zero_le _, rfl, ht, ⟨htl, hto, hti⟩, Below.refl _ _⟩
    case round =>
      obtain ⟨j, y, hj, rfl, rfl, hy, hnx⟩ := hrel
      have HY := Lib.hid hy
      have HNX := Lib.hid hnx
      by_cases hlt : j < c
      · have hlti : (j : Int) < (c : Int) := by omega
        have hjQ : j < Q.length := by have := HTB.out.len; omega
        obtain ⟨hi2, hrl, hne, hml⟩ := HL.out j hjQ
        obtain ⟨r, hr⟩ : ∃ r, r = Q[j] := ⟨_, rfl⟩
        obtain ⟨T1, hT1⟩ : ∃ T1, T1 = (setsTo n c)[j] := ⟨_, rfl⟩
        obtain ⟨U, hU⟩ : ∃ U, U = firstK (negD T.con) k ((setsTo n c).take j) := ⟨_, rfl⟩
        rw [← hr, ← hT1] at hrl
        rw [← hT1] at hne hml
        rw [← hU] at hy
        have hcl : wr.cell? ⟨g, j, none⟩ = some (.slice r.a r.l.length r.c) := (hnx.cell (p := ⟨g, j, none⟩) hgl).trans (by rw [hr]; exact HTB.out.cell hjQ)
        have HCLL := Lib.hid hcl
        have HRB : Hid (Best1 w.heap.size wr r T1) := Lib.hid ⟨hrl, by rw [hr]; exact (HTB.out.grows.lots.1 _ (List.getElem_mem _)).on hnx, by rw [hr]; exact (((HTB.out.grows.ins _ (List.getElem_mem _)).on hnx).wide HVS.out hnx.size)⟩
        have HST : Hid (firstK (negD T.con) k ((setsTo n c).take (j + 1)) = stepK (negD T.con) k U T1) := Lib.hid (by rw [firstK_step _ _ _ hi2, ← hU, ← hT1])
        have hrn : r.l.length = T1.length := by rw [hrl, up_length]
        have hyn : y.l.length = U.length := by rw [hy.l, up_length]
        have HRN := Lib.hid hrn
        have HYN := Lib.hid hyn
        have HYB := Lib.hid hy
        have HNE := Lib.hid hne
        have HML := Lib.hid hml
        have HU := Lib.hid hU
        clear hr hT1 hU hrl hne hml hy hrn hyn
        have HY1 : Hid (∀ W8, Below wr.heap.size wr W8 → Below W1.heap.size W1 W8) := Lib.hid fun W8 h8 => HNX.out.trans (h8.mono HNX.out.size)
        by_cases hk1 : T1.length = k
        · have hd1 : ((r.l.length : Int) == (k : Int)) = true := by rw [HRN.out, hk1]; simp
          by_cases hu0 : U = []
          · have hd3 : ((y.l.length : Int) == 0) = true := by rw [HYN.out, hu0]; rfl
            have HS : Hid (stepK (negD T.con) k U T1 = T1) := Lib.hid (by unfold stepK stepB; rw [if_pos hk1, if_pos (.inl hu0)])
            clear hu0 hk1
            go_wp2
            go_roundw
            case rel => exact ⟨j + 1, r, by omega, by go_num, rfl, by rw [HST.out, HS.out]; exact HRB.out, HY1.out _ (Below.refl _ _)⟩
            case measure => simp [intOf]; omega
          · have hd3 : ((y.l.length : Int) == 0) = false := by rw [HYN.out]; have := List.length_pos_iff.2 hu0; simp; omega
            obtain ⟨x, hx⟩ : ∃ x, x = dispT T.con T1 := ⟨_, rfl⟩
            obtain ⟨z, hz⟩ : ∃ z, z = dispT T.con U := ⟨_, rfl⟩
            have hUl : ∀ m ∈ U, m < T.R.length := by
              rcases firstK_mem (negD T.con) k ((setsTo n c).take j) [] with h | h
              · exact absurd (HU.out.trans h) hu0
              · have h2 : U ∈ setsTo n c := List.mem_of_mem_take (i := j) (by rw [HU.out]; exact h)
                obtain ⟨i, hi, he⟩ := List.mem_iff_getElem.1 h2
                have hiQ : i < Q.length := by rw [HTB.out.len]; rw [setsTo_len] at hi; exact hi
                obtain ⟨_, _, _, h5⟩ := HL.out i hiQ
                rw [he] at h5; exact h5
            have hU2 : 2 ≤ U.length := by
              rcases firstK_len (negD T.con) k ((setsTo n c).take j) with h | h
              · exact absurd (HU.out.trans h) hu0
              · rw [← HU.out] at h; omega
            have C1 := Lib.hid (fun u (hu : Below wr.heap.size wr u) => (by have := l11Disp_any T r T1 u ((HTW.out.on HNX.out).on hu) HG.out (HRB.out.on hu).ins.at HRB.out.l HML.out (by rw [hk1]; exact h2k); rw [← hx, ← HN.out] at this; exact this.mono fun e w' ⟨h1, h2⟩ => ⟨h1, h2.below⟩ : Calls Try.prog 26 #[.slice T.a n T.c, .slice r.a r.l.length r.c] u fun e w' => e = .returned (.int .i64 x) ∧ Below u.heap.size u w'))
            have C2 := Lib.hid (fun u (hu : Below wr.heap.size wr u) => (by have := l11Disp_any T y U u ((HTW.out.on HNX.out).on hu) HG.out (HYB.out.on hu).ins.at HYB.out.l hUl hU2; rw [← hz, ← HN.out] at this; exact this.mono fun e w' ⟨h1, h2⟩ => ⟨h1, h2.below⟩ : Calls Try.prog 26 #[.slice T.a n T.c, .slice y.a y.l.length y.c] u fun e w' => e = .returned (.int .i64 z) ∧ Below u.heap.size u w'))
            have HX := Lib.hid hx
            have HZ := Lib.hid hz
            have HU0 := Lib.hid hu0
            have HK1 := Lib.hid hk1
            clear hx hz hu0 hk1 hUl hU2
            go_wp2_with fail
            refine (show Calls _ _ _ _ _ from C1.out wr (Below.refl _ _)).mono ?_
            rintro e W7 ⟨rfl, hb7⟩
            have C3 := Lib.hid (C2.out W7 hb7)
            have hb7s := hb7.size
            have HB7 := Lib.hid hb7
            clear hb7 hcl
            go_wp2_with fail
            refine (show Calls _ _ _ _ _ from C3.out).mono ?_
            rintro e W8 ⟨rfl, hb8⟩
            have HB8 := Lib.hid (HB7.out.trans (hb8.mono hb7s))
            have hc8 : W8.cell? ⟨g, j, none⟩ = some (.slice r.a r.l.length r.c) := (HB8.out.cell (p := ⟨g, j, none⟩) (Nat.lt_of_lt_of_le hgl HNX.out.size)).trans HCLL.out
            clear hb8
            by_cases hxz : x > z
            · have HSS : Hid (stepK (negD T.con) k U T1 = T1) := Lib.hid (by unfold stepK stepB; rw [if_pos HK1.out, if_pos (.inr (by unfold negD; rw [← HX.out, ← HZ.out]; omega))])
              go_wp2
              go_roundw
              case rel => exact ⟨j + 1, r, by omega, by go_num, rfl, by rw [HST.out, HSS.out]; exact HRB.out.on HB8.out, HY1.out _ HB8.out⟩
              case measure => simp [intOf]; omega
            · have HSS : Hid (stepK (negD T.con) k U T1 = U) := Lib.hid (by unfold stepK stepB; rw [if_pos HK1.out, if_neg (fun h => h.elim HU0.out (fun h => hxz (by unfold negD at h; rw [← HX.out, ← HZ.out] at h; omega)))])
              go_wp2
              go_roundw
              case rel => exact ⟨j + 1, y, by omega, by go_num, rfl, by rw [HST.out, HSS.out]; exact HYB.out.on HB8.out, HY1.out _ HB8.out⟩
              case measure => simp [intOf]; omega
        · have hd1 : ((r.l.length : Int) == (k : Int)) = false := by rw [HRN.out]; simp; omega
          have HS : Hid (stepK (negD T.con) k U T1 = U) := Lib.hid (by unfold stepK; rw [if_neg hk1])
          clear hk1
          go_wp2
          go_roundw
          case rel => exact ⟨j + 1, y, by omega, by go_num, rfl, by rw [HST.out, HS.out]; exact HYB.out, HY1.out _ (Below.refl _ _)⟩
          case measure => simp [intOf]; omega
      · obtain rfl : j = c := by omega
        have HE := Lib.hid (show firstK (negD T.con) k ((setsTo n j).take j) = bestK (negD T.con) n k by rw [List.take_of_length_le (by rw [setsTo_len]; exact Nat.le_refl _), HC.out]; exact bestK_model _ hn7 (by omega) hk)
        go_wp2
        go_ret2
        have hY := HY.out
        rw [HE.out] at hY
        exact ⟨y, rfl, hY.l, hY.own, hY.ins, HFW.out.trans (hnx.mono HFW.out.size)⟩

theorem bestDispersion_pair {X : Prop} (T : Tab) (k : Int) (_ : X) (_ : T.Small) : ∃ (l : List Int) (b : Bool) (_ : l.length ≤ 1048576),
    (∀ (Q : Tab) (W : World), Q.At W → Q.con = T.con → Calls Try.prog 8 #[.slice Q.a Q.R.length Q.c, .int .i64 k] W (PInts l b W)) ∧
    (∀ (Q : Tab) (W : World), Q.At W → Q.con = T.con → Calls Try.prog 10 #[.slice Q.a Q.R.length Q.c, .int .i64 k] W (PInts l b W)) := by
  obtain ⟨l, b, h, hl⟩ := bDis_some T.con k
  exact ⟨l, b, hl, fun Q W hQ hq => specBestD_any Q k W hQ l b (by rw [hq]; exact h), fun Q W hQ hq => implBestD_any Q k W hQ l b (by rw [hq]; exact h)⟩
end Go.Proofs.Ytddnadipleknoaa
