/- ProvesApart on both sides, as its law wants it. No condition. -/
import Derived.Test.YtmbgipllkbahpaaProvImpl
namespace Go.Proofs.Ytmbgipllkbahpaa
open Go.RowKit

theorem nearL_to {d : List (List Int)} {D y : Int} {g : List Int} {k : Nat} (hk : k ≤ g.length) (h : ∀ j, j < k → cel d y.toNat (g.getD j 0).toNat < D) : nearL d D y (g.take k) = true := by
  unfold nearL
  rw [List.all_eq_true]
  intro z hz
  obtain ⟨j, hj, rfl⟩ := List.mem_iff_getElem.1 hz
  rw [List.length_take] at hj
  have := h j (by omega)
  rw [getD_at (by omega)] at this
  rw [List.getElem_take]
  exact decide_eq_true this
theorem nearL_no {d : List (List Int)} {D y : Int} {g : List Int} {k j : Nat} (hk : k ≤ g.length) (hj : j < k) (h : ¬ cel d y.toNat (g.getD j 0).toNat < D) : nearL d D y (g.take k) = false := by
  unfold nearL
  rw [List.all_eq_false]
  refine ⟨g.getD j 0, ?_, by simpa using h⟩
  rw [getD_at (by omega)]
  exact List.mem_iff_getElem.2 ⟨j, by rw [List.length_take]; omega, List.getElem_take⟩

set_option maxRecDepth 32000 in
set_option maxHeartbeats 4000000 in
theorem specProv_any (T Q : Tab) (D : Int) (w : World) (hT : T.At w) (hQ : Q.At w) :
    Calls Try.prog 20 #[.slice T.a T.R.length T.c, .slice Q.a Q.R.length Q.c, .int .i64 D] w (PBool2 (numB T.con D && provB T.con Q.con D) (numB T.con D) w) := by
  obtain ⟨i0, hi, hz0, hz1, hz2⟩ := info_parts infoInt
  have C := Lib.hid (l11Ground_any T w hT)
  obtain ⟨g, hg⟩ : ∃ g, g = grdB T.con := ⟨_, rfl⟩
  obtain ⟨u, hu⟩ : ∃ u, u = (decide (1 ≤ D) && decide (D ≤ 100)) := ⟨_, rfl⟩
  have C2 := Lib.hid (fun W => (by have := l1In_any D 1 100 W; rw [← hu] at this; exact this : Calls Try.prog 38 #[.int .i64 D, .int .i64 1, .int .i64 100] W fun e w' => e = .returned (.bool u) ∧ w' = W))
  have HNB : Hid (numB T.con D = (g && u)) := Lib.hid (by unfold numB; rw [hg, hu])
  rw [← hg] at C
  have HG : Hid (g = true → Grd T.con) := Lib.hid fun h => grdB_iff.1 (hg.symm.trans h)
  have HT := Lib.hid hT
  have HQ := Lib.hid hQ
  have hlimT := tab_lim0 hT
  have hlimQ := tab_lim0 hQ
  rw [HNB.out]
  obtain ⟨n, hn⟩ : ∃ n, n = T.R.length := ⟨_, rfl⟩
  obtain ⟨m, hm⟩ : ∃ m, m = Q.R.length := ⟨_, rfl⟩
  obtain ⟨A, hA⟩ : ∃ A, A = T.a := ⟨_, rfl⟩
  obtain ⟨B, hB⟩ : ∃ A, A = Q.a := ⟨_, rfl⟩
  have HN := Lib.hid hn
  have HM := Lib.hid hm
  have HAA := Lib.hid hA
  have HBB := Lib.hid hB
  rw [← hn, ← hA] at C
  rw [← hn, ← hm, ← hA, ← hB]
  rw [← hn] at hlimT
  rw [← hm] at hlimQ
  clear hT hQ hg hu hn hm hA hB HNB
  have CNUM : Hid (∀ W, Calls Try.prog 37 #[.int .i64 D] W fun e w' => e = .returned (.bool u) ∧ w' = W) := Lib.hid fun W => by
    go_enter Try.func37, Try.ntmps37
    go_wp2_with fail
    refine (show Calls _ _ _ _ _ from C2.out W).mono ?_
    rintro e W2 ⟨rfl, rfl⟩
    go_wp2
    go_ret
    exact ⟨rfl, rfl⟩
  clear C2
  show Calls _ _ _ _ fun e w' => e = .returned (.tuple #[.bool ((g && u) && provB T.con Q.con D), .bool (g && u)]) ∧ Below w.heap.size w w'
  cases g with
  | false =>
    go_enter Try.func20, Try.ntmps20
    go_wp2_with fail
    refine (show Calls _ _ _ _ _ from C.out).mono ?_
    rintro e W ⟨rfl, hd⟩
    go_wp2
    go_ret2
    exact ⟨rfl, hd.below⟩
  | true =>
    cases u with
    | false =>
      go_enter Try.func20, Try.ntmps20
      go_wp2_with fail
      refine (show Calls _ _ _ _ _ from C.out).mono ?_
      rintro e W ⟨rfl, hd⟩
      go_wp2_with fail
      refine (show Calls _ _ _ _ _ from CNUM.out W).mono ?_
      rintro e W2 ⟨rfl, rfl⟩
      go_wp2
      go_ret2
      exact ⟨rfl, hd.below⟩
    | true =>
      have hgrd := HG.out rfl
      have hn7 : (n : Int) ≤ 7 := by have := hgrd.few; rw [con_length, ← HN.out] at this; omega
      have HGR := Lib.hid hgrd
      have HCN : Hid (T.con.length = n) := Lib.hid (by rw [con_length, HN.out])
      have HQN : Hid (Q.con.length = m) := Lib.hid (by rw [con_length, HM.out])
      have HQC : Hid (∀ k (h : k < Q.R.length), ∃ q : k < Q.con.length, Q.con[k] = Q.R[k].l) := Lib.hid fun k h => con_row Q h
      have CI := Lib.hid (fun x W => l1In_any x 0 ((n : Int) - 1) W)
      have hw1 : IntKind.i64.wrap ((n : Int) - 1) = (n : Int) - 1 := IntWalk.i64_in _ (by omega)
      clear hgrd HG
      go_enter Try.func20, Try.ntmps20
      go_wp2_with fail
      refine (show Calls _ _ _ _ _ from C.out).mono ?_
      rintro e W ⟨rfl, hd⟩
      go_wp2_with fail
      refine (show Calls _ _ _ _ _ from CNUM.out W).mono ?_
      rintro e W2 ⟨rfl, rfl⟩
      obtain ⟨V, rfl⟩ : ∃ V, V = W2 := ⟨_, rfl⟩
      have HBW := Lib.hid hd.below
      obtain ⟨G, hG⟩ : ∃ G, G = V.heap.size := ⟨_, rfl⟩
      have H0 : Hid ((V.alloc (.cells #[] 3)).ownsRow G 3 1 (.slice (some ⟨G, 0, none⟩) 0 0) 0 (iv [])) := Lib.hid (by rw [hG]; exact empty_own V)
      have HB0 := Lib.hid (hd.below.trans ((below_alloc V (.cells #[] 3)).mono hd.below.size))
      have HGV : Hid (w.heap.size ≤ G) := Lib.hid (by rw [hG]; exact hd.below.size)
      have HGS : Hid (G = V.heap.size) := Lib.hid hG
      clear hd hG
      go_wp2_with fail
      go_loopw [8, 9, 10, 11] (fun out iv' _ _ wr => ∃ (i : Nat) (t : Row), i ≤ m ∧ iv' = .int .i64 i ∧ out = .slice t.a t.l.length t.c ∧ Hid (t.l = flatG (Q.con.take i)) ∧ Hid (wr.ownsRow G 3 1 (.slice t.a t.l.length t.c) t.l.length (iv t.l)) ∧ Hid (t.At wr) ∧ Below w.heap.size w wr ∧ Hid (G ≤ wr.heap.size) ∧ Hid (ProvTo T.con Q.con D i)) (fun _ iv' _ _ _ => m - (intOf iv').toNat)
      case atStart => exact ⟨0, ⟨some ⟨G, 0, none⟩, 0, []⟩, Nat.zero_le _, rfl, by first | rfl | rw [HGS.out]; rfl, Lib.hid (by simp [flatG]), H0, Lib.hid ⟨Nat.le_refl _, (show (0 : Nat) ≤ maxLen by decide), .inl rfl⟩, HB0.out, Lib.hid (by rw [HGS.out, size_alloc]; omega), Lib.hid (provTo_zero _ _ _)⟩
      case round =>
        obtain ⟨i, t, hi', rfl, rfl, HL, HO, HA, hnx, HSZ, HP⟩ := hrel
        by_cases hlt : i < m
        · have hlti : (i : Int) < (m : Int) := by omega
          have hiQ : i < Q.R.length := by rw [← HM.out]; exact hlt
          obtain ⟨b, o, hb', _, hc⟩ := tab_rows HQ.out (by omega)
          have hBe : B = some ⟨b, o, none⟩ := HBB.out.trans hb'
          obtain ⟨x, hx⟩ : ∃ x, x = Q.R[i] := ⟨_, rfl⟩
          have HCQ := Lib.hid (fun u (hu : Below w.heap.size w u) => hc u hu i hiQ)
          rw [← hx] at HCQ
          obtain ⟨hqi, hqe⟩ := HQC.out i hiQ
          rw [← hx] at hqe
          have HQE : Hid (∃ h : i < Q.con.length, Q.con[i] = x.l) := Lib.hid ⟨hqi, hqe⟩
          have hxA : x.At w := by rw [hx]; exact HQ.out.2 _ (List.getElem_mem hiQ)
          have hxlim := row_lim0 hxA
          have HXA := Lib.hid hxA
          have HNX := Lib.hid hnx
          have HMID : Hid (Mid T.con Q.con D i x.l 0) := Lib.hid (mid_zero x.l HP.out)
          have HL0 : Hid (t.l = flatG (Q.con.take i) ++ x.l.take 0) := Lib.hid (by rw [HL.out]; simp)
          clear hb' hc hx hqe hqi hxA hnx hiQ
          subst hBe
          go_wp2
          go_loopw [8, 10, 11] (fun out kv _ wr => ∃ (k : Nat) (t : Row), k ≤ x.l.length ∧ kv = .int .i64 k ∧ out = .slice t.a t.l.length t.c ∧ Hid (t.l = flatG (Q.con.take i) ++ x.l.take k) ∧ Hid (wr.ownsRow G 3 1 (.slice t.a t.l.length t.c) t.l.length (iv t.l)) ∧ Hid (t.At wr) ∧ Below w.heap.size w wr ∧ Hid (G ≤ wr.heap.size) ∧ Hid (Mid T.con Q.con D i x.l k)) (fun _ kv _ _ => x.l.length - (intOf kv).toNat)
          case atStart => exact ⟨0, t, Nat.zero_le _, rfl, rfl, HL0, HO, HA, HNX.out, HSZ, HMID⟩
          case round =>
            obtain ⟨k, t, hk, rfl, rfl, HL, HO, HA, hnx, HSZ, HMD⟩ := hrel
            have hq0 := HCQ.out wr hnx
            by_cases hltk : k < x.l.length
            · have hltki : (k : Int) < (x.l.length : Int) := by omega
              obtain ⟨bx, ox, hxa, _, hxc⟩ := row_cell HXA.out (by omega)
              obtain ⟨y, hy⟩ : ∃ y, y = x.l.getD k 0 := ⟨_, rfl⟩
              have HXC := Lib.hid hxc
              have hyc := hxc wr hnx k hltk
              rw [← hy] at hyc
              rw [hxa] at hq0
              have hyk : x.l[k] = y := by rw [hy, getD_at hltk]
              have HY := Lib.hid hy
              have HYK := Lib.hid hyk
              have HNXK := Lib.hid hnx
              have HXAD := Lib.hid hxa
              clear hxc hxa hy hyk
              obtain ⟨v, hv⟩ : ∃ v, v = (decide (0 ≤ y) && decide (y ≤ (n : Int) - 1)) := ⟨_, rfl⟩
              have CI1 := Lib.hid (by have := CI.out y wr; rw [← hv] at this; exact this)
              cases v with
              | false =>
                have HE : Hid (provB T.con Q.con D = false) := Lib.hid (by
                  obtain ⟨h1, h2⟩ := HQE.out
                  refine mid_range h1 (k := k) (by rw [h2]; exact hltk) fun hc => ?_
                  simp only [h2, HYK.out, HCN.out] at hc
                  rw [decide_eq_true hc.1, decide_eq_true (by omega)] at hv; cases hv)
                clear hv hnx
                go_wp2_with fail
                refine (show Calls _ _ _ _ _ from CI1.out).mono ?_
                rintro e W3 ⟨rfl, rfl⟩
                go_wp2
                go_ret2
                exact ⟨by rw [HE.out]; rfl, HNXK.out⟩
              | true =>
                have hyb : 0 ≤ y ∧ y < (n : Int) := by
                  have := hv.symm; rw [Bool.and_eq_true, decide_eq_true_eq, decide_eq_true_eq] at this; omega
                obtain ⟨h, hh⟩ : ∃ h, h = hasI t.l y := ⟨_, rfl⟩
                have CH := Lib.hid (by have := l1Has_any t y wr HA.out; rw [← hh] at this; exact this)
                have HHH := Lib.hid hh
                clear hv hh
                cases h with
                | true =>
                  have HE : Hid (provB T.con Q.con D = false) := Lib.hid (by
                    obtain ⟨h1, h2⟩ := HQE.out
                    refine mid_seen h1 (k := k) (by rw [h2]; exact hltk) ?_
                    have := HHH.out.symm
                    unfold hasI at this
                    rw [HL.out] at this
                    simp only [h2, HYK.out]
                    simpa using this)
                  clear hnx
                  go_wp2_with fail
                  refine (show Calls _ _ _ _ _ from CI1.out).mono ?_
                  rintro e W3 ⟨rfl, rfl⟩
                  go_wp2_with fail
                  refine (show Calls _ _ _ _ _ from CH.out).mono ?_
                  rintro e W4 ⟨rfl, rfl⟩
                  go_wp2
                  go_ret2
                  exact ⟨by rw [HE.out]; rfl, HNXK.out⟩
                | false =>
                  have HNS : Hid (y ∉ flatG (Q.con.take i) ++ x.l.take k) := Lib.hid (by
                    have := HHH.out.symm
                    unfold hasI at this
                    rw [HL.out] at this
                    simpa using this)
                  have ht7 : t.l.length ≤ n := by rw [HL.out]; exact few_places HMD.out.nodup (by rw [← HCN.out]; exact HMD.out.mem)
                  have hown := HO.out
                  have hszr := HSZ.out
                  have hwsz := HNXK.out.size
                  clear hnx
                  go_wp2_with fail
                  refine (show Calls _ _ _ _ _ from CI1.out).mono ?_
                  rintro e W3 ⟨rfl, rfl⟩
                  go_wp2_with fail
                  refine (show Calls _ _ _ _ _ from CH.out).mono ?_
                  rintro e W4 ⟨rfl, rfl⟩
                  go_wp2_with (at_builtin; refine wpList_append_own _ rfl _ _ 29 rfl G 3 i0 (.int .i64 0) 1 8 Try.underlying29 hi hz0 hz1 hz2 rfl (by decide) _ _ _ rfl (hown.alloc _) ⟨W4.heap.size, 0, none⟩ 1 1 [.int .i64 y] rfl rfl (one_cell _ _ _) (by simp [Value.oneCell']) (by unfold maxLen; omega) (by omega) (by simp; omega) ?_; intro v' w1 hown' hgrow _)
                  obtain ⟨t2, rfl, htl2, -, hti2⟩ := row_of_own (w := w1) (B := G) (e := 3) (v := v') (l := t.l ++ [y]) (by rw [List.length_append]; simpa [iv] using hown')
                  have HO2 : Hid (w1.ownsRow G 3 1 (.slice t2.a t2.l.length t2.c) t2.l.length (iv t2.l)) := Lib.hid (by rw [htl2, List.length_append]; rw [htl2, List.length_append] at hown'; simpa [iv] using hown')
                  have HT2A := Lib.hid hti2.at
                  have HR2 : Hid (Below w.heap.size w w1) := Lib.hid ((HNXK.out.alloc hwsz _).grown hgrow (by simp; omega) (fun j hj => Nat.le_trans HGV.out (hown.lt j hj).1))
                  have HSZ2 : Hid (G ≤ w1.heap.size) := Lib.hid (by have := hgrow.size; simp at this; omega)
                  have HL2 : Hid (t2.l = flatG (Q.con.take i) ++ x.l.take (k + 1)) := Lib.hid (by rw [htl2, HL.out, List.take_succ_eq_append_getElem hltk, HYK.out, List.append_assoc])
                  obtain ⟨bT, oT, hTa, hrowT⟩ := grd_cells HT.out HGR.out (by have := HN.out; omega)
                  have hAe : A = some ⟨bT, oT, none⟩ := HAA.out.trans hTa
                  rw [← HN.out] at hrowT
                  obtain ⟨p, hp⟩ : ∃ p : Nat, y = p := ⟨y.toNat, by omega⟩
                  have hpn : p < n := by omega
                  have hpi : (p : Int) < (n : Int) := by omega
                  obtain ⟨bp, op, cp, hrp⟩ := hrowT p hpn
                  have HRP := Lib.hid hrp
                  have HXLT : Hid (∀ j, j < k → 0 ≤ x.l.getD j 0 ∧ x.l.getD j 0 < (n : Int)) := Lib.hid fun j hj => by
                    have := HMD.out.mem (x.l.getD j 0) (List.mem_append.2 (.inr (by rw [getD_at (by omega)]; exact List.mem_iff_getElem.2 ⟨j, by rw [List.length_take]; omega, List.getElem_take⟩)))
                    rw [HCN.out] at this; exact this
                  have HYC := Lib.hid (fun u (hu : Below w.heap.size w u) => HXC.out u hu k hltk)
                  have HYR : Hid (0 ≤ y ∧ y < (n : Int)) := Lib.hid hyb
                  rw [← HY.out] at HYC
                  clear hown' hgrow hown hti2 htl2 hTa hrowT hrp hyc hq0 hszr hwsz hyb
                  subst hp
                  subst hAe
                  go_wp2
                  go_loopw [11] (fun jv wr => ∃ j : Nat, j ≤ k ∧ jv = .int .i64 j ∧ DrewTo w1 wr ∧ Hid (∀ j', j' < j → cel T.con ((p : Nat) : Int).toNat (x.l.getD j' 0).toNat < D)) (fun jv _ => k - (intOf jv).toNat)
                  case atStart => exact ⟨0, Nat.zero_le _, rfl, DrewTo.refl _, Lib.hid fun j hj => absurd hj (by omega)⟩
                  case round =>
                    obtain ⟨j, hj, rfl, hdw, HJ⟩ := hrel
                    by_cases hltj : j < k
                    · have hltji : (j : Int) < (k : Int) := by omega
                      have hjx : (j : Int) < (x.l.length : Int) := by omega
                      have hbw := HR2.out.trans (hdw.below.mono HR2.out.size)
                      obtain ⟨q, hq⟩ : ∃ q : Nat, x.l.getD j 0 = q := ⟨(x.l.getD j 0).toNat, by have := HXLT.out j hltj; omega⟩
                      have hqn : q < n := by have := HXLT.out j hltj; omega
                      have hqi : (q : Int) < (n : Int) := by omega
                      have d1 := HCQ.out wr hbw
                      rw [HXAD.out] at d1
                      have d2 := HYC.out wr hbw
                      have d3 := (HRP.out wr hbw).1
                      have d4 := HXC.out wr hbw j (by omega)
                      rw [hq] at d4
                      obtain ⟨z, hz⟩ : ∃ z, z = cel T.con p q := ⟨_, rfl⟩
                      have d5 := (HRP.out wr hbw).2 q hqn
                      rw [← hz] at d5
                      by_cases hzD : z < D
                      · have hng : ¬ z ≥ D := by omega
                        have HS : Hid (∀ j', j' < j + 1 → cel T.con ((p : Nat) : Int).toNat (x.l.getD j' 0).toNat < D) := Lib.hid fun j' hj' => by
                          rcases Nat.lt_or_ge j' j with q' | q'
                          · exact HJ.out j' q'
                          · obtain rfl : j' = j := by omega
                            rw [hq, Int.toNat_natCast, Int.toNat_natCast, ← hz]; exact hzD
                        clear hq hz hqn hbw
                        go_wp2
                        go_quiet (fail)
                        go_wp2
                        go_roundw
                        case rel => exact ⟨j + 1, by omega, by go_num, hdw.more _, HS⟩
                        case measure => simp [intOf]; omega
                      · have hng : z ≥ D := by omega
                        have HE : Hid (provB T.con Q.con D = false) := Lib.hid (by
                          obtain ⟨h1, h2⟩ := HQE.out
                          refine mid_near h1 (k := k) (by rw [h2]; exact hltk) ?_
                          rw [h2, ← HY.out]
                          exact nearL_no (by omega) hltj (by rw [hq, Int.toNat_natCast, Int.toNat_natCast, ← hz]; omega))
                        have HBF := Lib.hid (HR2.out.trans ((hdw.more 1).below.mono HR2.out.size))
                        clear hq hz hqn hbw
                        go_wp2
                        go_quiet (fail)
                        go_wp2
                        go_ret2
                        exact ⟨by rw [HE.out]; rfl, HR2.out.trans ((hdw.more _).below.mono HR2.out.size)⟩
                    · obtain rfl : j = k := by omega
                      have HS : Hid (Mid T.con Q.con D i x.l (j + 1)) := Lib.hid (mid_next HMD.out hltk (by rw [HYK.out, HCN.out]; exact HYR.out) (by rw [HYK.out]; exact HNS.out) (by rw [← HY.out]; exact nearL_to (by omega) HJ.out))
                      have HOW := Lib.hid (owns_below HO2.out hdw.below)
                      have HTA3 := Lib.hid (HT2A.out.on hdw.below)
                      have HBF := HR2.out.trans (hdw.below.mono HR2.out.size)
                      have HSZ3 : Hid (G ≤ wr.heap.size) := Lib.hid (Nat.le_trans HSZ2.out hdw.below.size)
                      go_wp2
                      go_roundw
                      case rel => exact ⟨j + 1, t2, by omega, by go_num, rfl, HL2, HOW, HTA3, HBF, HSZ3, HS⟩
                      case measure => simp [intOf]; omega
            · obtain rfl : k = x.l.length := by omega
              have HLE : Hid (t.l = flatG (Q.con.take (i + 1))) := Lib.hid (by
                obtain ⟨h1, h2⟩ := HQE.out
                rw [HL.out, List.take_length, flatG_step h1, h2])
              by_cases h0 : x.l.length = 0
              · have heq : ((x.l.length : Int) == 0) = true := by rw [h0]; rfl
                have HE : Hid (provB T.con Q.con D = false) := Lib.hid (by
                  obtain ⟨h1, h2⟩ := HQE.out
                  refine each_no h1 ?_
                  unfold groupB
                  rw [h2, h0]; simp)
                clear h0
                go_wp2
                go_ret2
                exact ⟨by rw [HE.out]; rfl, hnx⟩
              · have heq : ((x.l.length : Int) == 0) = false := by rw [beq_eq_false_iff_ne]; omega
                have HS : Hid (ProvTo T.con Q.con D (i + 1)) := Lib.hid (by
                  obtain ⟨h1, h2⟩ := HQE.out
                  exact mid_end h1 (by rw [h2]; exact HMD.out) (by rw [h2]; omega))
                clear h0
                go_wp2
                go_roundw
                case rel => exact ⟨i + 1, t, by omega, by go_num, rfl, HLE, HO, HA, hnx, HSZ, HS⟩
                case measure => simp [intOf]; omega
        · obtain rfl : i = m := by omega
          have HE : Hid (provB T.con Q.con D = ((t.l.length : Int) == (n : Int))) := Lib.hid (by
            have h1 := HP.out
            rw [← HQN.out] at h1
            have h2 := HL.out
            rw [← HQN.out, List.take_length] at h2
            rw [prov_end h1, ← h2, HCN.out, nat_eqB])
          go_wp2
          go_ret2
          exact ⟨by rw [HE.out]; rfl, hnx⟩

theorem provesApart_pair {X : Prop} (T Q : Tab) (D : Int) (_ : X) (_ : T.Small) (hQ : Q.Small) : ∃ v b : Bool,
    (∀ (T' Q' : Tab) (W : World), T'.At W → Q'.At W → T'.con = T.con → Q'.con = Q.con → Calls Try.prog 20 #[.slice T'.a T'.R.length T'.c, .slice Q'.a Q'.R.length Q'.c, .int .i64 D] W (PBool2 v b W)) ∧
    (∀ (T' Q' : Tab) (W : World), T'.At W → Q'.At W → T'.con = T.con → Q'.con = Q.con → Calls Try.prog 21 #[.slice T'.a T'.R.length T'.c, .slice Q'.a Q'.R.length Q'.c, .int .i64 D] W (PBool2 v b W)) :=
  ⟨numB T.con D && provB T.con Q.con D, numB T.con D,
   fun T' Q' W h1 h2 e1 e2 => by have := specProv_any T' Q' D W h1 h2; rw [e1, e2] at this; exact this,
   fun T' Q' W h1 h2 e1 e2 => by have := implProv_any T' Q' D W h1 h2 (Tab.Small.rows hQ e2).2.2; rw [e1, e2] at this; exact this⟩
end Go.Proofs.Ytmbgipllkbahpaa
