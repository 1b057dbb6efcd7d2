/- The contract of the test whether lists are a flow, on the program's side. Condition: the arguments read as such. -/
import Derived.Test.YtehmjmknegnojaaFlowImpl
import Derived.Test.YtehmjmknegnojaaDot
import Derived.Test.YtehmjmknegnojaaTabLaw
namespace Go.Proofs.Ytehmjmknegnojaa
open Go.RowKit

theorem conY_at {T : Tab} {k : Nat} (h : k < T.R.length) : T.con.getD k [] = T.R[k].l := by
  unfold Tab.con
  rw [List.getD_eq_getElem?_getD, List.getElem?_map, List.getElem?_eq_getElem h]; rfl
theorem con_lenT (T : Tab) : T.con.length = T.R.length := by unfold Tab.con; rw [List.length_map]
/-- What a valid supply is. -/
structure Supplied (F : Fld) (r n : List Int) (s : Row) (T : List Nat) : Prop where
  fine : Fine F s T
  rl : r.length = F.o.l.length
  nl : n.length = F.t.R.length
  rb : ∀ x ∈ r, 0 ≤ x ∧ x ≤ 20
  nb : ∀ x ∈ n, 0 ≤ x ∧ x ≤ 5
theorem supplied {F : Fld} {r n : List Int} {s : Row} (h : givenB F r n s = true) : ∃ T, Supplied F r n s T := by
  unfold givenB at h
  rw [Bool.and_eq_true] at h
  obtain ⟨h3, h4, h5, h6⟩ := needsB_iff.1 h.2
  obtain ⟨T, hf⟩ := fine_of h.1
  exact ⟨T, hf, h4, h6, fun x hx => upTo_iff.1 (h3 x hx), fun x hx => upTo_iff.1 (h5 x hx)⟩
theorem Supplied.need {F : Fld} {r n : List Int} {s : Row} {T : List Nat} (h : Supplied F r n s T) (j : Nat) : 0 ≤ n.getD j 0 ∧ n.getD j 0 ≤ 5 := getB (by omega) (by omega) h.nb j
theorem openR_bound {r S : List Int} (h : ∀ x ∈ r, 0 ≤ x ∧ x ≤ 20) (a : Nat) : 0 ≤ (openR r S).getD a 0 ∧ (openR r S).getD a 0 ≤ 20 := by
  by_cases ha : a < r.length
  · rw [openR_at ha]
    split
    · exact getB (by omega) (by omega) h a
    · omega
  · rw [List.getD_eq_getElem?_getD, List.getElem?_eq_none (by rw [openR_len]; omega)]; simp
/-- What is left of the rooms of open sites is not great. -/
theorem midF_bound {c : Int} {r0 : List Int} {D : List (List Int)} {k j a : Nat} (hc : c = 1 ∨ c = -1) (h0 : 0 ≤ r0.getD a 0 ∧ r0.getD a 0 ≤ 20) (hk : k ≤ 7) (h : ∀ j, j < k → 0 ≤ cellD D j a ∧ cellD D j a ≤ 5) (h2 : 0 ≤ cellD D k a ∧ cellD D k a ≤ 5) : -60 ≤ r0.getD a 0 + c * (usedTo D a k + if a < j then cellD D k a else 0) ∧ r0.getD a 0 + c * (usedTo D a k + if a < j then cellD D k a else 0) ≤ 60 := by
  have := used_bound (D := D) (a := a) k h
  rcases hc with rfl | rfl
  all_goals split <;> omega

set_option maxRecDepth 16000 in
set_option maxHeartbeats 1500000 in
theorem flowValid_any (F : Fld) (r n s : Row) (Y : Tab) (w : World) (hF : F.At w) (hr : r.At w) (hn : n.At w) (hs : s.At w) (hY : Y.At w) (hYs : Y.Small) :
    Calls Try.prog 46 #[.agg #[.slice F.o.a F.o.l.length F.o.c, .slice F.t.a F.t.R.length F.t.c, .slice r.a r.l.length r.c, .slice n.a n.l.length n.c, .slice s.a s.l.length s.c, .slice Y.a Y.R.length Y.c]] w fun e w' => e = .returned (.bool (givenB F r.l n.l s && flowB F r.l n.l s.l Y.con)) ∧ Below w.heap.size w w' := by
  obtain ⟨wA, hA, hbA, bx, hszA⟩ := laid_box #[.slice F.o.a F.o.l.length F.o.c, .slice F.t.a F.t.R.length F.t.c, .slice r.a r.l.length r.c, .slice n.a n.l.length n.c, .slice s.a s.l.length s.c, .slice Y.a Y.R.length Y.c] w 62
  have c0 := bx.cell 0 rfl
  have c1 := bx.cell 1 rfl
  have c2 := bx.cell 2 rfl
  have c3 := bx.cell 3 rfl
  have c4 := bx.cell 4 rfl
  rw [hA] at c0 c1 c2 c3 c4
  obtain ⟨g, hg⟩ : ∃ g, g = givenB F r.l n.l s := ⟨_, rfl⟩
  have cv := valid_any F r n s wA (hF.on hbA) (hr.on hbA) (hn.on hbA) (hs.on hbA)
  rw [← hg] at cv
  have CV := Lib.hid cv
  have HBX := Lib.hid bx
  have HA := Lib.hid hA
  have HG := Lib.hid hg
  have HFA := Lib.hid (hF.on hbA)
  have HRA := Lib.hid (hr.on hbA)
  have HNA := Lib.hid (hn.on hbA)
  have HSA := Lib.hid (hs.on hbA)
  have HYA := Lib.hid (hY.on hbA)
  have hyi := tab_lim hY
  have hni := row_lim hn
  have HYS := Lib.hid hYs
  obtain ⟨q, hq⟩ : ∃ q, q = flowB F r.l n.l s.l Y.con := ⟨_, rfl⟩
  have HQ := Lib.hid hq
  rw [← hg, ← hq]
  clear hA bx hF hr hn hs hY hg cv hYs hq
  go_enter Try.func46, Try.ntmps46
  go_wp2_with fail
  rw [show w.alloc (Obj.cells #[.slice F.o.a F.o.l.length F.o.c, .slice F.t.a F.t.R.length F.t.c, .slice r.a r.l.length r.c, .slice n.a n.l.length n.c, .slice s.a s.l.length s.c, .slice Y.a Y.R.length Y.c] 62) = wA from HA.out.symm]
  clear c0 c1 c2 c3 c4
  refine (show Calls _ _ _ _ _ from CV.out).mono ?_
  rintro e W1 ⟨rfl, hb1⟩
  have hbw := hbA.trans (hb1.mono hbA.size)
  cases g with
  | false =>
    go_wp2
    go_ret
    exact ⟨rfl, hbw⟩
  | true =>
    obtain ⟨T, hS⟩ := supplied HG.out.symm
    have HSU := Lib.hid hS
    have hsz := good_sizes hS.fine.good
    have hrl := hS.rl
    have hnl := hS.nl
    have y0 := (HBX.out.on hb1).cell 0 rfl
    have y1 := (HBX.out.on hb1).cell 1 rfl
    have y2 := (HBX.out.on hb1).cell 2 rfl
    have y3 := (HBX.out.on hb1).cell 3 rfl
    have y4 := (HBX.out.on hb1).cell 4 rfl
    have y5 := (HBX.out.on hb1).cell 5 rfl
    by_cases hD : Y.R.length = n.l.length
    · have e1 : ((Y.R.length : Int) != (n.l.length : Int)) = false := by rw [hD]; simp
      have CO := openRooms_any F r n s T W1 (HRA.out.on hb1) (HSA.out.on hb1) hS.fine.set (by rw [hrl]; exact hS.fine.lt) (by omega)
      obtain ⟨m, hm⟩ : ∃ m, m = r.l.length := ⟨_, rfl⟩
      have hm7 : m ≤ 7 := by omega
      have hm1 : 1 ≤ m := by omega
      have hmi : (m : Int) ≤ 7 := by omega
      have hki : (Y.R.length : Int) ≤ 7 := by omega
      have hkn : (n.l.length : Int) ≤ 7 := by omega
      have HM : Hid (m = F.o.l.length ∧ m = r.l.length) := Lib.hid (by omega)
      have HK : Hid (Y.R.length = n.l.length ∧ Y.R.length = F.t.R.length) := Lib.hid (by omega)
      have HB1 := Lib.hid hb1
      have HBW := Lib.hid hbw
      have CO1 := Lib.hid CO
      have HFB : Hid (q = ((List.range Y.R.length).all (fun j => rowOk m (n.l.getD j 0) (Y.con.getD j [])) && (List.range m).all fun a => decide (usedTo Y.con a Y.R.length ≤ (openR r.l s.l).getD a 0))) := Lib.hid (by
        rw [HQ.out]; unfold flowB
        rw [con_lenT, decide_eq_true (by omega : Y.R.length = F.t.R.length), Bool.true_and, ← HM.out.1])
      have HOL : Hid ((openR r.l s.l).length = m) := Lib.hid (by rw [openR_len, hm])
      have HM2 := Lib.hid hm
      clear hS hrl hnl hD CO hm hb1 hbw hsz
      go_wp2_with fail
      refine (show Calls _ _ _ _ _ from CO1.out).mono ?_
      rintro e W2 ⟨g, rfl, hgl, hown2, hb2⟩
      have HB2 : Hid (Below wA.heap.size wA W2) := Lib.hid (HB1.out.trans (hb2.mono HB1.out.size))
      have hgA : wA.heap.size ≤ g := Nat.le_trans HB1.out.size hgl
      have H0 : Hid (W2.ownsRow wA.heap.size 3 1 (.slice (some ⟨g, 0, none⟩) m m) m (iv (midF (-1) (openR r.l s.l) Y.con m 0 0))) := Lib.hid (by
        rw [midF_zero _ _ _ _ HOL.out, HM.out.2]; exact own_lower hown2 HB1.out.size)
      have z5 := (HBX.out.on HB2.out).cell 5 rfl
      rw [← HM.out.2]
      clear hb2 hgl hown2 y0 y1 y2 y3 y4 y5
      go_wp2
      go_loopw [4, 5, 6, 7, 8, 29, 59] (fun _ _ _ _ _ jv _ wr => ∃ k : Nat, k ≤ Y.R.length ∧ jv = .int .i64 k ∧ wr.ownsRow wA.heap.size 3 1 (.slice (some ⟨g, 0, none⟩) m m) m (iv (midF (-1) (openR r.l s.l) Y.con m k 0)) ∧ Below wA.heap.size wA wr ∧ ∀ j, j < k → rowOk m (n.l.getD j 0) (Y.con.getD j []) = true) (fun _ _ _ _ _ jv _ _ => Y.R.length - (intOf jv).toNat)
      case atStart => exact ⟨0, Nat.zero_le _, rfl, H0.out, HB2.out, fun j h => absurd h (Nat.not_lt_zero _)⟩
      case round =>
        obtain ⟨k, hk, rfl, hown, hnx, hall⟩ := hrel
        obtain ⟨V, rfl⟩ : ∃ V, V = wr := ⟨_, rfl⟩
        have HALL := Lib.hid hall
        clear z5 hall
        by_cases hlt : k < Y.R.length
        · have hlti : (k : Int) < (Y.R.length : Int) := by omega
          have hkY : k < Y.R.length := hlt
          have hlni : (k : Int) < (n.l.length : Int) := by have := HK.out.1; omega
          obtain ⟨bt, ot, hta, hbt, hct⟩ := tabAll HYA.out (by omega)
          obtain ⟨row, hrow⟩ : ∃ x, x = Y.R[k] := ⟨_, rfl⟩
          have hrm : row ∈ Y.R := by rw [hrow]; exact List.getElem_mem hkY
          have hcr : V.cell? ⟨bt, ot + k, none⟩ = some (.slice row.a row.l.length row.c) := (hnx.cell (p := ⟨bt, ot + k, none⟩) hbt).trans (by rw [hrow]; exact hct k hkY)
          have HRW := Lib.hid (HYA.out.2 row hrm)
          have hrs : row.l.length ≤ 1048576 := (Tab.Small.rows HYS.out rfl).2.2 row hrm
          have hrwi := row_lim HRW.out
          obtain ⟨bn, on, hna, hbn, hcn⟩ := rowAll HNA.out (by have := HK.out.1; omega)
          obtain ⟨d, hd⟩ : ∃ d, d = n.l.getD k 0 := ⟨_, rfl⟩
          have hdb := HSU.out.need k
          rw [← hd] at hdb
          have hcd : V.cell? ⟨bn, on + k, none⟩ = some (.int .i64 d) := (hnx.cell (p := ⟨bn, on + k, none⟩) hbn).trans (by rw [hd]; exact hcn k (by have := HK.out.1; omega))
          have z3 : V.cell? ⟨w.heap.size, 3, none⟩ = some (.slice (some ⟨bn, on, none⟩) n.l.length n.c) := by have := (HBX.out.on hnx).cell 3 rfl; rw [hna] at this; exact this
          have HCON : Hid (Y.con.getD k [] = row.l) := Lib.hid (by rw [conY_at hkY, hrow])
          have HRO : Hid (rowOk m (n.l.getD k 0) (Y.con.getD k []) = ((decide (row.l.length = m) && row.l.all (upTo d)) && decide (row.l.sum = d))) := Lib.hid (by unfold rowOk; rw [HCON.out, ← hd])
          have HOUT : Hid (rowOk m (n.l.getD k 0) (Y.con.getD k []) = false → q = false) := Lib.hid fun h => by rw [HFB.out, range_out (p := fun j => rowOk m (n.l.getD j 0) (Y.con.getD j [])) hlt h]; rfl
          have HN := Lib.hid hnx
          have HO := Lib.hid hown
          have hdi : d ≤ 5 := hdb.2
          have hBV := hbA.trans (hnx.mono hbA.size)
          have HBV := Lib.hid hBV
          rw [hta]
          clear hta hct hrow hrm hna hcn hnx hown hBV hdb
          by_cases h1 : row.l.length = m
          · have e2 : ((row.l.length : Int) != (m : Int)) = false := by rw [h1]; simp
            obtain ⟨v, hv⟩ : ∃ v, v = row.l.all (upTo d) := ⟨_, rfl⟩
            have cw := allWithinM_any d row V (HRW.out.on HN.out)
            rw [← hv] at cw
            have CW := Lib.hid cw
            have HV := Lib.hid hv
            have H1 := Lib.hid h1
            clear hv cw h1 hd
            go_wp2_with fail
            refine CW.out.mono ?_
            rintro e W3 ⟨rfl, hb3⟩
            have HB3 : Hid (Below wA.heap.size wA W3) := Lib.hid (HN.out.trans (hb3.mono HN.out.size))
            have HO3 := Lib.hid (owns_below HO.out hb3)
            have HBV3 : Hid (Below w.heap.size w W3) := Lib.hid (hbA.trans (HB3.out.mono hbA.size))
            clear hb3 hcr hcd z3
            cases v with
            | false =>
              have HE := Lib.hid (HOUT.out (by rw [HRO.out, ← HV.out]; simp))
              go_wp2
              go_ret
              exact ⟨by rw [HE.out]; rfl, HBV3.out⟩
            | true =>
              have hall2 := HV.out.symm
              have CS := Lib.hid (sumOf_any row W3 (HRW.out.on HB3.out) (fun x hx => by have := upTo_iff.1 (List.all_eq_true.1 hall2 x hx); omega) hrs)
              have HAL := Lib.hid hall2
              clear hall2
              by_cases h2 : row.l.sum = d
              · have e3 : (row.l.sum != d) = false := by rw [h2]; simp
                have HRT : Hid (rowOk m (n.l.getD k 0) (Y.con.getD k []) = true) := Lib.hid (by rw [HRO.out, decide_eq_true H1.out, HAL.out, decide_eq_true h2]; rfl)
                clear h2
                go_wp2_with fail
                refine CS.out.mono ?_
                rintro e W4 ⟨rfl, rfl⟩
                have HK7 : Hid (k ≤ 7) := Lib.hid (by omega)
                go_wp2
                go_loopw [7, 8, 59] (fun _ _ jv wr => ∃ j : Nat, j ≤ row.l.length ∧ jv = .int .i64 j ∧ wr.ownsRow wA.heap.size 3 1 (.slice (some ⟨g, 0, none⟩) m m) m (iv (midF (-1) (openR r.l s.l) Y.con m k j)) ∧ Below wA.heap.size wA wr) (fun _ _ jv _ => row.l.length - (intOf jv).toNat)
                case atStart => exact ⟨0, Nat.zero_le _, rfl, HO3.out, HB3.out⟩
                case round =>
                  obtain ⟨j, hj, rfl, hown, hnx⟩ := hrel
                  by_cases hjt : j < row.l.length
                  · have hjti : (j : Int) < (row.l.length : Int) := by omega
                    have hjm : j < m := by have := H1.out; omega
                    have hjmi : (j : Int) < (m : Int) := by omega
                    obtain ⟨br, or, hra, hbr, hcr⟩ := rowAll HRW.out (by omega)
                    obtain ⟨u, hu⟩ : ∃ u, u = row.l.getD j 0 := ⟨_, rfl⟩
                    have hcu : wr.cell? ⟨br, or + j, none⟩ = some (.int .i64 u) := (hnx.cell (p := ⟨br, or + j, none⟩) hbr).trans (by rw [hu]; exact hcr j hjt)
                    have hxat := midF_at (-1) (openR r.l s.l) Y.con k j hjm
                    obtain ⟨x, hx⟩ : ∃ x, x = (openR r.l s.l).getD j 0 + (-1) * (usedTo Y.con j k + if j < j then cellD Y.con k j else 0) := ⟨_, rfl⟩
                    have hcell : cellD Y.con k j = u := by unfold cellD; rw [HCON.out, hu]
                    have hkb := rowOk_cell HRT.out (HSU.out.need k).1 j
                    have hnb := HSU.out.need k
                    have hxb := midF_bound (c := -1) (r0 := openR r.l s.l) (D := Y.con) (k := k) (j := j) (a := j) (.inr rfl) (openR_bound (S := s.l) HSU.out.rb j) HK7.out (fun i hi => by have h1 := rowOk_cell (HALL.out i hi) (HSU.out.need i).1 j; have h2 := HSU.out.need i; omega) (by omega)
                    rw [hcell] at hkb
                    rw [← hx] at hxb
                    have hcs : wr.cell? ⟨g, j, none⟩ = some (.int .i64 x) := (hown.cellAt j (by omega)).trans (by rw [iv_at (by rw [midF_len]; exact hjm), hxat, ← hx])
                    have hf := hown.frozenAt j
                    have e4 : IntKind.i64.wrap (x - u) = x - u := IntWalk.i64_in _ (by omega)
                    have hst := hown.stored j (.int .i64 (x - u))
                    have hset : (iv (midF (-1) (openR r.l s.l) Y.con m k j)).set j (.int .i64 (x - u)) = iv (midF (-1) (openR r.l s.l) Y.con m k (j + 1)) := by
                      rw [← midF_set (-1) (openR r.l s.l) Y.con m k j (x - u) (by rw [hcell, hx, if_neg (Nat.lt_irrefl j)]; omega)]; unfold iv; rw [List.map_set]
                    rw [hset] at hst
                    have R1 := Lib.hid hst.1
                    have R2 := Lib.hid (hnx.setCell (p := ⟨g, j, none⟩) hgA (.int .i64 (x - u)))
                    rw [hra]
                    clear hra hcr hu hxat hx hcell hkb hnb hxb hst hset hown hnx
                    go_wp2
                    go_roundw
                    case rel => exact ⟨j + 1, by omega, by go_num, R1.out, R2.out⟩
                    case measure => simp [intOf]; omega
                  · obtain rfl : j = row.l.length := by omega
                    have HS : Hid (∀ i, i < k + 1 → rowOk m (n.l.getD i 0) (Y.con.getD i []) = true) := Lib.hid fun i hi => by
                      by_cases e : i = k
                      · subst e; exact HRT.out
                      · exact HALL.out i (by omega)
                    have HOW : Hid (wr.ownsRow wA.heap.size 3 1 (.slice (some ⟨g, 0, none⟩) m m) m (iv (midF (-1) (openR r.l s.l) Y.con m (k + 1) 0))) := Lib.hid (by rw [← midF_next, ← H1.out]; rw [H1.out] at hown ⊢; exact hown)
                    go_wp2
                    go_roundw
                    case rel => exact ⟨k + 1, by omega, by go_num, HOW.out, hnx, HS.out⟩
                    case measure => simp [intOf]; omega
              · have e3 : (row.l.sum != d) = true := by simp [h2]
                have HE := Lib.hid (HOUT.out (by rw [HRO.out, decide_eq_false h2]; simp))
                clear h2
                go_wp2_with fail
                refine CS.out.mono ?_
                rintro e W4 ⟨rfl, rfl⟩
                go_wp2
                go_ret
                exact ⟨by rw [HE.out]; rfl, HBV3.out⟩
          · have e2 : ((row.l.length : Int) != (m : Int)) = true := by simp; omega
            have HE := Lib.hid (HOUT.out (by rw [HRO.out, decide_eq_false h1]; rfl))
            clear h1 hd
            go_wp2
            go_ret
            exact ⟨by rw [HE.out]; rfl, HBV.out⟩
        · obtain rfl : k = Y.R.length := by omega
          obtain ⟨mn, hmn⟩ : ∃ mn, mn = Lib.minOf (midF (-1) (openR r.l s.l) Y.con m Y.R.length 0) := ⟨_, rfl⟩
          have HQE : Hid (q = decide (0 ≤ mn)) := Lib.hid (by
            have hl := left_all (openR r.l s.l) Y.con m
            rw [con_lenT] at hl
            rw [hmn, min_all (by rw [midF_len]; exact hm1), HFB.out, hl, range_all (p := fun j => rowOk m (n.l.getD j 0) (Y.con.getD j [])) HALL.out, Bool.true_and])
          have CM := Lib.hid (by
            have := Try.slices_Min_int g 0 m m (midF (-1) (openR r.l s.l) Y.con m Y.R.length 0) V (by omega) (by rw [midF_len]; exact Nat.le_refl _) (by omega) (fun j hj => by
              rw [midF_len] at hj
              rw [Nat.zero_add, getD_at (by rw [midF_len]; exact hj)]
              exact (hown.cellAt j (by omega)).trans (iv_at (by rw [midF_len]; exact hj)))
            rw [List.take_of_length_le (by rw [midF_len]; exact Nat.le_refl _), ← hmn] at this; exact this : Calls Try.prog 68 #[.slice (some ⟨g, 0, none⟩) m m] V fun e w' => e = .returned (.int .i64 mn) ∧ w' = V)
          have HBV : Hid (Below w.heap.size w V) := Lib.hid (hbA.trans (hnx.mono hbA.size))
          clear hmn hown hnx
          go_wp2_with fail
          refine (show Calls _ _ _ V _ from CM.out).mono ?_
          rintro e W5 ⟨rfl, rfl⟩
          go_wp2
          go_ret
          exact ⟨by rw [HQE.out]; rfl, HBV.out⟩
    · have e1 : ((Y.R.length : Int) != (n.l.length : Int)) = true := by simp; omega
      have HE : Hid (q = false) := Lib.hid (by rw [HQ.out]; unfold flowB; rw [con_lenT, decide_eq_false (by omega)]; rfl)
      clear hD
      go_wp2
      go_ret
      exact ⟨by rw [HE.out]; rfl, hbw⟩
end Go.Proofs.Ytehmjmknegnojaa
