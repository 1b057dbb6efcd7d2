/- The contract of the test whether lists are a flow, on the model's side. Condition: a valid supply; the lists read as such. -/
import Derived.Test.YtehmjmknegnojaaFlowSpec
namespace Go.Proofs.Ytehmjmknegnojaa
open Go.RowKit

set_option maxRecDepth 16000 in
set_option maxHeartbeats 2000000 in
theorem l7Flow_any (F : Fld) (r n s : Row) (Y : Tab) (T : List Nat) (w : World) (hF : F.At w) (hr : r.At w) (hn : n.At w) (hs : s.At w) (hY : Y.At w) (hYs : Y.Small) (hS : Supplied F r.l n.l s T) :
    Calls Try.prog 44 #[F.val, .slice r.a r.l.length r.c, .slice n.a n.l.length n.c, .slice s.a s.l.length s.c, .slice Y.a Y.R.length Y.c] w fun e w' => e = .returned (.bool (flowS F r.l n.l s.l Y.con)) ∧ Below w.heap.size w w' := by
  obtain ⟨wA, hA, hbA, bx, hFA, hszA⟩ := laid_fld F w 29 hF
  have hsz := good_sizes hS.fine.good
  have hyi := tab_lim hY
  have hfi := tab_lim hF.2
  obtain ⟨q, hq⟩ : ∃ q, q = flowS F r.l n.l s.l Y.con := ⟨_, rfl⟩
  have HQ := Lib.hid hq
  rw [← hq]
  have x0 : wA.cell? ⟨w.heap.size, 0, none⟩ = some (.slice F.o.a F.o.l.length F.o.c) := bx.c0
  have x1 : wA.cell? ⟨w.heap.size, 1, none⟩ = some (.slice F.t.a F.t.R.length F.t.c) := bx.c1
  rw [hA] at x0 x1
  change (w.alloc (Obj.cells #[.slice F.o.a F.o.l.length F.o.c, .slice F.t.a F.t.R.length F.t.c] 29)).cell? _ = _ at x0 x1
  by_cases hD : Y.R.length = F.t.R.length
  · have e1 : ((Y.R.length : Int) != (F.t.R.length : Int)) = false := by rw [hD]; simp
    obtain ⟨m, hm⟩ : ∃ m, m = F.o.l.length := ⟨_, rfl⟩
    have hm7 : m ≤ 7 := by omega
    have hm1 : 1 ≤ m := by omega
    have hmi : (m : Int) ≤ 7 := by omega
    have hki : (Y.R.length : Int) ≤ 7 := by omega
    have HFL : Hid (q = ((List.range Y.R.length).all (fun j => rowS m (n.l.getD j 0) s.l (Y.con.getD j [])) && (List.range m).all fun a => decide (usedTo Y.con a Y.R.length ≤ r.l.getD a 0))) := Lib.hid (by
      rw [HQ.out]; unfold flowS
      rw [con_lenT, decide_eq_true hD, Bool.true_and, ← hm])
    obtain ⟨wB, hB⟩ : ∃ wB, wB = wA.alloc (.cells (madeCells #[.int .i64 0] m) 3) := ⟨_, rfl⟩
    have hbB : Below wA.heap.size wA wB := by rw [hB]; exact below_alloc wA _
    have hgA : wA.heap.size ≤ w.heap.size + 1 := by omega
    have H0 : Hid (wB.ownsRow wA.heap.size 3 1 (.slice (some ⟨w.heap.size + 1, 0, none⟩) m m) m (iv (midF 1 (List.replicate m 0) Y.con m 0 0))) := Lib.hid (by
      have := own_madeF wA wA.heap.size m 3 (Nat.le_refl _) (by unfold maxLen; omega)
      rw [hszA] at this ⊢
      rw [hB, midF_zero _ _ _ _ (List.length_replicate ..)]; exact this)
    have HC : Hid (∀ k (h : k < Y.R.length), ∃ bt ot bn on, Y.a = some ⟨bt, ot, none⟩ ∧ n.a = some ⟨bn, on, none⟩ ∧ bt < wA.heap.size ∧ bn < wA.heap.size ∧ wA.cell? ⟨bt, ot + k, none⟩ = some (.slice Y.R[k].a Y.R[k].l.length Y.R[k].c) ∧ wA.cell? ⟨bn, on + k, none⟩ = some (.int .i64 (n.l.getD k 0)) ∧ Y.R[k].At wA ∧ Y.R[k].l.length ≤ 1048576 ∧ k < n.l.length) := Lib.hid fun k h => by
      obtain ⟨bt, ot, hta, hbt, hct⟩ := tabAll (hY.on hbA) (by omega)
      obtain ⟨bn, on, hna, hbn, hcn⟩ := rowAll (hn.on hbA) (by have := hS.nl; omega)
      have hkn : k < n.l.length := by have := hS.nl; omega
      exact ⟨bt, ot, bn, on, hta, hna, hbt, hbn, hct k h, hcn k hkn, (hY.on hbA).2 _ (List.getElem_mem h), (Tab.Small.rows hYs rfl).2.2 _ (List.getElem_mem h), hkn⟩
    have HRC : Hid (∃ b o, r.a = some ⟨b, o, none⟩ ∧ b < wA.heap.size ∧ r.l.length = m ∧ ∀ a, a < m → wA.cell? ⟨b, o + a, none⟩ = some (.int .i64 (r.l.getD a 0))) := Lib.hid (by
      have hrl := hS.rl
      obtain ⟨b, o, h1, h2, h3⟩ := rowAll (hr.on hbA) (by omega)
      exact ⟨b, o, h1, h2, by omega, fun a ha => h3 a (by omega)⟩)
    have HBX := Lib.hid bx
    have HA := Lib.hid hA
    have HB := Lib.hid hB
    have HBB := Lib.hid hbB
    have HSA := Lib.hid (hs.on hbA)
    have HSU := Lib.hid hS
    have HM := Lib.hid hm
    have HHD := Lib.hid hD
    have hni := row_lim hn
    have hri := row_lim hr
    have hmk := run_make_row' (P := Try.prog) 22 3 (.int .i64 0) 8 Try.underlying22 infoInt rfl .i64 .i64 m (by omega) (by omega)
    rw [← hm] at x0
    clear hF hr hn hs hY hYs hS hA bx hFA hB hbB hsz hq hD hm
    show Calls _ _ #[.agg #[.slice F.o.a F.o.l.length F.o.c, .slice F.t.a F.t.R.length F.t.c], _, _, _, _] w _
    rw [← HM.out] at x1 ⊢
    go_enter Try.func44, Try.ntmps44
    go_wp2
    go_loopw [12, 13] (fun jv _ wr => ∃ k : Nat, k ≤ Y.R.length ∧ jv = .int .i64 k ∧ wr.ownsRow wA.heap.size 3 1 (.slice (some ⟨w.heap.size + 1, 0, none⟩) m m) m (iv (midF 1 (List.replicate m 0) Y.con m k 0)) ∧ Below wA.heap.size wA wr ∧ ∀ j, j < k → rowS m (n.l.getD j 0) s.l (Y.con.getD j []) = true) (fun jv _ _ => Y.R.length - (intOf jv).toNat)
    case atStart =>
      have h0 := H0.out
      have h1 := HBB.out
      have e := HB.out
      rw [HA.out, show Obj.cells #[F.o.val, F.t.val] 29 = Obj.cells #[.slice F.o.a F.o.l.length F.o.c, .slice F.t.a F.t.R.length F.t.c] 29 from rfl, ← HM.out] at e
      rw [e] at h0 h1
      exact ⟨0, Nat.zero_le _, rfl, h0, h1, fun j h => absurd h (Nat.not_lt_zero _)⟩
    case round =>
      obtain ⟨k, hk, rfl, hown, hnx, hall⟩ := hrel
      obtain ⟨V, rfl⟩ : ∃ V, V = wr := ⟨_, rfl⟩
      have HALL := Lib.hid hall
      have HN := Lib.hid hnx
      have HO := Lib.hid hown
      clear x0 x1 hall hmk
      by_cases hlt : k < Y.R.length
      · have hlti : (k : Int) < (Y.R.length : Int) := by omega
        obtain ⟨bt, ot, bn, on, hta, hna, hbt, hbn, hct', hcn', hya, hys, hkn⟩ := HC.out k hlt
        have hkni : (k : Int) < (n.l.length : Int) := by omega
        obtain ⟨row, hrow⟩ : ∃ x, x = Y.R[k] := ⟨_, rfl⟩
        rw [← hrow] at hct' hya hys
        obtain ⟨d, hd⟩ : ∃ d, d = n.l.getD k 0 := ⟨_, rfl⟩
        have hdb := HSU.out.need k
        rw [← hd] at hdb hcn'
        have hct : V.cell? ⟨bt, ot + k, none⟩ = some (.slice row.a row.l.length row.c) := (hnx.cell (p := ⟨bt, ot + k, none⟩) hbt).trans hct'
        have hcn : V.cell? ⟨bn, on + k, none⟩ = some (.int .i64 d) := (hnx.cell (p := ⟨bn, on + k, none⟩) hbn).trans hcn'
        have z0 : V.cell? ⟨w.heap.size, 0, none⟩ = some (.slice F.o.a m F.o.c) := by rw [HM.out]; exact (HBX.out.on hnx).c0
        have HCON : Hid (Y.con.getD k [] = row.l) := Lib.hid (by rw [conY_at hlt, hrow])
        have HYA := Lib.hid hya
        obtain ⟨v, hv⟩ : ∃ v, v = rowS m d s.l row.l := ⟨_, rfl⟩
        have HRO : Hid (rowS m (n.l.getD k 0) s.l (Y.con.getD k []) = v) := Lib.hid (by rw [HCON.out, ← hd, hv])
        have HV := Lib.hid hv
        have CR := Lib.hid (fun x => by have := l7Row_any row s m d (V.drewN x) ((hya.on hnx).on (below_draws V x)) ((HSA.out.on hnx).on (below_draws V x)) hm7 hdb.2 hys; rw [← hv] at this; exact this : ∀ x, Calls Try.prog 65 #[.slice row.a row.l.length row.c, .int .i64 m, .int .i64 d, .slice s.a s.l.length s.c] (V.drewN x) fun e w' => e = .returned (.bool v) ∧ w' = V.drewN x)
        have HOUT : Hid (v = false → q = false) := Lib.hid fun h => by rw [HFL.out, range_out (p := fun j => rowS m (n.l.getD j 0) s.l (Y.con.getD j [])) hlt (by rw [← h]; exact HRO.out)]; rfl
        have hrwi := row_lim hya
        rw [hta, hna]
        have HTA := Lib.hid hta
        have HCT := Lib.hid hct
        clear hta hna hct' hcn' hrow hd hv hya hnx hown
        go_wp2
        go_quiet ((go_at_call 65; exact Calls.quiet_of_same (CR.out _)))
        have HDN : Hid (Below wA.heap.size wA (V.drewN nq)) := Lib.hid (HN.out.trans ((below_draws V nq).mono HN.out.size))
        have HDO := Lib.hid (owns_below HO.out (below_draws V nq))
        cases v with
        | false =>
          have HE := Lib.hid (HOUT.out rfl)
          clear hct hcn z0
          go_wp2
          go_ret
          exact ⟨by rw [HE.out]; rfl, hbA.trans (HDN.out.mono hbA.size)⟩
        | true =>
          have hrm := rowS_iff.1 HV.out.symm
          have hrl : row.l.length = m := by
            have := hrm.1; unfold rowOk at this; simp only [Bool.and_eq_true, decide_eq_true_eq] at this; exact this.1.1
          have HRM := Lib.hid hrm.1
          have HRL := Lib.hid hrl
          obtain ⟨br, or, hra, hbr, hcr⟩ := rowAll HYA.out (by omega)
          have HRA := Lib.hid hra
          have HCR := Lib.hid hcr
          have HK7 : Hid (k ≤ 7) := Lib.hid (by omega)
          clear hct hcn z0 hrm hrl hra hcr
          go_wp2
          go_loopw [13] (fun jv wr => ∃ j : Nat, j ≤ m ∧ jv = .int .i64 j ∧ wr.ownsRow wA.heap.size 3 1 (.slice (some ⟨w.heap.size + 1, 0, none⟩) m m) m (iv (midF 1 (List.replicate m 0) Y.con m k j)) ∧ Below wA.heap.size wA wr) (fun jv _ => m - (intOf jv).toNat)
          case atStart => exact ⟨0, Nat.zero_le _, rfl, HDO.out, HDN.out⟩
          case round =>
            obtain ⟨j, hj, rfl, hown, hnx⟩ := hrel
            by_cases hjm : j < m
            · have hjmi : (j : Int) < (m : Int) := by omega
              have hjr : j < row.l.length := by have := HRL.out; omega
              have hjri : (j : Int) < (row.l.length : Int) := by omega
              obtain ⟨u, hu⟩ : ∃ u, u = row.l.getD j 0 := ⟨_, rfl⟩
              have hcu : wr.cell? ⟨br, or + j, none⟩ = some (.int .i64 u) := (hnx.cell (p := ⟨br, or + j, none⟩) hbr).trans (by rw [hu]; exact HCR.out j hjr)
              have hct : wr.cell? ⟨bt, ot + k, none⟩ = some (.slice (some ⟨br, or, none⟩) row.l.length row.c) := (hnx.cell (p := ⟨bt, ot + k, none⟩) hbt).trans ((HN.out.cell (p := ⟨bt, ot + k, none⟩) hbt).symm.trans (by rw [← HRA.out]; exact HCT.out))
              have hxat := midF_at 1 (List.replicate m 0) Y.con k j hjm
              obtain ⟨x, hx⟩ : ∃ x, x = (List.replicate m (0 : Int)).getD j 0 + 1 * (usedTo Y.con j k + if j < j then cellD Y.con k j else 0) := ⟨_, rfl⟩
              have hcell : cellD Y.con k j = u := by unfold cellD; rw [HCON.out, hu]
              have hro : ∀ i, i < k → rowOk m (n.l.getD i 0) (Y.con.getD i []) = true := fun i hi => (rowS_iff.1 (HALL.out i hi)).1
              have hkb := rowOk_cell (D := Y.con) (j := k) (by rw [HCON.out]; exact HRM.out) hdb.1 j
              have hxb := midF_bound (c := 1) (r0 := List.replicate m 0) (D := Y.con) (k := k) (j := j) (a := j) (.inl rfl) (by rw [rep_getD]; omega) HK7.out (fun i hi => by have h1 := rowOk_cell (hro i hi) (HSU.out.need i).1 j; have h2 := HSU.out.need i; omega) (by omega)
              rw [hcell] at hkb
              rw [← hx] at hxb
              have hcs : wr.cell? ⟨w.heap.size + 1, j, none⟩ = some (.int .i64 x) := (hown.cellAt j (by omega)).trans (by rw [iv_at (by rw [midF_len]; exact hjm), hxat, ← hx])
              have hf := hown.frozenAt j
              have e4 : IntKind.i64.wrap (x + u) = x + u := IntWalk.i64_in _ (by omega)
              have hst := hown.stored j (.int .i64 (x + u))
              have hset : (iv (midF 1 (List.replicate m 0) Y.con m k j)).set j (.int .i64 (x + u)) = iv (midF 1 (List.replicate m 0) Y.con m k (j + 1)) := by
                rw [← midF_set 1 (List.replicate m 0) Y.con m k j (x + u) (by rw [hcell, hx, if_neg (Nat.lt_irrefl j)]; omega)]; unfold iv; rw [List.map_set]
              rw [hset] at hst
              have R1 := Lib.hid hst.1
              have R2 := Lib.hid (hnx.setCell (p := ⟨w.heap.size + 1, j, none⟩) hgA (.int .i64 (x + u)))
              rw [← HTA.out]
              rw [HTA.out]
              clear hu hxat hx hcell hro hkb hxb hst hset hown hnx
              go_wp2
              go_region
              have Q1 := R1.out.drew
              have Q2 := R2.out.drew
              clear hcs hf hcu hct
              go_wp2
              go_roundw
              case rel => exact ⟨j + 1, by omega, by go_num, Q1, Q2⟩
              case measure => simp [intOf]; omega
            · obtain rfl : j = m := by omega
              have HS : Hid (∀ i, i < k + 1 → rowS j (n.l.getD i 0) s.l (Y.con.getD i []) = true) := Lib.hid fun i hi => by
                by_cases e : i = k
                · subst e; exact HRO.out
                · exact HALL.out i (by omega)
              rw [midF_next] at hown
              go_wp2
              go_roundw
              case rel => exact ⟨k + 1, by omega, by go_num, hown, hnx, HS.out⟩
              case measure => simp [intOf]; omega
      · obtain rfl : k = Y.R.length := by omega
        have HFM : Hid (q = (List.range m).all fun a => decide (usedTo Y.con a Y.R.length ≤ r.l.getD a 0)) := Lib.hid (by rw [HFL.out, range_all (p := fun j => rowS m (n.l.getD j 0) s.l (Y.con.getD j [])) HALL.out, Bool.true_and])
        have HBV : Hid (Below w.heap.size w V) := Lib.hid (hbA.trans (hnx.mono hbA.size))
        obtain ⟨b, o, hra, hbr, hrl, hcr⟩ := HRC.out
        have HCR := Lib.hid hcr
        have hro : ∀ i, i < Y.R.length → rowOk m (n.l.getD i 0) (Y.con.getD i []) = true := fun i hi => (rowS_iff.1 (HALL.out i hi)).1
        have HUS : Hid (∀ a, a < m → V.cell? ⟨w.heap.size + 1, a, none⟩ = some (.int .i64 (usedTo Y.con a Y.R.length))) := Lib.hid fun a ha => by
          refine (HO.out.cellAt a (by omega)).trans ?_
          rw [iv_at (by rw [midF_len]; exact ha), midF_at 1 (List.replicate m 0) Y.con Y.R.length 0 ha, rep_getD, if_neg (Nat.not_lt_zero a)]
          congr 2; omega
        rw [hra, hrl]
        clear hra hrl hcr hro hown hnx
        go_wp2
        go_loopw [14] (fun jv wi => ∃ a : Nat, a ≤ m ∧ jv = .int .i64 a ∧ DrewTo V wi ∧ ∀ i, i < a → usedTo Y.con i Y.R.length ≤ r.l.getD i 0) (fun jv _ => m - (intOf jv).toNat)
        case atStart => exact ⟨0, Nat.zero_le _, rfl, DrewTo.refl _, fun i h => absurd h (Nat.not_lt_zero _)⟩
        case round =>
          obtain ⟨a, ha, rfl, hdw, hup⟩ := hrel
          have HUP := Lib.hid hup
          clear hup
          by_cases ham : a < m
          · have hami : (a : Int) < (m : Int) := by omega
            obtain ⟨x, hx⟩ : ∃ x, x = usedTo Y.con a Y.R.length := ⟨_, rfl⟩
            obtain ⟨y, hy⟩ : ∃ y, y = r.l.getD a 0 := ⟨_, rfl⟩
            have c1 : wr.cell? ⟨w.heap.size + 1, a, none⟩ = some (.int .i64 x) := by rw [hdw.cell, hx]; exact HUS.out a ham
            have c2 : wr.cell? ⟨b, o + a, none⟩ = some (.int .i64 y) := by rw [hdw.cell, hy]; exact (HN.out.cell (p := ⟨b, o + a, none⟩) hbr).trans (HCR.out a ham)
            have HX := Lib.hid hx
            have HY := Lib.hid hy
            clear hx hy
            by_cases hc : y < x
            · have HE : Hid (q = false) := Lib.hid (by rw [HFM.out]; exact range_out ham (by simp; rw [← HX.out]; have := HY.out; simpa [this] using hc))
              go_wp2
              go_quiet (fail)
              go_wp2
              go_ret
              exact ⟨by rw [HE.out]; rfl, HBV.out.trans (((hdw.more nq).below).mono HBV.out.size)⟩
            · have HS : Hid (∀ i, i < a + 1 → usedTo Y.con i Y.R.length ≤ r.l.getD i 0) := Lib.hid fun i hi => by
                by_cases e : i = a
                · subst e; rw [← HX.out, ← HY.out]; omega
                · exact HUP.out i (by omega)
              go_wp2
              go_quiet (fail)
              go_wp2
              go_roundw
              case rel => exact ⟨a + 1, by omega, by go_num, hdw.more _, HS.out⟩
              case measure => simp [intOf]; omega
          · obtain rfl : a = m := by omega
            have HE : Hid (q = true) := Lib.hid (by rw [HFM.out]; exact range_all fun i hi => by simpa using HUP.out i hi)
            go_wp2
            go_ret
            exact ⟨by rw [HE.out]; rfl, HBV.out.trans (hdw.below.mono HBV.out.size)⟩
  · have e1 : ((Y.R.length : Int) != (F.t.R.length : Int)) = true := by simp; omega
    have HE : Hid (q = false) := Lib.hid (by rw [HQ.out]; unfold flowS; rw [con_lenT, decide_eq_false hD]; rfl)
    clear hD hF hr hn hs hY hYs hS hA bx hFA hsz hq
    show Calls _ _ #[.agg #[.slice F.o.a F.o.l.length F.o.c, .slice F.t.a F.t.R.length F.t.c], _, _, _, _] w _
    go_enter Try.func44, Try.ntmps44
    go_wp2
    go_ret
    exact ⟨by rw [HE.out]; rfl, below_alloc _ _⟩
end Go.Proofs.Ytehmjmknegnojaa
