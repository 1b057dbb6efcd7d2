/- The contracts of IsFlow and FlowCost on the program's side. Condition: the arguments read as such. -/
import Derived.Test.YtehmjmknegnojaaFlowValid
namespace Go.Proofs.Ytehmjmknegnojaa
open Go.RowKit

/-- The cost of the first rows of a flow. -/
def costTo (D E : List (List Int)) (k : Nat) : Int := ((List.range k).map fun j => dotTo (D.getD j []) (E.getD j []) (D.getD j []).length).sum
theorem cost_zero (D E : List (List Int)) : costTo D E 0 = 0 := by simp [costTo]
theorem cost_step (D E : List (List Int)) (k : Nat) : costTo D E (k + 1) = costTo D E k + dotTo (D.getD k []) (E.getD k []) (D.getD k []).length := by unfold costTo; rw [List.range_succ, List.map_append, List.sum_append]; simp
def costV (D E : List (List Int)) : Int := costTo D E D.length
/-- What a flow is, where it is one. -/
structure Flowed (F : Fld) (D : List (List Int)) : Prop where
  good : F.good = true
  len : D.length = F.t.R.length
  row : ∀ j, j < D.length → (D.getD j []).length = F.o.l.length ∧ Dots (D.getD j []) (F.t.con.getD j []) ∧ (F.t.con.getD j []).length = F.o.l.length
theorem flowed_of {F : Fld} {r n : List Int} {s : Row} {D : List (List Int)} (h : givenB F r n s = true) (h2 : flowB F r n s.l D = true) : Flowed F D := by
  obtain ⟨T, hS⟩ := supplied h
  unfold flowB at h2
  simp only [Bool.and_eq_true, decide_eq_true_eq, List.all_eq_true, List.mem_range] at h2
  obtain ⟨⟨h3, h4⟩, _⟩ := h2
  refine ⟨hS.fine.good, h3, fun j hj => ?_⟩
  have h5 := h4 j hj
  unfold rowOk at h5
  simp only [Bool.and_eq_true, decide_eq_true_eq] at h5
  have hjR : j < F.t.R.length := by omega
  have hg := good_row hS.fine.good (List.getElem_mem hjR)
  have hn := hS.need j
  refine ⟨h5.1.1, ⟨fun x hx => ?_, fun y hy => ?_⟩, by rw [con_getD hjR]; exact hg.1⟩
  · have := upTo_iff.1 (List.all_eq_true.1 h5.1.2 x hx); omega
  · rw [con_getD hjR] at hy; have := hg.2 y hy; omega
theorem Flowed.cost {F : Fld} {D : List (List Int)} (h : Flowed F D) : ∀ k, k ≤ D.length → -139860 * (k : Int) ≤ costTo D F.t.con k ∧ costTo D F.t.con k ≤ 139860 * (k : Int)
  | 0, _ => by rw [cost_zero]; simp
  | k + 1, hk => by
    have h1 := h.cost k (by omega)
    obtain ⟨h2, h3, _⟩ := h.row k (by omega)
    have h4 := h3.sum (D.getD k []).length
    have h5 := good_sizes h.good
    rw [cost_step]; omega

set_option maxRecDepth 16000 in
set_option maxHeartbeats 1500000 in
theorem flowValue_any (F : Fld) (r n s : Row) (Y : Tab) (w : World) (hF : F.At w) (hY : Y.At w) (h : Flowed F Y.con) :
    Calls Try.prog 113 #[.agg #[.slice F.o.a F.o.l.length F.o.c, .slice F.t.a F.t.R.length F.t.c, .slice r.a r.l.length r.c, .slice n.a n.l.length n.c, .slice s.a s.l.length s.c, .slice Y.a Y.R.length Y.c]] w fun e w' => e = .returned (.int .i64 (costV Y.con F.t.con)) ∧ Below w.heap.size w w' := by
  obtain ⟨wA, hA, hbA, bx, hszA⟩ := laid_box #[.slice F.o.a F.o.l.length F.o.c, .slice F.t.a F.t.R.length F.t.c, .slice r.a r.l.length r.c, .slice n.a n.l.length n.c, .slice s.a s.l.length s.c, .slice Y.a Y.R.length Y.c] w 62
  have hsz := good_sizes h.good
  have hlen := h.len
  rw [con_lenT] at hlen
  have hyi : (Y.R.length : Int) ≤ 7 := by omega
  have hri : (F.t.R.length : Int) ≤ 7 := by omega
  have HC : Hid (∀ k (h : k < Y.R.length) (h' : k < F.t.R.length), ∃ bt ot bf of, Y.a = some ⟨bt, ot, none⟩ ∧ F.t.a = some ⟨bf, of, none⟩ ∧ wA.cell? ⟨bt, ot + k, none⟩ = some (.slice Y.R[k].a Y.R[k].l.length Y.R[k].c) ∧ wA.cell? ⟨bf, of + k, none⟩ = some (.slice F.t.R[k].a F.t.R[k].l.length F.t.R[k].c) ∧ Y.R[k].At wA ∧ F.t.R[k].At wA) := Lib.hid fun k h h' => by
    obtain ⟨bt, ot, hta, _, hct⟩ := tabAll (hY.on hbA) (by omega)
    obtain ⟨bf, of, hfa, _, hcf⟩ := tabAll (hF.on hbA).2 (by omega)
    exact ⟨bt, ot, bf, of, hta, hfa, hct k h, hcf k h', (hY.on hbA).2 _ (List.getElem_mem h), (hF.on hbA).2.2 _ (List.getElem_mem h')⟩
  have c1 := bx.cell 1 rfl
  have c5 := bx.cell 5 rfl
  have HX1 := Lib.hid c1
  rw [hA] at c5
  have HFL := Lib.hid h
  have HLN := Lib.hid hlen
  have HA := Lib.hid hA
  clear hF hY h hA bx hsz hlen c1
  go_enter Try.func113, Try.ntmps113
  go_wp2
  go_loopw [3, 4, 5, 9] (fun sv _ _ jv wr => ∃ k : Nat, k ≤ Y.R.length ∧ jv = .int .i64 k ∧ sv = .int .i64 (costTo Y.con F.t.con k) ∧ wr = wA) (fun _ _ _ jv _ => Y.R.length - (intOf jv).toNat)
  case atStart => exact ⟨0, Nat.zero_le _, rfl, by rw [cost_zero], HA.out.symm⟩
  case round =>
    obtain ⟨k, hk, rfl, rfl, hwr⟩ := hrel
    subst hwr
    clear c5
    by_cases hlt : k < Y.R.length
    · have hlti : (k : Int) < (Y.R.length : Int) := by omega
      have hltR : k < F.t.R.length := by have := HLN.out; omega
      have hltRi : (k : Int) < (F.t.R.length : Int) := by omega
      obtain ⟨bt, ot, bf, of, hta, hfa, hct, hcf, hya, hfa2⟩ := HC.out k hlt hltR
      obtain ⟨y, hy⟩ : ∃ x, x = Y.R[k] := ⟨_, rfl⟩
      obtain ⟨f, hf⟩ : ∃ x, x = F.t.R[k] := ⟨_, rfl⟩
      rw [← hy] at hct hya
      rw [← hf] at hcf hfa2
      obtain ⟨h1, h2, h3⟩ := HFL.out.row k (by rw [con_lenT]; exact hlt)
      have hb := HFL.out.cost k (by rw [con_lenT]; omega)
      have hst := cost_step Y.con F.t.con k
      rw [conY_at hlt, ← hy] at h1 h2 hst
      rw [con_getD hltR, ← hf] at h2 h3 hst
      have hsz := good_sizes HFL.out.good
      have cs := sumProd_any y f wr hya hfa2 (by omega) (by omega) h2
      have hd := h2.sum y.l.length
      obtain ⟨z, hz⟩ : ∃ z, z = dotTo y.l f.l y.l.length := ⟨_, rfl⟩
      obtain ⟨c, hc⟩ : ∃ c, c = costTo Y.con F.t.con k := ⟨_, rfl⟩
      rw [← hz] at cs hst hd
      rw [← hc] at hst hb ⊢
      have HST := Lib.hid hst
      have CS := Lib.hid cs
      have e1 : IntKind.i64.wrap (c + z) = c + z := IntWalk.i64_in _ (by omega)
      have z1 := HX1.out
      rw [hfa] at z1
      rw [hta]
      clear hta hfa hya hfa2 hy hf h1 h2 h3 hst cs hz hc hsz
      go_wp2_with fail
      refine (show Calls _ _ _ wr _ from CS.out).mono ?_
      rintro e W ⟨rfl, rfl⟩
      go_wp2
      go_roundw
      case rel => exact ⟨k + 1, by omega, by go_num, by rw [HST.out], by first | rfl | trivial⟩
      case measure => simp [intOf]; omega
    · obtain rfl : k = Y.R.length := by omega
      have HE : Hid (costV Y.con F.t.con = costTo Y.con F.t.con Y.R.length) := Lib.hid (by unfold costV; rw [con_lenT])
      go_wp2
      go_ret
      exact ⟨by rw [HE.out]; rfl, hbA⟩

set_option maxRecDepth 16000 in
set_option maxHeartbeats 1000000 in
theorem valueOfD_any (F : Fld) (r n s : Row) (Y : Tab) (w : World) (hF : F.At w) (hr : r.At w) (hn : n.At w) (hs : s.At w) (hY : Y.At w) (hYs : Y.Small) (b : Bool) (v : Int) (hb : b = (givenB F r.l n.l s && flowB F r.l n.l s.l Y.con)) (hv : v = if b then costV Y.con F.t.con else 0) :
    Calls Try.prog 48 #[.iface 62 (.agg #[.slice F.o.a F.o.l.length F.o.c, .slice F.t.a F.t.R.length F.t.c, .slice r.a r.l.length r.c, .slice n.a n.l.length n.c, .slice s.a s.l.length s.c, .slice Y.a Y.R.length Y.c])] w (PInt v b w) := by
  have HV := Lib.hid hv
  have cv := flowValid_any F r n s Y w hF hr hn hs hY hYs
  rw [← hb] at cv
  have CV := Lib.hid cv
  have CP := Lib.hid (fun W (hW : Below w.heap.size w W) (h : b = true) => by
    have h2 := hb.symm.trans h
    rw [Bool.and_eq_true] at h2
    exact flowValue_any F r n s Y W (hF.on hW) (hY.on hW) (flowed_of h2.1 h2.2))
  clear hF hr hn hs hY cv hb hv hYs
  unfold PInt
  go_enter Try.func48, Try.ntmps48
  go_wp2_with fail
  refine (show Calls _ _ _ _ _ from CV.out).mono ?_
  rintro e W1 ⟨rfl, hb1⟩
  cases b with
  | false =>
    go_wp2
    go_ret2
    exact ⟨by rw [HV.out]; rfl, hb1⟩
  | true =>
    have CP1 := Lib.hid (CP.out W1 hb1 (by first | rfl | trivial))
    have HB1 := Lib.hid hb1
    clear hb1
    go_wp2_with fail
    refine (show Calls _ _ _ _ _ from CP1.out).mono ?_
    rintro e W2 ⟨rfl, hb2⟩
    go_wp2
    go_ret2
    exact ⟨by rw [HV.out]; rfl, HB1.out.trans (hb2.mono HB1.out.size)⟩

set_option maxRecDepth 16000 in
set_option maxHeartbeats 1000000 in
theorem implFlowCost_any (F : Fld) (r n s : Row) (Y : Tab) (w : World) (hF : F.At w) (hr : r.At w) (hn : n.At w) (hs : s.At w) (hY : Y.At w) (hYs : Y.Small) (b : Bool) (v : Int) (hb : b = (givenB F r.l n.l s && flowB F r.l n.l s.l Y.con)) (hv : v = if b then costV Y.con F.t.con else 0) :
    Calls Try.prog 24 #[F.val, .slice r.a r.l.length r.c, .slice n.a n.l.length n.c, .slice s.a s.l.length s.c, .slice Y.a Y.R.length Y.c] w (PInt v b w) := by
  obtain ⟨wA, hA, hbA, bx, hFA, _⟩ := laid_fld F w 29 hF
  have x0 : wA.cell? ⟨w.heap.size, 0, none⟩ = some (.slice F.o.a F.o.l.length F.o.c) := bx.c0
  have x1 : wA.cell? ⟨w.heap.size, 1, none⟩ = some (.slice F.t.a F.t.R.length F.t.c) := bx.c1
  rw [hA] at x0 x1
  change (w.alloc (Obj.cells #[.slice F.o.a F.o.l.length F.o.c, .slice F.t.a F.t.R.length F.t.c] 29)).cell? _ = _ at x0 x1
  have CV := Lib.hid (valueOfD_any F r n s Y wA hFA (hr.on hbA) (hn.on hbA) (hs.on hbA) (hY.on hbA) hYs b v hb hv)
  have HA := Lib.hid hA
  clear hF hr hn hs hY hA bx hFA hb hv hYs
  unfold PInt
  show Calls _ _ #[.agg #[.slice F.o.a F.o.l.length F.o.c, .slice F.t.a F.t.R.length F.t.c], _, _, _, _] w _
  go_enter Try.func24, Try.ntmps24
  go_wp2_with fail
  rw [show w.alloc (Obj.cells #[Value.slice F.o.a F.o.l.length F.o.c, Value.slice F.t.a F.t.R.length F.t.c] 29) = wA from HA.out.symm]
  clear x0 x1
  refine (show Calls _ _ _ _ _ from CV.out).mono ?_
  rintro e W1 ⟨rfl, hb1⟩
  go_wp2
  go_ret2
  exact ⟨rfl, hbA.trans (hb1.mono hbA.size)⟩
end Go.Proofs.Ytehmjmknegnojaa
