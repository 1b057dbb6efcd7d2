/- The contracts of rests and of the picking of places, the program's side. Condition: Field and prices read as such. -/
import Derived.Test.YtjabdcallfipeaaClaimImpl
import Derived.Test.YtjabdcallfipeaaPlainRest
namespace Go.Proofs.Ytjabdcallfipeaa
open Go.RowKit

set_option maxRecDepth 8000 in
set_option maxHeartbeats 2000000 in
theorem restsFor_any (F : Fld) (p : Row) (w : World) (hF : F.At w) (hp : p.At w) (hg : F.good = true) (hd : Dues 2097152 p.l) (hl : p.l.length = F.t.R.length) :
    Calls Try.prog 61 #[F.val, .slice p.a p.l.length p.c] w fun e w' => ∃ t : Row, e = .returned (.slice t.a t.l.length t.c) ∧ t.l = restsTo F p.l F.o.l.length ∧ t.Own 3 w' ∧ t.In w.heap.size w'.heap.size w' ∧ Below w.heap.size w w' := by
  obtain ⟨wA, hA, hbA, bx, hFA, hszA⟩ := laid_fld F w 29 hF
  have HPA := Lib.hid (hp.on hbA)
  have hsz := good_sizes hg
  have hoi : (F.o.l.length : Int) ≤ 7 := by omega
  have HBX := Lib.hid bx
  have HA := Lib.hid hA
  have HFA := Lib.hid hFA
  have HCB := Lib.hid fun a => clm_bound (u := 1) hg (by omega) hd (by omega) a p.l.length (by omega)
  have HOB := Lib.hid fun a => getD_bound (good_open hg) a
  have CC := Lib.hid (claimsFor_any F p wA hFA HPA.out hg hd hl)
  have hn0 : 0 < F.o.l.length := by omega
  have hpl : (p.l.length : Int) ≤ 7 := by omega
  clear hF hp hA hFA bx hg hd hl hsz
  show Calls _ _ #[.agg #[F.o.val, F.t.val], _] w _
  go_enter Try.func61, Try.ntmps61
  go_wp2_with fail
  rw [show w.alloc (Obj.cells #[F.o.val, F.t.val] 29) = wA from HA.out.symm]
  refine (show Calls _ _ _ _ _ from CC.out).mono ?_
  rintro e W1 ⟨t, rfl, htl, hto, hti, hb1⟩
  obtain ⟨ta, tc, tl⟩ := t
  simp only at htl
  subst htl
  rw [show (clmsTo F 1 p.l F.o.l.length).length = F.o.l.length from clms_length _ _ _ _]
  obtain ⟨g, hga, ho⟩ := hto.resolve_left (fun h => by have := congrArg List.length h; simp only [clms_length, List.length_nil] at this; omega)
  simp only [clms_length] at hga ho
  subst hga
  obtain ⟨_, _, h3⟩ := hti
  obtain ⟨_, _, e0, hlo, _, _, _⟩ := h3.resolve_left (fun h => by have := congrArg List.length (iv_nil h); simp only [clms_length, List.length_nil] at this; omega)
  simp only [Option.some.injEq, Addr.mk.injEq] at e0
  obtain ⟨rfl, rfl, _⟩ := e0
  have hml : (iv (restsTo F p.l F.o.l.length)).length = (iv (clmsTo F 1 p.l F.o.l.length)).length := by rw [iv_length, iv_length, rests_length, clms_length]
  have HML := Lib.hid hml
  have H0 : Hid (W1.ownsRow 0 3 1 (.slice (some ⟨g, 0, none⟩) F.o.l.length tc) F.o.l.length (over (iv (clmsTo F 1 p.l F.o.l.length)) (iv (restsTo F p.l F.o.l.length)) 0)) := Lib.hid (by rw [over_zero]; exact ho)
  have HB1 := Lib.hid hb1
  have HLO := Lib.hid hlo
  clear hto h3 hml ho hb1 hlo
  go_wp2
  go_loopw [6, 7, 13] (fun _ _ i wr => ∃ j : Nat, j ≤ F.o.l.length ∧ i = .int .i64 j ∧ wr.ownsRow 0 3 1 (.slice (some ⟨g, 0, none⟩) F.o.l.length tc) F.o.l.length (over (iv (clmsTo F 1 p.l F.o.l.length)) (iv (restsTo F p.l F.o.l.length)) j) ∧ Below wA.heap.size wA wr) (fun _ _ i _ => F.o.l.length - (intOf i).toNat)
  case atStart => exact ⟨0, Nat.zero_le _, rfl, H0.out, HB1.out⟩
  case round =>
    obtain ⟨j, hj, rfl, hown, hnx⟩ := hrel
    by_cases hlt : j < F.o.l.length
    · have hlti : (j : Int) < (F.o.l.length : Int) := by omega
      have hlo := HLO.out
      obtain ⟨_, _, g3⟩ := HFA.out.1
      rcases g3 with g3 | ⟨b, o, hoa, hob, hoc⟩
      · have g3' := congrArg List.length (iv_nil g3); rw [List.length_nil] at g3'; omega
      have y0 : wr.cell? ⟨w.heap.size, 0, none⟩ = some (.slice (some ⟨b, o, none⟩) F.o.l.length F.o.c) := by rw [← hoa]; exact (HBX.out.on hnx).c0
      obtain ⟨x, hx⟩ : ∃ x, x = F.o.l.getD j 0 := ⟨_, rfl⟩
      have hcx : wr.cell? ⟨b, o + j, none⟩ = some (.int .i64 x) := (hnx.cell (p := ⟨b, o + j, none⟩) hob).trans (by rw [hx, getD_at hlt]; exact hoc j _ (iv_at hlt))
      obtain ⟨y, hy⟩ : ∃ y, y = clmTo F 1 p.l j p.l.length := ⟨_, rfl⟩
      have hcl : (clmsTo F 1 p.l F.o.l.length).length = F.o.l.length := clms_length _ _ _ _
      have hcs : wr.cell? ⟨g, j, none⟩ = some (.int .i64 y) := (hown.cellAt j (by omega)).trans (by
        rw [over_at _ _ j HML.out (by rw [iv_length, hcl]; exact hj), iv_at (by rw [hcl]; exact hlt), clms_at F 1 p.l hlt, hy])
      have hf := hown.frozenAt j
      have hst := hown.stored j (.int .i64 (x - y))
      have hat : (iv (restsTo F p.l F.o.l.length))[j]? = some (.int .i64 (x - y)) := by
        rw [iv_at (by rw [rests_length]; exact hlt), rests_at F p.l hlt, hx, hy]; rfl
      rw [over_set _ _ j _ HML.out hat] at hst
      have R1 := Lib.hid hst.1
      have R2 := Lib.hid (hnx.setCell (p := ⟨g, j, none⟩) hlo (.int .i64 (x - y)))
      have hxb := HOB.out j
      have hyb := HCB.out j
      rw [← hx] at hxb
      rw [← hy] at hyb
      have w2 : IntKind.i64.wrap (x - y) = x - y := IntWalk.i64_in _ (by omega)
      have e1 : -9223372036854775808 ≤ x - y := by omega
      have e2 : x - y ≤ 9223372036854775807 := by omega
      clear hx hy hst hat hown hnx hcl hoa hoc hlo hyb hxb
      go_wp2
      have Q1 := R1.out
      have Q2 := R2.out
      go_roundw
      case rel => exact ⟨j + 1, by omega, by go_num, Q1, Q2⟩
      case measure => simp [intOf]; omega
    · obtain rfl : j = F.o.l.length := by omega
      have hall := over_all (iv (clmsTo F 1 p.l F.o.l.length)) (iv (restsTo F p.l F.o.l.length)) HML.out
      rw [iv_length, clms_length] at hall
      rw [hall] at hown
      clear hall
      go_wp2
      go_ret
      have hown1 : wr.ownsRow 0 3 1 (.slice (some ⟨g, 0, none⟩) (restsTo F p.l F.o.l.length).length tc) (restsTo F p.l F.o.l.length).length (iv (restsTo F p.l F.o.l.length)) := by rw [rests_length]; exact hown
      have hlt := (owns_lt hown).1
      obtain ⟨q1, q2, q3⟩ := row_of_owns hown1
      have hlo := HLO.out
      refine ⟨⟨some ⟨g, 0, none⟩, tc, restsTo F p.l F.o.l.length⟩, by rw [rests_length]; rfl, rfl, .inr ⟨g, rfl, hown1⟩, ⟨q1, q2, ?_⟩, hbA.trans (hnx.mono hbA.size)⟩
      rcases q3 with q3 | ⟨b', o', e', hb', hc'⟩
      · exact .inl q3
      · simp only [Option.some.injEq, Addr.mk.injEq] at e'
        obtain ⟨rfl, rfl, _⟩ := e'
        exact .inr ⟨_, _, rfl, by have := hbA.size; omega, hlt, hb', hc'⟩

end Go.Proofs.Ytjabdcallfipeaa
