/- The contract of the test of flow prices, on the program's side. Condition: a valid Field, a valid set with at least one site. -/
import Derived.Test.YtehmjmknegnojaaMostImpl
namespace Go.Proofs.Ytehmjmknegnojaa
open Go.RowKit

theorem contF_any (s : Row) (x : Int) (w : World) (hs : s.At w) :
    Calls Try.prog 73 #[.slice s.a s.l.length s.c, .int .i64 x] w fun e w' => e = .returned (.bool (hasI s.l x)) ∧ w' = w := by
  obtain ⟨a, c, l⟩ := s
  have hl := row_lim hs
  obtain ⟨h1, h2, h3⟩ := hs
  simp only at h1 h2 h3 hl ⊢
  by_cases h0 : l = []
  · subst h0
    exact Try.slices_Contains_int_empty a c x w
  rcases h3 with h3 | ⟨b, o, rfl, hb, hcell⟩
  · exact absurd (iv_nil h3) h0
  have := Try.slices_Contains_int b o l.length c l x w (Nat.le_refl _) (by omega) (fun j hj => by rw [hcell j _ (iv_at hj), getD_at hj])
  rw [List.take_length] at this; exact this
theorem flowNoI {F : Fld} {S u p : List Int} {v : Bool} (h1 : u.length = F.t.R.length) (h2 : p.length = F.o.l.length) (hv : v = p.all (upTo 999)) : flowPricesB F S u p = (v && (List.range p.length).all (closed1 S p) && (List.range u.length).all (price1 F (S.map Int.toNat) u p)) := by
  unfold flowPricesB; rw [decide_eq_true h1, decide_eq_true h2, Bool.true_and, Bool.and_true, ← hv]

set_option maxRecDepth 16000 in
set_option maxHeartbeats 2000000 in
theorem areFlowPrices_any (F : Fld) (s u p : Row) (T : List Nat) (w : World) (hF : F.At w) (hs : s.At w) (hu : u.At w) (hp : p.At w) (hf : Fine F s T) (hsm : s.l.length ≤ 1048576) :
    Calls Try.prog 52 #[F.val, .slice s.a s.l.length s.c, .slice u.a u.l.length u.c, .slice p.a p.l.length p.c] w fun e w' => e = .returned (.bool (flowPricesB F s.l u.l p.l)) ∧ Below w.heap.size w w' := by
  obtain ⟨wA, hA, hbA, bx, hFA, _⟩ := laid_fld F w 29 hF
  have HFA := Lib.hid hFA
  have HSA := Lib.hid (hs.on hbA)
  have HUA := Lib.hid (hu.on hbA)
  have HPA := Lib.hid (hp.on hbA)
  have hoi := row_lim hF.1
  have hri := tab_lim hF.2
  have hui := row_lim hu
  have hpi := row_lim hp
  have hsz := good_sizes hf.good
  have x1 : wA.cell? ⟨w.heap.size, 1, none⟩ = some (.slice F.t.a F.t.R.length F.t.c) := bx.c1
  have x0 : wA.cell? ⟨w.heap.size, 0, none⟩ = some (.slice F.o.a F.o.l.length F.o.c) := bx.c0
  rw [hA] at x1 x0
  change (w.alloc (Obj.cells #[.slice F.o.a F.o.l.length F.o.c, .slice F.t.a F.t.R.length F.t.c] 29)).cell? _ = _ at x0 x1
  have HA := Lib.hid hA
  have HBX := Lib.hid bx
  have HF := Lib.hid hf
  have hTm : s.l.map Int.toNat = T := by rw [hf.set]; exact nat_up T
  have HTM := Lib.hid hTm
  obtain ⟨v, hv⟩ : ∃ v, v = p.l.all (upTo 999) := ⟨_, rfl⟩
  have cn := allWithinM_any 999 p wA HPA.out
  rw [← hv] at cn
  have CN := Lib.hid cn
  have HV := Lib.hid hv
  clear hF hs hu hp hA bx hFA cn hv hf hTm
  show Calls _ _ #[.agg #[.slice F.o.a F.o.l.length F.o.c, .slice F.t.a F.t.R.length F.t.c], _, _, _] w _
  by_cases h1 : u.l.length = F.t.R.length
  · by_cases h2 : p.l.length = F.o.l.length
    · have e1 : ((u.l.length : Int) != (F.t.R.length : Int)) = false := by rw [h1]; simp
      have e2 : ((p.l.length : Int) != (F.o.l.length : Int)) = false := by rw [h2]; simp
      have HFN := Lib.hid (flowNoI (F := F) (S := s.l) h1 h2 HV.out)
      have H1 := Lib.hid h1
      have H2 := Lib.hid h2
      have hp7 : p.l.length ≤ 7 := by omega
      have hu7 : u.l.length ≤ 7 := by omega
      have hp1 : 0 < p.l.length := by omega
      clear h1 h2
      go_enter Try.func52, Try.ntmps52
      go_wp2_with fail
      rw [show w.alloc (Obj.cells #[Value.slice F.o.a F.o.l.length F.o.c, Value.slice F.t.a F.t.R.length F.t.c] 29) = wA from HA.out.symm]
      clear x0 x1 e1 e2
      refine CN.out.mono ?_
      rintro e W1 ⟨rfl, hb1⟩
      have hbw := hbA.trans (hb1.mono hbA.size)
      have HB1 := Lib.hid hb1
      cases v with
      | false =>
        go_wp2
        go_ret
        exact ⟨by rw [HFN.out]; rfl, hbw⟩
      | true =>
        have HPB : Hid (p.l.all (upTo 999) = true) := Lib.hid HV.out.symm
        obtain ⟨bp, op, hpa2, hbp, hcp⟩ := rowAll (HPA.out.on hb1) hp1
        have HPC := Lib.hid hcp
        have HPV := Lib.hid hpa2
        have HBW := Lib.hid hbw
        clear hcp hb1 hbw
        rw [hpa2]
        clear hpa2
        go_wp2
        go_loopw [9, 10, 34] (fun _ _ iv wr => ∃ k : Nat, k ≤ p.l.length ∧ iv = .int .i64 k ∧ W1 = wr ∧ ∀ i, i < k → closed1 s.l p.l i = true) (fun _ _ iv _ => p.l.length - (intOf iv).toNat)
        case atStart => exact ⟨0, Nat.zero_le _, rfl, rfl, fun i h => absurd h (Nat.not_lt_zero _)⟩
        case round =>
          obtain ⟨k, hk, rfl, rfl, hall⟩ := hrel
          have HALL := Lib.hid hall
          clear hall
          by_cases hlt : k < p.l.length
          · have hlti : (k : Int) < (p.l.length : Int) := by omega
            obtain ⟨x, hx⟩ : ∃ x, x = p.l.getD k 0 := ⟨_, rfl⟩
            have hcl := HPC.out k hlt
            rw [← hx] at hcl
            have HX := Lib.hid hx
            clear hx
            by_cases h0 : 0 < x
            · obtain ⟨b, hb⟩ : ∃ b, b = hasI s.l (k : Int) := ⟨_, rfl⟩
              have ch := contF_any s (k : Int) W1 (HSA.out.on HB1.out)
              rw [← hb] at ch
              have CH := Lib.hid ch
              have HC1 : Hid (closed1 s.l p.l k = b) := Lib.hid (by unfold closed1; rw [← HX.out, decide_eq_true h0, hb]; rfl)
              clear hb ch
              go_wp2_with fail
              refine CH.out.mono ?_
              rintro e W ⟨rfl, rfl⟩
              cases b with
              | true =>
                have HS : Hid (∀ i, i < k + 1 → closed1 s.l p.l i = true) := Lib.hid fun i hi => by
                  by_cases e : i = k
                  · subst e; exact HC1.out
                  · exact HALL.out i (by omega)
                go_wp2
                go_roundw
                case rel => exact ⟨k + 1, by omega, by go_num, by first | rfl | trivial, HS.out⟩
                case measure => simp [intOf]; omega
              | false =>
                have HS : Hid (flowPricesB F s.l u.l p.l = false) := Lib.hid (by rw [HFN.out, range_out hlt HC1.out]; rfl)
                go_wp2
                go_ret
                exact ⟨by rw [HS.out]; rfl, HBW.out⟩
            · have HC1 : Hid (closed1 s.l p.l k = true) := Lib.hid (by unfold closed1; rw [← HX.out, decide_eq_false h0]; rfl)
              have HS : Hid (∀ i, i < k + 1 → closed1 s.l p.l i = true) := Lib.hid fun i hi => by
                by_cases e : i = k
                · subst e; exact HC1.out
                · exact HALL.out i (by omega)
              go_wp2
              go_roundw
              case rel => exact ⟨k + 1, by omega, by go_num, by first | rfl | trivial, HS.out⟩
              case measure => simp [intOf]; omega
          · obtain rfl : k = p.l.length := by omega
            have HCL : Hid ((List.range p.l.length).all (closed1 s.l p.l) = true) := Lib.hid (range_all HALL.out)
            have HFM : Hid (flowPricesB F s.l u.l p.l = (List.range u.l.length).all (price1 F T u.l p.l)) := Lib.hid (by rw [HFN.out, HCL.out, HTM.out]; rfl)
            have y0 := (HBX.out.on HB1.out).c0
            have y1 := (HBX.out.on HB1.out).c1
            have CM := Lib.hid (by have := mostPrices_any F s p T W1 (HFA.out.on HB1.out) (HSA.out.on HB1.out) (HPA.out.on HB1.out) HF.out H2.out HPB.out hsm; rw [HPV.out] at this; exact this : Calls Try.prog 74 #[F.val, .slice s.a s.l.length s.c, .slice (some ⟨bp, op, none⟩) p.l.length p.c] W1 fun e w' => ∃ t : Row, e = .returned (.slice t.a t.l.length t.c) ∧ t.l = mostL F p.l T ∧ t.Own 3 w' ∧ t.In W1.heap.size w'.heap.size w' ∧ Below W1.heap.size W1 w')
            go_wp2_with fail
            refine (show Calls _ _ _ _ _ from CM.out).mono ?_
            rintro e W2 ⟨t, rfl, htl, -, hti, hb2⟩
            have HB2 : Hid (Below wA.heap.size wA W2) := Lib.hid (HB1.out.trans (hb2.mono HB1.out.size))
            have HBW2 : Hid (Below w.heap.size w W2) := Lib.hid (hbA.trans (HB2.out.mono hbA.size))
            have HTL := Lib.hid htl
            have htn : t.l.length = u.l.length := by rw [htl, most_len, H1.out]
            have HTC : Hid (∀ k, k < u.l.length → ∃ b o b2 o2, t.a = some ⟨b, o, none⟩ ∧ u.a = some ⟨b2, o2, none⟩ ∧ W2.cell? ⟨b, o + k, none⟩ = some (.int .i64 (t.l.getD k 0)) ∧ W2.cell? ⟨b2, o2 + k, none⟩ = some (.int .i64 (u.l.getD k 0))) := Lib.hid fun k hk => by
              obtain ⟨b, o, hta, _, htc⟩ := rowAll hti.at (by omega)
              obtain ⟨b2, o2, hua, _, huc⟩ := rowAll (HUA.out.on HB2.out) (by omega)
              exact ⟨b, o, b2, o2, hta, hua, htc k (by omega), huc k hk⟩
            rw [htn]
            clear htl htn hti hb2 y0 y1
            go_wp2
            go_loopw [11, 12, 53] (fun _ _ iv wr => ∃ k : Nat, k ≤ u.l.length ∧ iv = .int .i64 k ∧ W2 = wr ∧ ∀ i, i < k → price1 F T u.l p.l i = true) (fun _ _ iv _ => u.l.length - (intOf iv).toNat)
            case atStart => exact ⟨0, Nat.zero_le _, rfl, rfl, fun i h => absurd h (Nat.not_lt_zero _)⟩
            case round =>
              obtain ⟨k, hk, rfl, rfl, hall⟩ := hrel
              have HALL2 := Lib.hid hall
              clear hall
              by_cases hlt : k < u.l.length
              · have hlti : (k : Int) < (u.l.length : Int) := by omega
                obtain ⟨b, o, b2, o2, hta, hua, htc, huc⟩ := HTC.out k hlt
                obtain ⟨y, hy⟩ : ∃ y, y = u.l.getD k 0 := ⟨_, rfl⟩
                obtain ⟨q, hq⟩ : ∃ q, q = t.l.getD k 0 := ⟨_, rfl⟩
                rw [← hy] at huc
                rw [← hq] at htc
                have HP1 : Hid (price1 F T u.l p.l k = ((decide (-999 ≤ y) && decide (y ≤ 999)) && decide (y ≤ q))) := Lib.hid (by
                  have hkR : k < F.t.R.length := by have := H1.out; omega
                  have hmk : (mostL F p.l T).getD k 0 = offer (F.t.con.getD k []) p.l T := by
                    have h5 : k < F.t.con.length := by unfold Tab.con; rw [List.length_map]; exact hkR
                    unfold mostL
                    rw [List.getD_eq_getElem?_getD, List.getElem?_map, List.getD_eq_getElem?_getD, List.getElem?_eq_getElem h5]; rfl
                  unfold price1; rw [← hmk, ← HTL.out, hy, hq])
                rw [hta, hua]
                clear hta hua hy hq
                by_cases hr1 : y < -999
                · have HR : Hid (flowPricesB F s.l u.l p.l = false) := Lib.hid (by rw [HFM.out]; exact range_out hlt (by rw [HP1.out, decide_eq_false (by omega : ¬ (-999 ≤ y))]; rfl))
                  go_wp2
                  go_ret
                  exact ⟨by rw [HR.out]; rfl, HBW2.out⟩
                · by_cases hc : min q 999 < y
                  · have HR : Hid (flowPricesB F s.l u.l p.l = false) := Lib.hid (by
                      rw [HFM.out]; refine range_out hlt ?_
                      rw [HP1.out, Bool.and_eq_false_iff, Bool.and_eq_false_iff, decide_eq_false_iff_not, decide_eq_false_iff_not, decide_eq_false_iff_not]; omega)
                    go_wp2
                    go_ret
                    exact ⟨by rw [HR.out]; rfl, HBW2.out⟩
                  · have HST : Hid (∀ i, i < k + 1 → price1 F T u.l p.l i = true) := Lib.hid fun i hi => by
                      by_cases e : i = k
                      · subst e; rw [HP1.out, decide_eq_true (by omega : -999 ≤ y), decide_eq_true (by omega : y ≤ 999), decide_eq_true (by omega : y ≤ q)]; rfl
                      · exact HALL2.out i (by omega)
                    go_wp2
                    go_roundw
                    case rel => exact ⟨k + 1, by omega, by go_num, by first | rfl | trivial, HST.out⟩
                    case measure => simp [intOf]; omega
              · obtain rfl : k = u.l.length := by omega
                have HR : Hid (flowPricesB F s.l u.l p.l = true) := Lib.hid (by rw [HFM.out]; exact range_all HALL2.out)
                go_wp2
                go_ret
                exact ⟨by rw [HR.out]; rfl, HBW2.out⟩
    · have e1 : ((u.l.length : Int) != (F.t.R.length : Int)) = false := by rw [h1]; simp
      have e2 : ((p.l.length : Int) != (F.o.l.length : Int)) = true := by simp; omega
      have HR : Hid (flowPricesB F s.l u.l p.l = false) := Lib.hid (by unfold flowPricesB; rw [decide_eq_false h2]; simp)
      clear h1 h2
      go_enter Try.func52, Try.ntmps52
      go_wp2
      go_ret
      exact ⟨by rw [HR.out]; rfl, below_alloc _ _⟩
  · have e1 : ((u.l.length : Int) != (F.t.R.length : Int)) = true := by simp; omega
    have HR : Hid (flowPricesB F s.l u.l p.l = false) := Lib.hid (by unfold flowPricesB; rw [decide_eq_false h1]; rfl)
    clear h1
    go_enter Try.func52, Try.ntmps52
    go_wp2
    go_ret
    exact ⟨by rw [HR.out]; rfl, below_alloc _ _⟩
end Go.Proofs.Ytehmjmknegnojaa
