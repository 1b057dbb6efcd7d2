/- The contract of the test of flow prices, on the model's side. Condition: a valid Field, a valid set with at least one site. -/
import Derived.Test.YtehmjmknegnojaaOfferSpec
import Derived.Test.YtehmjmknegnojaaPost
namespace Go.Proofs.Ytehmjmknegnojaa
open Go.RowKit

theorem flowNo {F : Fld} {S u p : List Int} {v : Bool} (h1 : u.length = F.t.R.length) (hv : v = (p.all (upTo 999) && decide (p.length = F.o.l.length))) : flowPricesB F S u p = (v && (List.range p.length).all (closed1 S p) && (List.range u.length).all (price1 F (S.map Int.toNat) u p)) := by
  unfold flowPricesB; rw [decide_eq_true h1, Bool.true_and, ← hv]

set_option maxRecDepth 16000 in
set_option maxHeartbeats 2000000 in
theorem l7Prices_any (F : Fld) (s u p : Row) (T : List Nat) (w : World) (hF : F.At w) (hs : s.At w) (hu : u.At w) (hp : p.At w) (hf : Fine F s T) :
    Calls Try.prog 50 #[F.val, .slice s.a s.l.length s.c, .slice u.a u.l.length u.c, .slice p.a p.l.length p.c] w fun e w' => e = .returned (.bool (flowPricesB F s.l u.l p.l)) ∧ Below w.heap.size w w' := by
  obtain ⟨wA, hA, hbA, bx, hFA, _⟩ := laid_fld F w 29 hF
  have HFA := Lib.hid hFA
  have HSA := Lib.hid (hs.on hbA)
  have HUA := Lib.hid (hu.on hbA)
  have HPA := Lib.hid (hp.on hbA)
  have hoi := row_lim hF.1
  have hri := tab_lim hF.2
  have hui := row_lim hu
  have hpi := row_lim hp
  have hsz := good_sizes hf.good
  have x1 : wA.cell? ⟨w.heap.size, 1, none⟩ = some (.slice F.t.a F.t.R.length F.t.c) := bx.c1
  have x0 : wA.cell? ⟨w.heap.size, 0, none⟩ = some (.slice F.o.a F.o.l.length F.o.c) := bx.c0
  rw [hA] at x1 x0
  change (w.alloc (Obj.cells #[.slice F.o.a F.o.l.length F.o.c, .slice F.t.a F.t.R.length F.t.c] 29)).cell? _ = _ at x0 x1
  have HA := Lib.hid hA
  have HBX := Lib.hid bx
  have HF := Lib.hid hf
  have hTm : s.l.map Int.toNat = T := by rw [hf.set]; exact nat_up T
  have HTM := Lib.hid hTm
  obtain ⟨v, hv⟩ : ∃ v, v = (p.l.all (upTo 999) && decide (p.l.length = F.o.l.length)) := ⟨_, rfl⟩
  have cn := l7Numbers_any p F.o.l.length 999 wA HPA.out
  rw [← hv] at cn
  have CN := Lib.hid cn
  have HV := Lib.hid hv
  clear hF hs hu hp hA bx hFA cn hv hf hTm
  show Calls _ _ #[.agg #[.slice F.o.a F.o.l.length F.o.c, .slice F.t.a F.t.R.length F.t.c], _, _, _] w _
  by_cases h1 : u.l.length = F.t.R.length
  · have e1 : ((u.l.length : Int) != (F.t.R.length : Int)) = false := by rw [h1]; simp
    have HFN := Lib.hid (flowNo (F := F) (S := s.l) h1 HV.out)
    have H1 := Lib.hid h1
    clear h1
    go_enter Try.func50, Try.ntmps50
    go_wp2_with fail
    rw [show w.alloc (Obj.cells #[Value.slice F.o.a F.o.l.length F.o.c, Value.slice F.t.a F.t.R.length F.t.c] 29) = wA from HA.out.symm]
    clear x0 x1 e1
    refine CN.out.mono ?_
    rintro e W1 ⟨rfl, rfl⟩
    cases v with
    | false =>
      go_wp2
      go_ret
      exact ⟨by rw [HFN.out]; rfl, hbA⟩
    | true =>
      have hpa := HV.out.symm
      rw [Bool.and_eq_true, decide_eq_true_eq] at hpa
      have HPB := Lib.hid hpa.1
      have HPL := Lib.hid hpa.2
      have hp7 : p.l.length ≤ 7 := by omega
      have hp1 : 0 < p.l.length := by omega
      obtain ⟨bp, op, hpa2, hbp, hcp⟩ := rowAll HPA.out hp1
      have HPC := Lib.hid hcp
      have HPV := Lib.hid hpa2
      clear hpa hcp
      rw [hpa2]
      clear hpa2
      go_wp2
      go_loopw [9] (fun iv wr => ∃ k : Nat, k ≤ p.l.length ∧ iv = .int .i64 k ∧ W1 = wr ∧ ∀ i, i < k → closed1 s.l p.l i = true) (fun iv _ => p.l.length - (intOf iv).toNat)
      case atStart => exact ⟨0, Nat.zero_le _, rfl, rfl, fun i h => absurd h (Nat.not_lt_zero _)⟩
      case round =>
        obtain ⟨k, hk, rfl, rfl, hall⟩ := hrel
        have HALL := Lib.hid hall
        clear hall
        by_cases hlt : k < p.l.length
        · have hlti : (k : Int) < (p.l.length : Int) := by omega
          obtain ⟨x, hx⟩ : ∃ x, x = p.l.getD k 0 := ⟨_, rfl⟩
          have hcl := HPC.out k hlt
          rw [← hx] at hcl
          have HX := Lib.hid hx
          clear hx
          by_cases h0 : 0 < x
          · obtain ⟨b, hb⟩ : ∃ b, b = hasI s.l (k : Int) := ⟨_, rfl⟩
            have ch := l1Has_any s (k : Int) W1 HSA.out
            rw [← hb] at ch
            have CH := Lib.hid ch
            have HC1 : Hid (closed1 s.l p.l k = b) := Lib.hid (by unfold closed1; rw [← HX.out, decide_eq_true h0, hb]; rfl)
            clear hb ch
            go_wp2_with fail
            refine CH.out.mono ?_
            rintro e W ⟨rfl, rfl⟩
            cases b with
            | true =>
              have HS : Hid (∀ i, i < k + 1 → closed1 s.l p.l i = true) := Lib.hid fun i hi => by
                by_cases e : i = k
                · subst e; exact HC1.out
                · exact HALL.out i (by omega)
              go_wp2
              go_roundw
              case rel => exact ⟨k + 1, by omega, by go_num, by first | rfl | trivial, HS.out⟩
              case measure => simp [intOf]; omega
            | false =>
              have HS : Hid (flowPricesB F s.l u.l p.l = false) := Lib.hid (by rw [HFN.out, range_out hlt HC1.out]; rfl)
              go_wp2
              go_ret
              exact ⟨by rw [HS.out]; rfl, hbA⟩
          · have HC1 : Hid (closed1 s.l p.l k = true) := Lib.hid (by unfold closed1; rw [← HX.out, decide_eq_false h0]; rfl)
            have HS : Hid (∀ i, i < k + 1 → closed1 s.l p.l i = true) := Lib.hid fun i hi => by
              by_cases e : i = k
              · subst e; exact HC1.out
              · exact HALL.out i (by omega)
            go_wp2
            go_roundw
            case rel => exact ⟨k + 1, by omega, by go_num, by first | rfl | trivial, HS.out⟩
            case measure => simp [intOf]; omega
        · obtain rfl : k = p.l.length := by omega
          have HCL : Hid ((List.range p.l.length).all (closed1 s.l p.l) = true) := Lib.hid (range_all HALL.out)
          have HFM : Hid (flowPricesB F s.l u.l p.l = (List.range u.l.length).all (price1 F T u.l p.l)) := Lib.hid (by rw [HFN.out, HCL.out, HTM.out]; rfl)
          have HUC : Hid (0 < u.l.length → ∃ b o, u.a = some ⟨b, o, none⟩ ∧ b < W1.heap.size ∧ ∀ m, m < u.l.length → W1.cell? ⟨b, o + m, none⟩ = some (.int .i64 (u.l.getD m 0))) := Lib.hid fun h => rowAll HUA.out h
          go_wp2
          go_loopw [10] (fun iv wr => ∃ k : Nat, k ≤ u.l.length ∧ iv = .int .i64 k ∧ Below W1.heap.size W1 wr ∧ ∀ i, i < k → price1 F T u.l p.l i = true) (fun iv _ => u.l.length - (intOf iv).toNat)
          case atStart => exact ⟨0, Nat.zero_le _, rfl, Below.refl _ _, fun i h => absurd h (Nat.not_lt_zero _)⟩
          case round =>
            obtain ⟨k, hk, rfl, hnx, hall⟩ := hrel
            have HALL2 := Lib.hid hall
            clear hall
            by_cases hlt : k < u.l.length
            · have hlti : (k : Int) < (u.l.length : Int) := by omega
              obtain ⟨bu, ou, hua, hbu, hcu⟩ := HUC.out (by omega)
              obtain ⟨y, hy⟩ : ∃ y, y = u.l.getD k 0 := ⟨_, rfl⟩
              have hcy : W1.cell? ⟨bu, ou + k, none⟩ = some (.int .i64 y) := by rw [hy]; exact hcu k hlt
              have hcy2 : wr.cell? ⟨bu, ou + k, none⟩ = some (.int .i64 y) := (hnx.cell (p := ⟨bu, ou + k, none⟩) hbu).trans hcy
              obtain ⟨q, hq⟩ : ∃ q, q = offer (F.t.R[k]'(by have := H1.out; omega)).l p.l T := ⟨_, rfl⟩
              have HP1 : Hid (price1 F T u.l p.l k = ((decide (-999 ≤ y) && decide (y ≤ 999)) && decide (y ≤ q))) := Lib.hid (by unfold price1; rw [con_getD (by have := H1.out; omega), hy, hq])
              have z0 := (HBX.out.on hnx).c0
              have z1 := (HBX.out.on hnx).c1
              have CI := Lib.hid fun W => l1In_any y (-999) 999 W
              have CO := Lib.hid (fun W (h : Below W1.heap.size W1 W) => by have := l7Offer_any F s p T k W (HFA.out.on h) (HSA.out.on h) (HPA.out.on h) HF.out HPL.out HPB.out (by have := H1.out; omega); rw [← hq, HPV.out] at this; exact this : ∀ W, Below W1.heap.size W1 W → Calls Try.prog 71 #[F.val, .slice s.a s.l.length s.c, .slice (some ⟨bp, op, none⟩) p.l.length p.c, .int .i64 k] W fun e w' => e = .returned (.int .i64 q) ∧ Below W.heap.size W w')
              have HS : Hid (∀ W, Below W1.heap.size W1 W → ((W.cell? ⟨bu, ou + k, none⟩ = some (.int .i64 y) ∧ W.cell? ⟨w.heap.size, 0, none⟩ = some F.o.val ∧ W.cell? ⟨w.heap.size, 1, none⟩ = some F.t.val) ∧ Below W1.heap.size W1 W)) := Lib.hid fun W hW => ⟨⟨(hW.cell (p := ⟨bu, ou + k, none⟩) hbu).trans hcy, (HBX.out.on hW).c0, (HBX.out.on hW).c1⟩, hW⟩
              rw [hua]
              have HNX := Lib.hid hnx
              by_cases hr : -999 ≤ y ∧ y ≤ 999
              · have CI1 := Lib.hid (fun W => by have := CI.out W; rw [decide_eq_true hr.1, decide_eq_true hr.2] at this; exact (this : Calls _ _ _ W fun e w' => e = .returned (.bool true) ∧ w' = W).mono (R' := fun e w' => e = .returned (.bool true) ∧ Below W.heap.size W w') (fun e w' ⟨h1, h2⟩ => ⟨h1, by rw [h2]; exact Below.refl _ _⟩) : ∀ W, Calls Try.prog 62 #[.int .i64 y, .int .i64 (-999), .int .i64 999] W fun e w' => e = .returned (.bool true) ∧ Below W.heap.size W w')
                have s0 := HS.out wr.drew hnx.drew
                have HP2 : Hid (price1 F T u.l p.l k = decide (y ≤ q)) := Lib.hid (by rw [HP1.out, decide_eq_true hr.1, decide_eq_true hr.2]; rfl)
                by_cases hc : q < y
                · have HR : Hid (flowPricesB F s.l u.l p.l = false) := Lib.hid (by rw [HFM.out]; exact range_out hlt (by rw [HP2.out]; simp; omega))
                  clear hy hq hua hcu hcy hcy2 hr z0 z1 CI
                  go_wp2_with fail
                  go_region_held3 (fun u => ((u.cell? ⟨bu, ou + k, none⟩ = some (.int .i64 y) ∧ u.cell? ⟨w.heap.size, 0, none⟩ = some F.o.val ∧ u.cell? ⟨w.heap.size, 1, none⟩ = some F.t.val) ∧ Below W1.heap.size W1 u)) (first | exact s0 | exact keep_reg HS.out (by first | assumption | exact And.right (by assumption)) hb1) (first | (go_at_call 62; refine (show Calls _ _ _ _ _ from CI1.out _).mono ?_; rintro e u1 ⟨rfl, hb1⟩) | (go_at_call 71; refine (show Calls _ _ _ _ _ from CO.out _ (by first | assumption | exact And.right (by assumption))).mono ?_; rintro e u2 ⟨rfl, hb1⟩))
                  refine at_exit (W := W1) (by first | assumption | exact And.right (by assumption)) ?_
                  intro W8 hb8
                  go_wp2
                  go_ret
                  exact ⟨by rw [HR.out]; rfl, hbA.trans (hb8.mono hbA.size)⟩
                · have HST : Hid (∀ i, i < k + 1 → price1 F T u.l p.l i = true) := Lib.hid fun i hi => by
                    by_cases e : i = k
                    · subst e; rw [HP2.out]; simp; omega
                    · exact HALL2.out i (by omega)
                  clear hy hq hua hcu hcy hcy2 hr z0 z1 CI
                  go_wp2_with fail
                  go_region_held3 (fun u => ((u.cell? ⟨bu, ou + k, none⟩ = some (.int .i64 y) ∧ u.cell? ⟨w.heap.size, 0, none⟩ = some F.o.val ∧ u.cell? ⟨w.heap.size, 1, none⟩ = some F.t.val) ∧ Below W1.heap.size W1 u)) (first | exact s0 | exact keep_reg HS.out (by first | assumption | exact And.right (by assumption)) hb1) (first | (go_at_call 62; refine (show Calls _ _ _ _ _ from CI1.out _).mono ?_; rintro e u1 ⟨rfl, hb1⟩) | (go_at_call 71; refine (show Calls _ _ _ _ _ from CO.out _ (by first | assumption | exact And.right (by assumption))).mono ?_; rintro e u2 ⟨rfl, hb1⟩))
                  refine at_exit (W := W1) (by first | assumption | exact And.right (by assumption)) ?_
                  intro W8 hb8
                  go_wp2
                  go_roundw
                  case rel => exact ⟨k + 1, by omega, by go_num, hb8, HST.out⟩
                  case measure => simp [intOf]; omega
              · have CI1 := Lib.hid (fun W => by have := CI.out W; rw [show (decide (-999 ≤ y) && decide (y ≤ 999)) = false by rw [Bool.and_eq_false_iff, decide_eq_false_iff_not, decide_eq_false_iff_not]; omega] at this; exact this : ∀ W, Calls Try.prog 62 #[.int .i64 y, .int .i64 (-999), .int .i64 999] W fun e w' => e = .returned (.bool false) ∧ w' = W)
                have HR : Hid (flowPricesB F s.l u.l p.l = false) := Lib.hid (by rw [HFM.out]; exact range_out hlt (by rw [HP1.out, show (decide (-999 ≤ y) && decide (y ≤ 999)) = false by rw [Bool.and_eq_false_iff, decide_eq_false_iff_not, decide_eq_false_iff_not]; omega]; rfl))
                clear hy hq hua hcu hcy hr z0 z1 CI hnx
                go_wp2
                go_quiet ((go_at_call 62; exact Calls.quiet_of_same (CI1.out _)))
                go_wp2
                go_ret
                exact ⟨by rw [HR.out]; rfl, hbA.trans ((HNX.out.trans ((below_draws wr _).mono HNX.out.size)).mono hbA.size)⟩
            · obtain rfl : k = u.l.length := by omega
              have HR : Hid (flowPricesB F s.l u.l p.l = true) := Lib.hid (by rw [HFM.out]; exact range_all HALL2.out)
              go_wp2
              go_ret
              exact ⟨by rw [HR.out]; rfl, hbA.trans (hnx.mono hbA.size)⟩
  · have e1 : ((u.l.length : Int) != (F.t.R.length : Int)) = true := by simp; omega
    have HR : Hid (flowPricesB F s.l u.l p.l = false) := Lib.hid (by unfold flowPricesB; rw [decide_eq_false h1]; rfl)
    clear h1
    go_enter Try.func50, Try.ntmps50
    go_wp2
    go_ret
    exact ⟨by rw [HR.out]; rfl, below_alloc _ _⟩
end Go.Proofs.Ytehmjmknegnojaa
