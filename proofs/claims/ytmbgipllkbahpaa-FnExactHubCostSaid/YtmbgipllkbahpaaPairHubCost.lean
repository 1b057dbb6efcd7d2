/- HubCost on both sides, as its law wants it. No condition. -/
import Derived.Test.YtmbgipllkbahpaaNetImpl
namespace Go.Proofs.Ytmbgipllkbahpaa
open Go.RowKit

set_option maxRecDepth 16000 in
set_option maxHeartbeats 3000000 in
theorem cost_any (T Q : Tab) (s : Row) (H : List Nat) (c : Int) (w : World) (hT : T.At w) (hQ : Q.At w) (hs : s.At w) (hn : Net T.con Q.con c) (hh : HubL T.R.length s H) :
    Calls Try.prog 49 #[.agg #[.slice T.a T.R.length T.c, .slice Q.a Q.R.length Q.c, .int .i64 c], .slice s.a s.l.length s.c] w fun e w' => e = .returned (.int .i64 (totH T.con Q.con H c T.R.length T.R.length)) ∧ Below w.heap.size w w' := by
  obtain ⟨wA, hA⟩ : ∃ u, u = w.alloc (Obj.cells #[.slice T.a T.R.length T.c, .slice Q.a Q.R.length Q.c, .int .i64 c] 54) := ⟨_, rfl⟩
  have hbA : Below w.heap.size w wA := by rw [hA]; exact below_alloc _ _
  have bx : BoxN wA w.heap.size (.slice T.a T.R.length T.c) (.slice Q.a Q.R.length Q.c) (.int .i64 c) 54 := by rw [hA]; exact BoxN.made _ _ _ _ _
  have hQl : Q.R.length = T.R.length := by have := hn.len; rw [con_length, con_length] at this; exact this
  have hn5 : T.R.length ≤ 5 := by have := hn.few; rw [con_length] at this; exact this
  obtain ⟨n, hnn⟩ : ∃ n, n = T.R.length := ⟨_, rfl⟩
  have hsl : s.l.length = n := by rw [hh.eq, up_length, hh.len, hnn]
  have CU := Lib.hid (fun (i j : Nat) (hi : i < n) (hj : j < n) u (hu : Below wA.heap.size wA u) => (by
    have := unitCost_any T Q s H c i j u ((hT.on hbA).on hu) ((hs.on hbA).on hu) hn hh (by rw [← hnn]; exact hi) (by rw [← hnn]; exact hj)
    rw [hQl, ← hnn, hsl] at this; exact this : Calls Try.prog 62 #[.agg #[.slice T.a n T.c, .slice Q.a n Q.c, .int .i64 c], .slice s.a n s.c, .int .i64 i, .int .i64 j] u fun e w' => e = .returned (.int .i64 (unitV T.con H c i j)) ∧ Below u.heap.size u w'))
  rw [hQl, ← hnn] at bx hA
  rw [hsl, hQl, ← hnn]
  have HBX := Lib.hid bx
  have HA := Lib.hid hA
  have y0 := bx.c0
  have y1 := bx.c1
  have y2 := bx.c2
  by_cases h0 : n = 0
  · rw [hA] at y0 y1 y2
    subst h0
    clear hT hQ hs hn hh hsl hQl hn5 hnn bx hA CU
    go_enter Try.func49, Try.ntmps49
    go_wp2
    rw [← HA.out]
    go_loopw [5, 6, 7, 8, 9, 13, 20] (fun sv _ _ _ _ i _ wr => i = .int .i64 0 ∧ sv = .int .i64 0 ∧ wA = wr) (fun _ _ _ _ _ _ _ _ => 0)
    case atStart => exact ⟨rfl, rfl, rfl⟩
    case round =>
      obtain ⟨rfl, rfl, rfl⟩ := hrel
      clear y0 y1 y2
      go_wp2
      go_ret
      exact ⟨by rw [totH_zero]; rfl, hbA⟩
  obtain ⟨bq, oq, haq, hrowq⟩ := sq_cells (hQ.on hbA) (n := n) (by have := hn.rows; rw [con_length, ← hnn] at this; exact this) (by omega) (by omega)
  rw [hQl, ← hnn] at hrowq
  have HROQ := Lib.hid hrowq
  have HN := Lib.hid hn
  have hni : (n : Int) ≤ 5 := by omega
  rw [haq] at y1 HBX hA CU ⊢
  have HA := Lib.hid hA
  rw [hA] at y0 y1 y2
  clear hT hQ hs hn hh hsl hQl hn5 hnn bx hA haq hrowq
  go_enter Try.func49, Try.ntmps49
  go_wp2
  rw [← HA.out]
  go_loopw [5, 6, 7, 8, 9, 13, 20] (fun sv _ _ _ _ iv _ wr => ∃ i : Nat, i ≤ n ∧ iv = .int .i64 i ∧ sv = .int .i64 (totH T.con Q.con H c n i) ∧ Below wA.heap.size wA wr) (fun _ _ _ _ _ iv _ _ => n - (intOf iv).toNat)
  case atStart => exact ⟨0, Nat.zero_le _, rfl, by rw [totH_zero], Below.refl _ _⟩
  case round =>
    obtain ⟨i, hi, rfl, rfl, hnx⟩ := hrel
    clear y0 y1 y2
    by_cases hlt : i < n
    · have hlti : (i : Int) < (n : Int) := by omega
      obtain ⟨A, hA⟩ : ∃ A, A = totH T.con Q.con H c n i := ⟨_, rfl⟩
      have hAb := HN.out.tot H (n := n) (by omega) i
      rw [← hA] at hAb ⊢
      have HS1 : Hid (totH T.con Q.con H c n (i + 1) = A + rowH T.con Q.con H c i n) := Lib.hid (by rw [totH_step, hA])
      have HD := Lib.hid hnx
      obtain ⟨bf, of, cf, hrf⟩ := HROQ.out i hlt
      have q1 := (hrf wr hnx).1
      have HRF := Lib.hid (fun u hu => (hrf u hu).2)
      clear hA hnx hrf
      go_wp2
      clear q1
      go_loopw [5, 8, 9, 20] (fun sv _ _ jv wr => ∃ j : Nat, j ≤ n ∧ jv = .int .i64 j ∧ sv = .int .i64 (A + rowH T.con Q.con H c i j) ∧ Below wA.heap.size wA wr) (fun _ _ _ jv _ => n - (intOf jv).toNat)
      case atStart => exact ⟨0, Nat.zero_le _, rfl, by rw [rowH_zero, Int.add_zero], HD.out⟩
      case round =>
        obtain ⟨j, hj, rfl, rfl, hnx⟩ := hrel
        by_cases hltj : j < n
        · have hltji : (j : Int) < (n : Int) := by omega
          obtain ⟨S, hS⟩ : ∃ S, S = A + rowH T.con Q.con H c i j := ⟨_, rfl⟩
          have hSb := HN.out.row H i j
          have hSb1 : 0 ≤ S := by omega
          have hSb2 : S ≤ 1470150 * 5 + 294030 * 5 := by omega
          have HST : Hid (A + rowH T.con Q.con H c i (j + 1) = S + flowV T.con Q.con H c i j) := Lib.hid (by rw [rowH_step, hS]; omega)
          obtain ⟨f, hf⟩ : ∃ f, f = cel Q.con i j := ⟨_, rfl⟩
          have r8 := HRF.out wr hnx j hltj
          rw [← hf] at r8
          rw [← hS]
          clear hS hSb
          by_cases hij : j = i
          · have hne : ((j : Int) != (i : Int)) = false := by rw [nat_neB, hij]; simp
            have HFL : Hid (flowV T.con Q.con H c i j = 0) := Lib.hid (by unfold flowV; rw [if_pos hij.symm])
            clear hij hf
            go_wp2
            go_roundw
            case rel => exact ⟨j + 1, by omega, by go_num, by rw [HST.out, HFL.out, Int.add_zero], hnx⟩
            case measure => simp [intOf]; omega
          · have hne : ((j : Int) != (i : Int)) = true := by rw [nat_neB]; simp [hij]
            obtain ⟨u, hu⟩ : ∃ u, u = unitV T.con H c i j := ⟨_, rfl⟩
            have CU1 := Lib.hid (by have := CU.out i j hlt hltj wr hnx; rw [← hu] at this; exact this)
            have hpr := HN.out.prod H i j
            rw [← hf, ← hu] at hpr
            have HFL : Hid (flowV T.con Q.con H c i j = f * u) := Lib.hid (by unfold flowV; rw [if_neg (fun e => hij e.symm), hf, hu])
            obtain ⟨pr, hprr⟩ : ∃ t, t = f * u := ⟨_, rfl⟩
            rw [← hprr] at hpr HFL
            have e5 : IntKind.i64.wrap (f * u) = pr := by rw [← hprr]; exact IntWalk.i64_in _ (by omega)
            have e6 : IntKind.i64.wrap (S + pr) = S + pr := IntWalk.i64_in _ (by omega)
            have b0 := (HBX.out.on hnx).c0
            have b1 := (HBX.out.on hnx).c1
            have b2 := (HBX.out.on hnx).c2
            have HNX := Lib.hid hnx
            clear hij hf hu hprr hnx
            go_wp2_with fail
            refine (show Calls _ _ _ _ _ from CU1.out).mono ?_
            rintro e W2 ⟨rfl, hb2⟩
            have HR2 := HNX.out.trans (hb2.mono HNX.out.size)
            clear b0 b1 b2 r8 hb2
            go_wp2
            go_roundw
            case rel => exact ⟨j + 1, by omega, by go_num, by rw [HST.out, HFL.out], HR2⟩
            case measure => simp [intOf]; omega
        · obtain rfl : j = n := by omega
          go_wp2
          go_roundw
          case rel => exact ⟨i + 1, by omega, by go_num, by rw [HS1.out], hnx⟩
          case measure => simp [intOf]; omega
    · obtain rfl : i = n := by omega
      go_wp2
      go_ret
      exact ⟨rfl, hbA.trans (hnx.mono hbA.size)⟩

/-- What HubCost answers. -/
def CostIs (d f : List (List Int)) (l : List Int) (c v : Int) (b : Bool) : Prop :=
  ((netB d f c && hubB d.length l) = false ∧ v = 0 ∧ b = false) ∨ ((netB d f c && hubB d.length l) = true ∧ b = true ∧ ∃ H : List Nat, l = up H ∧ H.length = d.length ∧ (∀ m ∈ H, m < d.length) ∧ v = totH d f H c d.length d.length)
theorem costIs_some (d f : List (List Int)) (l : List Int) (c : Int) : ∃ v b, CostIs d f l c v b := by
  by_cases h : (netB d f c && hubB d.length l) = true
  · have h' := h
    rw [Bool.and_eq_true] at h'
    obtain ⟨H, hH⟩ := hubL_of (s := ⟨none, 0, l⟩) h'.2
    exact ⟨_, _, .inr ⟨h, rfl, H, hH.eq, hH.len, hH.lt, rfl⟩⟩
  · exact ⟨_, _, .inl ⟨by simpa using h, rfl, rfl⟩⟩

set_option maxRecDepth 16000 in
set_option maxHeartbeats 1500000 in
theorem implHubCost_any (T Q : Tab) (s : Row) (c : Int) (w : World) (hT : T.At w) (hQ : Q.At w) (hs : s.At w) (v : Int) (b : Bool) (hv : CostIs T.con Q.con s.l c v b) :
    Calls Try.prog 25 #[.slice T.a T.R.length T.c, .slice Q.a Q.R.length Q.c, .slice s.a s.l.length s.c, .int .i64 c] w (PInt v b w) := by
  obtain ⟨wA, hA⟩ : ∃ u, u = w.alloc (Obj.cells #[.slice T.a T.R.length T.c, .slice Q.a Q.R.length Q.c, .int .i64 c] 54) := ⟨_, rfl⟩
  have hbA : Below w.heap.size w wA := by rw [hA]; exact below_alloc _ _
  have bx : BoxN wA w.heap.size (.slice T.a T.R.length T.c) (.slice Q.a Q.R.length Q.c) (.int .i64 c) 54 := by rw [hA]; exact BoxN.made _ _ _ _ _
  obtain ⟨g, hg⟩ : ∃ g, g = netB T.con Q.con c := ⟨_, rfl⟩
  obtain ⟨u, hu⟩ : ∃ u, u = hubB T.con.length s.l := ⟨_, rfl⟩
  have C1 := Lib.hid (by have := netValid_any T Q c wA (hT.on hbA) (hQ.on hbA); rw [← hg] at this; exact this)
  have C2 := Lib.hid (fun W (hb : Below wA.heap.size wA W) => (by have := isAllocation_any T s W ((hT.on hbA).on hb) ((hs.on hbA).on hb); rw [show hubB T.R.length s.l = u by rw [hu, con_length]] at this; exact this : Calls Try.prog 45 #[.slice T.a T.R.length T.c, .slice s.a s.l.length s.c] W fun e w' => e = .returned (.bool u) ∧ Below W.heap.size W w'))
  have HNO : Hid ((g && u) = false → v = 0 ∧ b = false) := Lib.hid fun h => by
    rcases hv with ⟨_, h1, h2⟩ | ⟨h1, _⟩
    · exact ⟨h1, h2⟩
    · rw [← hg, ← hu, h] at h1; cases h1
  have HT := Lib.hid (hT.on hbA)
  have HQ := Lib.hid (hQ.on hbA)
  have HS := Lib.hid (hs.on hbA)
  have HYES : Hid ((g && u) = true → b = true ∧ Net T.con Q.con c ∧ ∃ H : List Nat, HubL T.R.length s H ∧ v = totH T.con Q.con H c T.R.length T.R.length) := Lib.hid fun h => by
    rcases hv with ⟨h1, _⟩ | ⟨_, h2, H, h3, h4, h5, h6⟩
    · rw [← hg, ← hu, h] at h1; cases h1
    · rw [Bool.and_eq_true, hg] at h
      rw [con_length] at h4 h6
      exact ⟨h2, netB_iff h.1, H, ⟨h3, h4, by rw [← con_length]; exact h5⟩, h6⟩
  have y0 := bx.c0
  have y1 := bx.c1
  have y2 := bx.c2
  rw [hA] at y0 y1 y2
  have HA := Lib.hid hA
  have HBX := Lib.hid bx
  clear hT hQ hs hA bx hg hu hv
  show Calls _ _ _ _ fun e w' => e = .returned (.tuple #[.int .i64 v, .bool b]) ∧ Below w.heap.size w w'
  cases g with
  | false =>
    obtain ⟨rfl, rfl⟩ := HNO.out rfl
    clear HNO HYES
    go_enter Try.func25, Try.ntmps25
    go_wp2_with fail
    rw [← HA.out]
    refine (show Calls _ _ _ _ _ from C1.out).mono ?_
    rintro e W ⟨rfl, hb⟩
    clear y0 y1 y2
    go_wp2
    go_ret2
    exact ⟨rfl, hbA.trans (hb.mono hbA.size)⟩
  | true =>
    cases u with
    | false =>
      obtain ⟨rfl, rfl⟩ := HNO.out rfl
      clear HNO HYES
      go_enter Try.func25, Try.ntmps25
      go_wp2_with fail
      rw [← HA.out]
      refine (show Calls _ _ _ _ _ from C1.out).mono ?_
      rintro e W ⟨rfl, hb⟩
      clear y0 y1 y2
      have y0 := (HBX.out.on hb).c0
      have hbw := hbA.trans (hb.mono hbA.size)
      go_wp2_with fail
      refine (show Calls _ _ _ _ _ from C2.out W hb).mono ?_
      rintro e W2 ⟨rfl, hb2⟩
      clear y0
      go_wp2
      go_ret2
      exact ⟨rfl, hbw.trans (hb2.mono hbw.size)⟩
    | true =>
      obtain ⟨hbt, hn, H, hh, hvT⟩ := HYES.out rfl
      subst hbt
      have CV := Lib.hid (fun W (hb : Below wA.heap.size wA W) => (by have := cost_any T Q s H c W (HT.out.on hb) (HQ.out.on hb) (HS.out.on hb) hn hh; rw [← hvT] at this; exact this : Calls Try.prog 49 #[.agg #[.slice T.a T.R.length T.c, .slice Q.a Q.R.length Q.c, .int .i64 c], .slice s.a s.l.length s.c] W fun e w' => e = .returned (.int .i64 v) ∧ Below W.heap.size W w'))
      clear HNO HYES hn hh hvT
      go_enter Try.func25, Try.ntmps25
      go_wp2_with fail
      rw [← HA.out]
      refine (show Calls _ _ _ _ _ from C1.out).mono ?_
      rintro e W ⟨rfl, hb⟩
      clear y0 y1 y2
      have y0 := (HBX.out.on hb).c0
      have hbw := hbA.trans (hb.mono hbA.size)
      go_wp2_with fail
      refine (show Calls _ _ _ _ _ from C2.out W hb).mono ?_
      rintro e W2 ⟨rfl, hb2⟩
      clear y0
      have hb12 := hb.trans (hb2.mono hb.size)
      have y0 := (HBX.out.on hb12).c0
      have y1 := (HBX.out.on hb12).c1
      have y2 := (HBX.out.on hb12).c2
      have hbw2 := hbA.trans (hb12.mono hbA.size)
      go_wp2_with fail
      refine (show Calls _ _ _ _ _ from CV.out W2 hb12).mono ?_
      rintro e W3 ⟨rfl, hb3⟩
      clear y0 y1 y2
      go_wp2
      go_ret2
      exact ⟨rfl, hbw2.trans (hb3.mono hbw2.size)⟩

set_option maxRecDepth 16000 in
set_option maxHeartbeats 1500000 in
theorem l11Flows_any (T Q : Tab) (c : Int) (w : World) (hT : T.At w) (hQ : Q.At w) :
    Calls Try.prog 46 #[.slice T.a T.R.length T.c, .slice Q.a Q.R.length Q.c, .int .i64 c] w fun e w' => e = .returned (.bool (netB T.con Q.con c)) ∧ DrewTo w w' := by
  have hlimT := tab_lim0 hT
  have hlimQ := tab_lim0 hQ
  obtain ⟨n, hn⟩ : ∃ n, n = T.R.length := ⟨_, rfl⟩
  obtain ⟨m, hm⟩ : ∃ m, m = Q.R.length := ⟨_, rfl⟩
  obtain ⟨g, hg⟩ : ∃ g, g = smallG T.con := ⟨_, rfl⟩
  have C1 := Lib.hid (by have := l11Small_any T w hT; rw [← hg, ← hn] at this; exact this)
  have CI := Lib.hid (fun W => l1In_any c 0 10 W)
  have HQ := Lib.hid hQ
  have HM := Lib.hid hm
  have HQC : Hid (∀ k (h : k < Q.R.length), ∃ q : k < Q.con.length, Q.con[k] = Q.R[k].l) := Lib.hid fun k h => con_row Q h
  have HNB : Hid (netB T.con Q.con c = (g && (decide (m = n) && Q.con.all (rowB n)) && (decide (0 ≤ c) && decide (c ≤ 10)))) := Lib.hid (by unfold netB sqB; rw [← hg, con_length, con_length, ← hn, ← hm])
  have HQL : Hid (Q.con.length = m) := Lib.hid (by rw [con_length, hm])
  have HR : Hid (∀ k (h : k < Q.R.length) W, DrewTo w W → Calls Try.prog 50 #[.slice Q.R[k].a Q.R[k].l.length Q.R[k].c, .int .i64 (n : Int), .int .i64 99] W fun e w' => e = .returned (.bool (rowB n Q.R[k].l)) ∧ w' = W) := Lib.hid fun k h W hW => l2Row_any Q.R[k] n W ((hQ.2 _ (List.getElem_mem h)).on hW.below)
  rw [← hn, ← hm]
  rw [← hn] at hlimT
  rw [← hm] at hlimQ
  clear hT hQ hn hm hg
  go_enter Try.func46, Try.ntmps46
  go_wp2
  go_loopw [7] (fun i wr => ∃ k : Nat, k ≤ m ∧ i = .int .i64 k ∧ wr = w ∧ Hid ((Q.con.take k).all (rowB n) = true)) (fun i _ => m - (intOf i).toNat)
  case atStart => exact ⟨0, Nat.zero_le _, rfl, rfl, Lib.hid (by simp)⟩
  case round =>
    obtain ⟨k, hk, rfl, hVr, HALL⟩ := hrel
    subst hVr
    by_cases hlt : k < m
    · have hlti : (k : Int) < (m : Int) := by omega
      have hkQ : k < Q.R.length := by rw [← HM.out]; exact hlt
      obtain ⟨b, o, ha, _, hc⟩ := tab_rows HQ.out (by omega)
      have hcl := hc _ (Below.refl _ _) k hkQ
      obtain ⟨x, hx⟩ : ∃ x, x = Q.R[k] := ⟨_, rfl⟩
      have CR := HR.out k hkQ _ (DrewTo.refl _)
      rw [← hx] at hcl CR
      obtain ⟨v, hv⟩ : ∃ v, v = rowB n x.l := ⟨_, rfl⟩
      rw [← hv] at CR
      have CR1 := Lib.hid CR
      have HX : Hid (∃ q : k < Q.con.length, rowB n Q.con[k] = v) := Lib.hid (by obtain ⟨q, e⟩ := HQC.out k hkQ; exact ⟨q, by rw [e, ← hx]; exact hv.symm⟩)
      rw [ha]
      clear hx hv CR hc ha hkQ
      cases v with
      | false =>
        have HE : Hid (netB T.con Q.con c = false) := Lib.hid (by
          obtain ⟨q, e⟩ := HX.out
          rw [HNB.out, all_out q e]; simp)
        go_wp2_with fail
        refine (show Calls _ _ _ _ _ from CR1.out).mono ?_
        rintro e W ⟨rfl, rfl⟩
        go_wp2
        go_ret
        exact ⟨by rw [HE.out]; rfl, DrewTo.refl _⟩
      | true =>
        have HS : Hid ((Q.con.take (k + 1)).all (rowB n) = true) := Lib.hid (by obtain ⟨q, e⟩ := HX.out; exact all_take q HALL.out e)
        go_wp2_with fail
        refine (show Calls _ _ _ _ _ from CR1.out).mono ?_
        rintro e W ⟨rfl, rfl⟩
        go_wp2
        go_roundw
        case rel => exact ⟨k + 1, by omega, by go_num, by first | rfl | trivial, HS⟩
        case measure => simp [intOf]; omega
    · obtain rfl : k = m := by omega
      have HE : Hid (netB T.con Q.con c = (g && decide (k = n) && (decide (0 ≤ c) && decide (c ≤ 10)))) := Lib.hid (by
        have h := HALL.out
        rw [← HQL.out, List.take_length] at h
        rw [HNB.out, h, Bool.and_true])
      clear HNB
      cases g with
      | false =>
        go_wp2_with fail
        refine (show Calls _ _ _ _ _ from C1.out).mono ?_
        rintro e W ⟨rfl, hd⟩
        go_wp2
        go_ret
        exact ⟨by rw [HE.out]; rfl, hd⟩
      | true =>
        by_cases hkn : k = n
        · have heq : ((k : Int) == (n : Int)) = true := by rw [nat_eqB, hkn]; simp
          have HD : Hid ((true && decide (k = n) && (decide (0 ≤ c) && decide (c ≤ 10))) = (decide (0 ≤ c) && decide (c ≤ 10))) := Lib.hid (by rw [decide_eq_true hkn]; rfl)
          clear hkn
          go_wp2_with fail
          refine (show Calls _ _ _ _ _ from C1.out).mono ?_
          rintro e W ⟨rfl, hd⟩
          go_wp2_with fail
          refine (show Calls _ _ _ _ _ from CI.out W).mono ?_
          rintro e W2 ⟨rfl, rfl⟩
          go_wp2
          go_ret
          exact ⟨by rw [HE.out, HD.out]; rfl, hd⟩
        · have heq : ((k : Int) == (n : Int)) = false := by rw [nat_eqB]; simp [hkn]
          have HD : Hid ((true && decide (k = n) && (decide (0 ≤ c) && decide (c ≤ 10))) = false) := Lib.hid (by rw [decide_eq_false hkn]; rfl)
          clear hkn
          go_wp2_with fail
          refine (show Calls _ _ _ _ _ from C1.out).mono ?_
          rintro e W ⟨rfl, hd⟩
          go_wp2
          go_ret
          exact ⟨by rw [HE.out, HD.out]; rfl, hd⟩

set_option maxRecDepth 16000 in
set_option maxHeartbeats 1500000 in
theorem specHubCost_any (T Q : Tab) (s : Row) (c : Int) (w : World) (hT : T.At w) (hQ : Q.At w) (hs : s.At w) (v : Int) (b : Bool) (hv : CostIs T.con Q.con s.l c v b) :
    Calls Try.prog 24 #[.slice T.a T.R.length T.c, .slice Q.a Q.R.length Q.c, .slice s.a s.l.length s.c, .int .i64 c] w (PInt v b w) := by
  obtain ⟨g, hg⟩ : ∃ g, g = netB T.con Q.con c := ⟨_, rfl⟩
  obtain ⟨u, hu⟩ : ∃ u, u = hubB T.con.length s.l := ⟨_, rfl⟩
  have C1 := Lib.hid (by have := l11Flows_any T Q c w hT hQ; rw [← hg] at this; exact this)
  have C2 := Lib.hid (fun W (hb : DrewTo w W) => (by have := l11Hubs_any T s W (hT.on hb.below) (hs.on hb.below); rw [show hubB T.R.length s.l = u by rw [hu, con_length]] at this; exact this : Calls Try.prog 43 #[.slice T.a T.R.length T.c, .slice s.a s.l.length s.c] W fun e w' => e = .returned (.bool u) ∧ DrewTo W w'))
  have HNO : Hid ((g && u) = false → v = 0 ∧ b = false) := Lib.hid fun h => by
    rcases hv with ⟨_, h1, h2⟩ | ⟨h1, _⟩
    · exact ⟨h1, h2⟩
    · rw [← hg, ← hu, h] at h1; cases h1
  have HT := Lib.hid hT
  have HQ := Lib.hid hQ
  have HS := Lib.hid hs
  have HYES : Hid ((g && u) = true → b = true ∧ Net T.con Q.con c ∧ ∃ H : List Nat, HubL T.R.length s H ∧ v = totH T.con Q.con H c T.R.length T.R.length) := Lib.hid fun h => by
    rcases hv with ⟨h1, _⟩ | ⟨_, h2, H, h3, h4, h5, h6⟩
    · rw [← hg, ← hu, h] at h1; cases h1
    · rw [Bool.and_eq_true, hg] at h
      rw [con_length] at h4 h6
      exact ⟨h2, netB_iff h.1, H, ⟨h3, h4, by rw [← con_length]; exact h5⟩, h6⟩
  clear hT hQ hs hg hu hv
  show Calls _ _ _ _ fun e w' => e = .returned (.tuple #[.int .i64 v, .bool b]) ∧ Below w.heap.size w w'
  cases g with
  | false =>
    obtain ⟨rfl, rfl⟩ := HNO.out rfl
    clear HNO HYES
    go_enter Try.func24, Try.ntmps24
    go_wp2_with fail
    refine (show Calls _ _ _ _ _ from C1.out).mono ?_
    rintro e W ⟨rfl, hd⟩
    go_wp2
    go_ret2
    exact ⟨rfl, hd.below⟩
  | true =>
    cases u with
    | false =>
      obtain ⟨rfl, rfl⟩ := HNO.out rfl
      clear HNO HYES
      go_enter Try.func24, Try.ntmps24
      go_wp2_with fail
      refine (show Calls _ _ _ _ _ from C1.out).mono ?_
      rintro e W ⟨rfl, hd⟩
      go_wp2_with fail
      refine (show Calls _ _ _ _ _ from C2.out W hd).mono ?_
      rintro e W2 ⟨rfl, hd2⟩
      go_wp2
      go_ret2
      exact ⟨rfl, hd.below.trans (hd2.below.mono hd.below.size)⟩
    | true =>
      obtain ⟨hbt, hn, H, hh, hvT⟩ := HYES.out rfl
      subst hbt
      have CV := Lib.hid (fun W (hb : Below w.heap.size w W) => (by have := l11Cost_any T Q s H c W (HT.out.on hb) (HQ.out.on hb) (HS.out.on hb) hn hh; rw [← hvT] at this; exact this : Calls Try.prog 47 #[.slice T.a T.R.length T.c, .slice Q.a Q.R.length Q.c, .slice s.a s.l.length s.c, .int .i64 c] W fun e w' => e = .returned (.int .i64 v) ∧ DrewTo W w'))
      clear HNO HYES hn hh hvT
      go_enter Try.func24, Try.ntmps24
      go_wp2_with fail
      refine (show Calls _ _ _ _ _ from C1.out).mono ?_
      rintro e W ⟨rfl, hd⟩
      go_wp2_with fail
      refine (show Calls _ _ _ _ _ from C2.out W hd).mono ?_
      rintro e W2 ⟨rfl, hd2⟩
      have hb2 := hd.below.trans (hd2.below.mono hd.below.size)
      go_wp2_with fail
      refine (show Calls _ _ _ _ _ from CV.out W2 hb2).mono ?_
      rintro e W3 ⟨rfl, hd3⟩
      go_wp2
      go_ret2
      exact ⟨rfl, hb2.trans (hd3.below.mono hb2.size)⟩

theorem hubCost_pair {X : Prop} (T Q : Tab) (s : Row) (c : Int) (_ : X) (_ : s.l.length ≤ 1048576) (_ : T.Small) (_ : Q.Small) : ∃ (v : Int) (b : Bool),
    (∀ (t : Row) (T' Q' : Tab) (W : World), t.At W → T'.At W → Q'.At W → t.l = s.l → T'.con = T.con → Q'.con = Q.con → Calls Try.prog 24 #[.slice T'.a T'.R.length T'.c, .slice Q'.a Q'.R.length Q'.c, .slice t.a t.l.length t.c, .int .i64 c] W (PInt v b W)) ∧
    (∀ (t : Row) (T' Q' : Tab) (W : World), t.At W → T'.At W → Q'.At W → t.l = s.l → T'.con = T.con → Q'.con = Q.con → Calls Try.prog 25 #[.slice T'.a T'.R.length T'.c, .slice Q'.a Q'.R.length Q'.c, .slice t.a t.l.length t.c, .int .i64 c] W (PInt v b W)) := by
  obtain ⟨v, b, h⟩ := costIs_some T.con Q.con s.l c
  exact ⟨v, b, fun t T' Q' W ht hT hQ h1 h2 h3 => specHubCost_any T' Q' t c W hT hQ ht v b (by rw [h1, h2, h3]; exact h), fun t T' Q' W ht hT hQ h1 h2 h3 => implHubCost_any T' Q' t c W hT hQ ht v b (by rw [h1, h2, h3]; exact h)⟩
end Go.Proofs.Ytmbgipllkbahpaa
