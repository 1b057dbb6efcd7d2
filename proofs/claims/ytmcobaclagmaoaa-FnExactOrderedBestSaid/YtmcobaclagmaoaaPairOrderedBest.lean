/- OrderedBest on both sides, as its law wants it. No condition. -/
import Derived.Test.YtmcobaclagmaoaaOBestI
namespace Go.Proofs.Ytmcobaclagmaoaa
open Go.RowKit Go.Shelf

set_option maxRecDepth 32000 in
set_option maxHeartbeats 2000000 in
theorem specOBest_any (F : Fld) (kk : Int) (p : Row) (w : World) (hF : F.At w) (hp : p.At w) (l : List Int) (b : Bool) (hv : OBest F kk p.l l b) :
    Calls Try.prog 15 #[F.val, .int .i64 kk, .slice p.a p.l.length p.c] w (PInts l b w) := by
  obtain ⟨w0, hw0, hb0, bx0, hF0, hsz0⟩ := laid_fld F w 29 hF
  obtain ⟨wA, hA0⟩ : ∃ u, u = w0.alloc (.cells #[] 3) := ⟨_, rfl⟩
  have hb1 : Below w0.heap.size w0 wA := by rw [hA0]; exact below_alloc _ _
  have hbA : Below w.heap.size w wA := hb0.trans (hb1.mono hb0.size)
  have E0 := Lib.hid (show wA.ownsRow (w.heap.size + 1) 3 1 (.slice (some ⟨w.heap.size + 1, 0, none⟩) 0 0) 0 (iv []) by rw [hA0, ← hsz0]; exact empty_own w0)
  have HA : Hid (wA = (w.alloc (Obj.cells #[.slice F.o.a F.o.l.length F.o.c, .slice F.t.a F.t.R.length F.t.c] 29)).alloc (.cells #[] 3)) := Lib.hid (by rw [hA0, hw0]; rfl)
  have bx := bx0.on hb1
  have hFA := hF0.on hb1
  have hpA := (hp.on hb0).on hb1
  obtain ⟨g, hg⟩ : ∃ g, g = kB F kk := ⟨_, rfl⟩
  obtain ⟨u, hu⟩ : ∃ u, u = rowB F.t.R.length p.l := ⟨_, rfl⟩
  have HFA := Lib.hid hFA
  have HPA := Lib.hid hpA
  have HBX := Lib.hid bx
  have CT := Lib.hid (show Calls Try.prog 33 #[.agg #[.slice F.o.a F.o.l.length F.o.c, .slice F.t.a F.t.R.length F.t.c], .int .i64 kk] wA fun e w' => e = .returned (.bool g) ∧ Below wA.heap.size wA w' from by have := l4K_any F kk wA hFA; rw [← hg] at this; exact this)
  have C3 := Lib.hid (fun W (hb : Below wA.heap.size wA W) => (by have := l2Row_any p F.t.R.length W (HPA.out.on hb); rw [← hu] at this; exact this : Calls Try.prog 29 #[.slice p.a p.l.length p.c, .int .i64 (F.t.R.length : Int), .int .i64 99] W fun e w' => e = .returned (.bool u) ∧ w' = W))
  have HNO : Hid ((g && u) = false → l = [] ∧ b = false) := Lib.hid fun h => by
    rcases hv with ⟨_, h1, h2⟩ | ⟨h1, _⟩
    · exact ⟨h1, h2⟩
    · rw [← hg, ← hu, h] at h1; cases h1
  have HYES : Hid ((g && u) = true → b = true ∧ l = up (bestK (ordT F p.l) F.o.l.length kk.toNat) ∧ kB F kk = true ∧ rowB F.t.R.length p.l = true) := Lib.hid fun h => by
    rcases hv with ⟨h1, _⟩ | ⟨_, h2, h3⟩
    · rw [← hg, ← hu, h] at h1; cases h1
    · rw [hg, hu, Bool.and_eq_true] at h; exact ⟨h2, h3, h.1, h.2⟩
  have x0 : wA.cell? ⟨w.heap.size, 0, none⟩ = some (.slice F.o.a F.o.l.length F.o.c) := bx.c0
  have x1 : wA.cell? ⟨w.heap.size, 1, none⟩ = some (.slice F.t.a F.t.R.length F.t.c) := bx.c1
  rw [HA.out] at x0 x1
  clear hF hp hw0 hb0 bx0 hF0 hsz0 hA0 hb1 bx hFA hpA hg hu hv
  show Calls _ _ #[.agg #[.slice F.o.a F.o.l.length F.o.c, .slice F.t.a F.t.R.length F.t.c], _, _] w _
  cases g with
  | false =>
    obtain ⟨rfl, rfl⟩ := HNO.out rfl
    clear HNO HYES
    go_enter Try.func15, Try.ntmps15
    go_wp2_with fail
    rw [← HA.out]
    refine (show Calls _ _ _ _ _ from CT.out).mono ?_
    rintro e W1 ⟨rfl, hb1⟩
    have HE1 := Lib.hid (owns_below E0.out hb1)
    have HB := Lib.hid (hbA.trans (hb1.mono hbA.size))
    clear hb1 x0 x1
    go_wp2
    go_ret2
    obtain ⟨t, ht, htl, hto, hti⟩ := row_of_own HE1.out
    exact ⟨t, congrArg (fun v => Ending.returned (.tuple #[v, .bool false])) ht, htl, hto, hti.wide (by omega) (Nat.le_refl _), HB.out⟩
  | true =>
    cases u with
    | false =>
      obtain ⟨rfl, rfl⟩ := HNO.out rfl
      clear HNO HYES
      go_enter Try.func15, Try.ntmps15
      go_wp2_with fail
      rw [← HA.out]
      refine (show Calls _ _ _ _ _ from CT.out).mono ?_
      rintro e W1 ⟨rfl, hb1⟩
      clear x0 x1
      have y1 : W1.cell? ⟨w.heap.size, 1, none⟩ = some (.slice F.t.a F.t.R.length F.t.c) := (HBX.out.on hb1).c1
      have HE1 := Lib.hid (owns_below E0.out hb1)
      have HB := Lib.hid (hbA.trans (hb1.mono hbA.size))
      go_wp2_with fail
      refine (show Calls _ _ _ _ _ from C3.out W1 hb1).mono ?_
      rintro e W2 ⟨rfl, rfl⟩
      clear y1 hb1
      go_wp2
      go_ret2
      obtain ⟨t, ht, htl, hto, hti⟩ := row_of_own HE1.out
      exact ⟨t, congrArg (fun v => Ending.returned (.tuple #[v, .bool false])) ht, htl, hto, hti.wide (by omega) (Nat.le_refl _), HB.out⟩
    | true =>
      obtain ⟨rfl, rfl, hkb, hrb⟩ := HYES.out rfl
      obtain ⟨hgood, k, rfl, h1, hk⟩ := kB_nat hkb
      have hsz := good_sizes hgood
      have hr2 := rowB_iffO hrb
      have hrx : ∀ x ∈ p.l, 0 ≤ x ∧ x ≤ 99 := fun x hx => upTo_iff.1 (List.all_eq_true.1 hr2.1 x hx)
      obtain ⟨n, hn⟩ : ∃ n, n = F.o.l.length := ⟨_, rfl⟩
      have HN := Lib.hid hn
      have hn7 : n ≤ 7 := by omega
      have hni : (n : Int) ≤ 7 := by omega
      have hki : (k : Int) ≤ 7 := by omega
      have HG := Lib.hid hgood
      have HPN := Lib.hid hr2.2
      have HPX := Lib.hid hrx
      obtain ⟨φ, hφ⟩ : ∃ φ, φ = ordT F p.l := ⟨_, rfl⟩
      have HPHI := Lib.hid hφ
      have HRES : Hid (up (bestK (ordT F p.l) F.o.l.length ((k : Nat) : Int).toNat) = up (bestK φ n k)) := Lib.hid (by rw [Int.toNat_natCast, hn, hφ])
      rw [HRES.out]
      rw [← hn] at hk x0 ⊢
      have CT1 := Lib.hid (by have := CT.out; rw [← hn] at this; exact this)
      have HA1 := Lib.hid (by have := HA.out; rw [← hn] at this; exact this)
      rw [← hn] at x1
      clear HNO HYES hkb hrb hgood hsz hr2 hrx hn hφ CT
      go_enter Try.func15, Try.ntmps15
      go_wp2_with fail
      rw [← HA1.out]
      refine (show Calls _ _ _ _ _ from CT1.out).mono ?_
      rintro e V ⟨rfl, hbV⟩
      clear x0 x1
      have y1 : V.cell? ⟨w.heap.size, 1, none⟩ = some (.slice F.t.a F.t.R.length F.t.c) := (HBX.out.on hbV).c1
      have HV := Lib.hid hbV
      have EV := Lib.hid (owns_below E0.out hbV)
      go_wp2_with fail
      refine (show Calls _ _ _ _ _ from C3.out V hbV).mono ?_
      rintro e V2 ⟨rfl, rfl⟩
      have CS := Lib.hid (l2Sets_any n V2 hn7)
      have y0 : V2.cell? ⟨w.heap.size, 0, none⟩ = some (.slice F.o.a n F.o.c) := by rw [HN.out]; exact (HBX.out.on hbV).c0
      clear y1 hbV
      go_wp2_with fail
      refine CS.out.mono ?_
      rintro e W1 ⟨v, g, cap, Q, rfl, htab, hb1⟩
      obtain ⟨hgl, hcc, hcm, hwg⟩ := htab.lt
      obtain ⟨c, hc⟩ : ∃ c, c = 2 ^ n - 1 := ⟨_, rfl⟩
      rw [← hc] at htab hcc
      have hc7 : c ≤ 127 := by
        have : 2 ^ n ≤ 2 ^ 7 := Nat.pow_le_pow_right (by omega) hn7
        have h7 : (2 : Nat) ^ 7 = 128 := rfl
        omega
      obtain rfl := htab.val
      have HC := Lib.hid hc
      have HT := Lib.hid htab
      have HB1 := Lib.hid (HV.out.trans (hb1.mono HV.out.size))
      have HL : Hid (∀ i, (hi : i < Q.length) → ∃ hi2 : i < (setsTo n c).length, Q[i].l = up (setsTo n c)[i] ∧ (setsTo n c)[i] ≠ [] ∧ ∀ m ∈ (setsTo n c)[i], m < F.o.l.length) := Lib.hid fun i hi => by
        have hi2 : i < (setsTo n c).length := by rw [setsTo_len, ← htab.len]; exact hi
        have hr := htab.row hi
        rw [List.getD_eq_getElem?_getD, List.getElem?_eq_getElem hi2] at hr
        have hmem : (setsTo n c)[i] ∈ allSets n := by
          have e := sets_all n hn7
          rw [← hc] at e
          rw [← e]; exact List.getElem_mem _
        have hgd := List.all_eq_true.1 (sets_good n hn7).1 _ hmem
        simp only [Bool.and_eq_true, decide_eq_true_eq, List.all_eq_true] at hgd
        exact ⟨hi2, hr, List.length_pos_iff.1 hgd.1, fun m hm => by rw [← HN.out]; exact hgd.2 m hm⟩
      have hci : (c : Int) ≤ 127 := by omega
      have hW1 := hb1.size
      have hVs := HV.out.size
      have hAs := hbA.size
      have E1 := Lib.hid (owns_below EV.out hb1)
      clear htab hb1 hc y0
      go_wp2
      go_loopw [8, 10] (fun yv i wr => ∃ (j : Nat) (y : Row), j ≤ c ∧ i = .int .i64 j ∧ yv = .slice y.a y.l.length y.c ∧ Best1 w.heap.size wr y (firstK φ k ((setsTo n c).take j)) ∧ Below W1.heap.size W1 wr) (fun _ i _ => c - (intOf i).toNat)
      case atStart =>
        obtain ⟨t, ht, htl, hto, hti⟩ := row_of_own E1.out
        exact ⟨0, t, Nat.zero_le _, rfl, ht, ⟨htl, hto, hti.wide (by omega) (Nat.le_refl _)⟩, Below.refl _ _⟩
      case round =>
        obtain ⟨j, y, hj, rfl, rfl, hy, hnx⟩ := hrel
        have HY := Lib.hid hy
        have HNX := Lib.hid hnx
        have y0 := ((HBX.out.on HB1.out).on hnx).c0
        have y1 := ((HBX.out.on HB1.out).on hnx).c1
        by_cases hlt : j < c
        · have hlti : (j : Int) < (c : Int) := by omega
          have hjQ : j < Q.length := by have := HT.out.len; omega
          obtain ⟨hi2, hrl, hne, hml⟩ := HL.out j hjQ
          obtain ⟨r, hr⟩ : ∃ r, r = Q[j] := ⟨_, rfl⟩
          obtain ⟨T, hT⟩ : ∃ T, T = (setsTo n c)[j] := ⟨_, rfl⟩
          obtain ⟨U, hU⟩ : ∃ U, U = firstK φ k ((setsTo n c).take j) := ⟨_, rfl⟩
          rw [← hr, ← hT] at hrl
          rw [← hT] at hne hml
          rw [← hU] at hy
          have hcl : wr.cell? ⟨g, j, none⟩ = some (.slice r.a r.l.length r.c) := (hnx.cell (p := ⟨g, j, none⟩) hgl).trans (by rw [hr]; exact HT.out.cell hjQ)
          have HRB : Hid (Best1 w.heap.size wr r T) := Lib.hid ⟨hrl, by rw [hr]; exact (HT.out.grows.lots.1 _ (List.getElem_mem _)).on hnx, by rw [hr]; exact (((HT.out.grows.ins _ (List.getElem_mem _)).on hnx).wide (by omega) hnx.size)⟩
          have HST : Hid (firstK φ k ((setsTo n c).take (j + 1)) = stepK φ k U T) := Lib.hid (by rw [firstK_step _ _ _ hi2, ← hU, ← hT])
          have hrn : r.l.length = T.length := by rw [hrl, up_length]
          have hyn : y.l.length = U.length := by rw [hy.l, up_length]
          have HRN := Lib.hid hrn
          have HYN := Lib.hid hyn
          have HYB := Lib.hid hy
          have HNE := Lib.hid hne
          have HML := Lib.hid hml
          have HU := Lib.hid hU
          clear hr hT hU hrl hne hml hy hrn hyn
          have HY1 : Hid (∀ W8, Below wr.heap.size wr W8 → Below W1.heap.size W1 W8) := Lib.hid fun W8 h8 => HNX.out.trans (h8.mono HNX.out.size)
          by_cases hk1 : T.length = k
          · have hd1 : ((r.l.length : Int) == (k : Int)) = true := by rw [HRN.out, hk1]; simp
            by_cases hu0 : U = []
            · have hd3 : ((y.l.length : Int) == 0) = true := by rw [HYN.out, hu0]; rfl
              have HS : Hid (stepK φ k U T = T) := Lib.hid (by unfold stepK stepB; rw [if_pos hk1, if_pos (.inl hu0)])
              clear hu0 hk1
              go_wp2
              have hd2 : decide ((r.l.length : Int) = (k : Int)) = true := by simpa using hd1
              have hd4 : decide ((y.l.length : Int) = 0) = true := by simpa using hd3
              go_quiet (fail)
              go_wp2
              go_roundw
              case rel => exact ⟨j + 1, r, by omega, by go_num, rfl, by rw [HST.out, HS.out]; exact HRB.out.on (below_draws _ _), HY1.out _ (below_draws _ _)⟩
              case measure => simp [intOf]; omega
            · have hd3 : ((y.l.length : Int) == 0) = false := by rw [HYN.out]; have := List.length_pos_iff.2 hu0; simp; omega
              obtain ⟨x, hx⟩ : ∃ x, x = φ T := ⟨_, rfl⟩
              obtain ⟨z, hz⟩ : ∃ z, z = φ U := ⟨_, rfl⟩
              have hUl : ∀ m ∈ U, m < F.o.l.length := by
                rcases firstK_mem φ k ((setsTo n c).take j) [] with h | h
                · exact absurd (HU.out.trans h) hu0
                · have h2 : U ∈ setsTo n c := List.mem_of_mem_take (i := j) (by rw [HU.out]; exact h)
                  obtain ⟨i, hi, he⟩ := List.mem_iff_getElem.1 h2
                  have hiQ : i < Q.length := by rw [HT.out.len]; rw [setsTo_len] at hi; exact hi
                  obtain ⟨_, _, _, h5⟩ := HL.out i hiQ
                  rw [he] at h5; exact h5
              have C1 := Lib.hid (fun u (hu : Below wr.heap.size wr u) => (by have := l11Ordered_any F r p T u (((HFA.out.on HB1.out).on HNX.out).on hu) (HRB.out.on hu).ins.at (((HPA.out.on HB1.out).on HNX.out).on hu) ⟨HG.out, HRB.out.l, List.length_pos_iff.2 HNE.out, HML.out⟩ HPN.out HPX.out; rw [← HPHI.out, ← hx, ← HN.out] at this; exact this : Calls Try.prog 30 #[.agg #[.slice F.o.a n F.o.c, .slice F.t.a F.t.R.length F.t.c], .slice r.a r.l.length r.c, .slice p.a p.l.length p.c] u fun e w' => e = .returned (.int .i64 x) ∧ Below u.heap.size u w'))
              have C2 := Lib.hid (fun u (hu : Below wr.heap.size wr u) => (by have := l11Ordered_any F y p U u (((HFA.out.on HB1.out).on HNX.out).on hu) (HYB.out.on hu).ins.at (((HPA.out.on HB1.out).on HNX.out).on hu) ⟨HG.out, HYB.out.l, List.length_pos_iff.2 hu0, hUl⟩ HPN.out HPX.out; rw [← HPHI.out, ← hz, ← HN.out] at this; exact this : Calls Try.prog 30 #[.agg #[.slice F.o.a n F.o.c, .slice F.t.a F.t.R.length F.t.c], .slice y.a y.l.length y.c, .slice p.a p.l.length p.c] u fun e w' => e = .returned (.int .i64 z) ∧ Below u.heap.size u w'))
              have HX := Lib.hid hx
              have HZ := Lib.hid hz
              have y0' : wr.cell? ⟨w.heap.size, 0, none⟩ = some (.slice F.o.a n F.o.c) := by rw [HN.out]; exact y0
              have y1' : wr.cell? ⟨w.heap.size, 1, none⟩ = some (.slice F.t.a F.t.R.length F.t.c) := y1
              have HS : Hid (∀ u, Below wr.heap.size wr u → ((u.cell? ⟨g, j, none⟩ = some (.slice r.a r.l.length r.c) ∧ u.cell? ⟨w.heap.size, 0, none⟩ = some (.slice F.o.a n F.o.c) ∧ u.cell? ⟨w.heap.size, 1, none⟩ = some (.slice F.t.a F.t.R.length F.t.c)) ∧ Below wr.heap.size wr u)) := Lib.hid fun u hu => ⟨⟨(hu.cell (p := ⟨g, j, none⟩) (Nat.lt_of_lt_of_le hgl HNX.out.size)).trans hcl, (hu.cell (p := ⟨w.heap.size, 0, none⟩) ((HBX.out.on HB1.out).on HNX.out).lt).trans y0', (hu.cell (p := ⟨w.heap.size, 1, none⟩) ((HBX.out.on HB1.out).on HNX.out).lt).trans y1'⟩, hu⟩
              have s0 := HS.out wr.drew (Below.refl _ _).drew
              have HU0 := Lib.hid hu0
              have HK1 := Lib.hid hk1
              clear y0 y1 hx hz hu0 hk1 hUl
              go_wp2_with fail
              have hd2 : decide ((r.l.length : Int) = (k : Int)) = true := by simpa using hd1
              have hd4 : decide ((y.l.length : Int) = 0) = false := by simpa using hd3
              go_region_held3 (fun u => ((u.cell? ⟨g, j, none⟩ = some (.slice r.a r.l.length r.c) ∧ u.cell? ⟨w.heap.size, 0, none⟩ = some (.slice F.o.a n F.o.c) ∧ u.cell? ⟨w.heap.size, 1, none⟩ = some (.slice F.t.a F.t.R.length F.t.c)) ∧ Below wr.heap.size wr u)) (first | exact s0 | exact keep_reg HS.out (by first | assumption | exact And.right (by assumption)) hb1) (first | (go_at_call 30; (fail_if_success clear hb1); refine (show Calls _ _ _ _ _ from C1.out _ (by first | assumption | exact And.right (by assumption))).mono ?_; rintro e u1 ⟨rfl, hb1⟩) | (go_at_call 30; refine (show Calls _ _ _ _ _ from C2.out _ (by first | assumption | exact And.right (by assumption))).mono ?_; rintro e u1 ⟨rfl, hb1⟩))
              refine at_exit (W := wr) (by first | assumption | exact And.right (by assumption)) ?_
              intro W8 hb8
              have hc8 : W8.cell? ⟨g, j, none⟩ = some (.slice r.a r.l.length r.c) := (HS.out W8 hb8).1.1
              have HB8 := Lib.hid hb8
              clear s0 hb8 hcl y0' y1'
              by_cases hxz : x < z
              · have HSS : Hid (stepK φ k U T = T) := Lib.hid (by unfold stepK stepB; rw [if_pos HK1.out, if_pos (.inr (by rw [← HX.out, ← HZ.out]; exact hxz))])
                go_wp2
                go_roundw
                case rel => exact ⟨j + 1, r, by omega, by go_num, rfl, by rw [HST.out, HSS.out]; exact HRB.out.on HB8.out, HY1.out _ HB8.out⟩
                case measure => simp [intOf]; omega
              · have HSS : Hid (stepK φ k U T = U) := Lib.hid (by unfold stepK stepB; rw [if_pos HK1.out, if_neg (fun h => h.elim HU0.out (fun h => hxz (by rw [HX.out, HZ.out]; exact h)))])
                go_wp2
                go_roundw
                case rel => exact ⟨j + 1, y, by omega, by go_num, rfl, by rw [HST.out, HSS.out]; exact HYB.out.on HB8.out, HY1.out _ HB8.out⟩
                case measure => simp [intOf]; omega
          · have hd1 : ((r.l.length : Int) == (k : Int)) = false := by rw [HRN.out]; simp; omega
            have HS : Hid (stepK φ k U T = U) := Lib.hid (by unfold stepK; rw [if_neg hk1])
            clear hk1
            go_wp2
            have hd2 : decide ((r.l.length : Int) = (k : Int)) = false := by simpa using hd1
            go_quiet (fail)
            go_wp2
            go_roundw
            case rel => exact ⟨j + 1, y, by omega, by go_num, rfl, by rw [HST.out, HS.out]; exact HYB.out.on (below_draws _ _), HY1.out _ (below_draws _ _)⟩
            case measure => simp [intOf]; omega
        · obtain rfl : j = c := by omega
          have HE := Lib.hid (show firstK φ k ((setsTo n j).take j) = bestK φ n k by rw [List.take_of_length_le (by rw [setsTo_len]; exact Nat.le_refl _), HC.out]; exact bestK_model _ hn7 h1 hk)
          go_wp2
          go_ret2
          have hY := HY.out
          rw [HE.out] at hY
          exact ⟨y, rfl, hY.l, hY.own, hY.ins, hbA.trans ((HB1.out.trans (hnx.mono HB1.out.size)).mono hbA.size)⟩

theorem orderedBest_pair {X : Prop} (F : Fld) (k : Int) (p : Row) (_ : X) (_ : F.Small) (_ : p.l.length ≤ 1048576) : ∃ (l : List Int) (b : Bool) (_ : l.length ≤ 1048576),
    (∀ (G : Fld) (q : Row) (W : World), G.At W → q.At W → G.Like F → q.l = p.l → Calls Try.prog 15 #[G.val, .int .i64 k, .slice q.a q.l.length q.c] W (PInts l b W)) ∧
    (∀ (G : Fld) (q : Row) (W : World), G.At W → q.At W → G.Like F → q.l = p.l → Calls Try.prog 16 #[G.val, .int .i64 k, .slice q.a q.l.length q.c] W (PInts l b W)) := by
  obtain ⟨l, b, h, hl⟩ := oBest_some F k p.l
  exact ⟨l, b, hl, fun G q W hG hq h1 h2 => specOBest_any G k q W hG hq l b (by rw [h2]; exact oBest_like h h1), fun G q W hG hq h1 h2 => implOBest_any G k q W hG hq l b (by rw [h2]; exact oBest_like h h1)⟩
end Go.Proofs.Ytmcobaclagmaoaa
