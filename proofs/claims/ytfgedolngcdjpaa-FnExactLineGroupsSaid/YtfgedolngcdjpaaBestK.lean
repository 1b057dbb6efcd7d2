/- The contract of the model's median. Condition: a valid Field. -/
import Derived.Test.YtfgedolngcdjpaaPlainLeast
import Derived.Test.YtfgedolngcdjpaaSetsOf
namespace Go.Proofs.Ytfgedolngcdjpaa
open Go.RowKit

/-- The service of a set of sites. -/
def servT (F : Fld) (T : List Nat) : Int := (lens F.t.con T).sum
theorem servT_bounds {F : Fld} (h : F.good = true) (T : List Nat) : 0 ≤ servT F T ∧ servT F T ≤ 693 := by
  have h1 := sum_bound (lens_bound h T)
  rw [lens_length] at h1
  have := good_sizes h
  unfold servT; omega
theorem l2Serve_servT (F : Fld) (t : Row) (T : List Nat) (u : World) (hF : F.At u) (ht : t.At u) (hg : F.good = true) (htl : t.l = up T) (h0 : T ≠ []) (hlt : ∀ m ∈ T, m < F.o.l.length) :
    Calls Try.prog 38 #[F.val, .slice t.a t.l.length t.c] u fun e w' => e = .returned (.int .i64 (servT F T)) ∧ Below u.heap.size u w' :=
  l2Serve_any F t T u hF ht ⟨hg, htl, List.length_pos_iff.2 h0, hlt⟩

/-- The best row so far. -/
structure Best1 (B : Nat) (w : World) (y : Row) (T : List Nat) : Prop where
  l : y.l = up T
  own : y.Own 3 w
  ins : y.In B w.heap.size w
theorem Best1.on {B : Nat} {w w' : World} {y : Row} {T : List Nat} (h : Best1 B w y T) (t : Below w.heap.size w w') : Best1 B w' y T := ⟨h.l, h.own.on t, (h.ins.on t).wide (Nat.le_refl _) t.size⟩

set_option maxRecDepth 32000 in
set_option maxHeartbeats 2000000 in
theorem l4Best_any (F : Fld) (k : Nat) (w : World) (hF : F.At w) (hg : F.good = true) (h1 : 1 ≤ k) (hk : k ≤ F.o.l.length) :
    Calls Try.prog 29 #[F.val, .int .i64 k] w fun e w' => ∃ y : Row, e = .returned (.slice y.a y.l.length y.c) ∧ Best1 w.heap.size w' y (bestK (servT F) F.o.l.length k) ∧ Below w.heap.size w w' := by
  obtain ⟨wA, hA, hbA, bx, hFA, hszA⟩ := laid_fld F w 37 hF
  have hsz := good_sizes hg
  have HFA := Lib.hid hFA
  have HBX := Lib.hid bx
  have HA := Lib.hid hA
  have HG := Lib.hid hg
  obtain ⟨n, hn⟩ : ∃ n, n = F.o.l.length := ⟨_, rfl⟩
  have HN := Lib.hid hn
  have hn7 : n ≤ 7 := by omega
  have hni : (n : Int) ≤ 7 := by omega
  have hki : (k : Int) ≤ 7 := by omega
  have CS := Lib.hid (l2Sets_any n wA hn7)
  have x0 : wA.cell? ⟨w.heap.size, 0, none⟩ = some (.slice F.o.a n F.o.c) := by rw [hn]; exact bx.c0
  rw [hA] at x0
  rw [← hn] at hk ⊢
  clear hF hA hFA bx hn hsz
  show Calls _ _ #[.agg #[F.o.val, F.t.val], _] w _
  go_enter Try.func29, Try.ntmps29
  go_wp2_with fail
  rw [show w.alloc (Obj.cells #[F.o.val, F.t.val] 37) = wA from HA.out.symm]
  refine CS.out.mono ?_
  rintro e W1 ⟨v, g, cap, Q, rfl, htab, hb1⟩
  obtain ⟨hgl, hcc, hcm, hwg⟩ := htab.lt
  obtain ⟨c, hc⟩ : ∃ c, c = 2 ^ n - 1 := ⟨_, rfl⟩
  rw [← hc] at htab hcc
  have hc7 : c ≤ 127 := by
    have : 2 ^ n ≤ 2 ^ 7 := Nat.pow_le_pow_right (by omega) hn7
    have h7 : (2 : Nat) ^ 7 = 128 := rfl
    omega
  obtain rfl := htab.val
  have HC := Lib.hid hc
  have HT := Lib.hid htab
  have HB1 := Lib.hid hb1
  have HL : Hid (∀ i, (hi : i < Q.length) → ∃ hi2 : i < (setsTo n c).length, Q[i].l = up (setsTo n c)[i] ∧ (setsTo n c)[i] ≠ [] ∧ ∀ m ∈ (setsTo n c)[i], m < F.o.l.length) := Lib.hid fun i hi => by
    have hi2 : i < (setsTo n c).length := by rw [setsTo_len, ← htab.len]; exact hi
    have hr := htab.row hi
    rw [List.getD_eq_getElem?_getD, List.getElem?_eq_getElem hi2] at hr
    have hmem : (setsTo n c)[i] ∈ allSets n := by
      have e := sets_all n hn7
      rw [← hc] at e
      rw [← e]; exact List.getElem_mem _
    have hgd := List.all_eq_true.1 (sets_good n hn7).1 _ hmem
    simp only [Bool.and_eq_true, decide_eq_true_eq, List.all_eq_true] at hgd
    exact ⟨hi2, hr, List.length_pos_iff.1 hgd.1, fun m hm => by rw [← HN.out]; exact hgd.2 m hm⟩
  have hci : (c : Int) ≤ 127 := by omega
  have hW1 := hb1.size
  have E0 := Lib.hid (empty_own W1)
  have B0 := Lib.hid (below_alloc W1 (.cells #[] 3))
  clear htab hb1 hc x0
  go_wp2
  go_loopw [6, 7] (fun yv i wr => ∃ (j : Nat) (y : Row), j ≤ c ∧ i = .int .i64 j ∧ yv = .slice y.a y.l.length y.c ∧ Best1 wA.heap.size wr y (firstK (servT F) k ((setsTo n c).take j)) ∧ Below W1.heap.size W1 wr) (fun _ i _ => c - (intOf i).toNat)
  case atStart =>
    obtain ⟨t, ht, htl, hto, hti⟩ := row_of_own E0.out
    refine ⟨0, t, Nat.zero_le _, rfl, ht, ⟨htl, hto, hti.wide hW1 (Nat.le_refl _)⟩, B0.out⟩
  case round =>
    obtain ⟨j, y, hj, rfl, rfl, hy, hnx⟩ := hrel
    have HY := Lib.hid hy
    have HNX := Lib.hid hnx
    have y0 := ((HBX.out.on HB1.out).on hnx).c0
    have y1 := ((HBX.out.on HB1.out).on hnx).c1
    by_cases hlt : j < c
    · have hlti : (j : Int) < (c : Int) := by omega
      have hjQ : j < Q.length := by have := HT.out.len; omega
      obtain ⟨hi2, hrl, hne, hml⟩ := HL.out j hjQ
      obtain ⟨r, hr⟩ : ∃ r, r = Q[j] := ⟨_, rfl⟩
      obtain ⟨T, hT⟩ : ∃ T, T = (setsTo n c)[j] := ⟨_, rfl⟩
      obtain ⟨U, hU⟩ : ∃ U, U = firstK (servT F) k ((setsTo n c).take j) := ⟨_, rfl⟩
      rw [← hr, ← hT] at hrl
      rw [← hT] at hne hml
      rw [← hU] at hy
      have hcl : wr.cell? ⟨g, j, none⟩ = some (.slice r.a r.l.length r.c) := (hnx.cell (p := ⟨g, j, none⟩) hgl).trans (by rw [hr]; exact HT.out.cell hjQ)
      have HRB : Hid (Best1 wA.heap.size wr r T) := Lib.hid ⟨hrl, by rw [hr]; exact (HT.out.grows.lots.1 _ (List.getElem_mem _)).on hnx, by rw [hr]; exact (((HT.out.grows.ins _ (List.getElem_mem _)).on hnx).wide (Nat.le_refl _) hnx.size)⟩
      have HST : Hid (firstK (servT F) k ((setsTo n c).take (j + 1)) = stepK (servT F) k U T) := Lib.hid (by rw [firstK_step _ _ _ hi2, ← hU, ← hT])
      have hrn : r.l.length = T.length := by rw [hrl, up_length]
      have hyn : y.l.length = U.length := by rw [hy.l, up_length]
      have HRN := Lib.hid hrn
      have HYN := Lib.hid hyn
      have HYB := Lib.hid hy
      have HNE := Lib.hid hne
      have HML := Lib.hid hml
      have HU := Lib.hid hU
      clear hr hT hU hrl hne hml hy hrn hyn
      have HY1 : Hid (∀ W8, Below wr.heap.size wr W8 → Below W1.heap.size W1 W8) := Lib.hid fun W8 h8 => HNX.out.trans (h8.mono HNX.out.size)
      by_cases hk1 : T.length = k
      · have hd1 : ((r.l.length : Int) == (k : Int)) = true := by rw [HRN.out, hk1]; simp
        by_cases hu0 : U = []
        · have hd3 : ((y.l.length : Int) == 0) = true := by rw [HYN.out, hu0]; rfl
          have HS : Hid (stepK (servT F) k U T = T) := Lib.hid (by unfold stepK stepB; rw [if_pos hk1, if_pos (.inl hu0)])
          clear hu0 hk1
          go_wp2
          have hd2 : decide ((r.l.length : Int) = (k : Int)) = true := by simpa using hd1
          have hd4 : decide ((y.l.length : Int) = 0) = true := by simpa using hd3
          go_quiet (fail)
          go_wp2
          go_roundw
          case rel => exact ⟨j + 1, r, by omega, by go_num, rfl, by rw [HST.out, HS.out]; exact HRB.out.on (below_draws _ _), HY1.out _ (below_draws _ _)⟩
          case measure => simp [intOf]; omega
        · have hd3 : ((y.l.length : Int) == 0) = false := by rw [HYN.out]; have := List.length_pos_iff.2 hu0; simp; omega
          obtain ⟨x, hx⟩ : ∃ x, x = servT F T := ⟨_, rfl⟩
          obtain ⟨z, hz⟩ : ∃ z, z = servT F U := ⟨_, rfl⟩
          have hUl : ∀ m ∈ U, m < F.o.l.length := by
            rcases firstK_mem (servT F) k ((setsTo n c).take j) [] with h | h
            · exact absurd (HU.out.trans h) hu0
            · have h2 : U ∈ setsTo n c := List.mem_of_mem_take (i := j) (by rw [HU.out]; exact h)
              obtain ⟨i, hi, he⟩ := List.mem_iff_getElem.1 h2
              have hiQ : i < Q.length := by rw [HT.out.len]; rw [setsTo_len] at hi; exact hi
              obtain ⟨_, _, _, h5⟩ := HL.out i hiQ
              rw [he] at h5; exact h5
          have C1 := Lib.hid (fun u (hu : Below wr.heap.size wr u) => by have := l2Serve_servT F r T u (((HFA.out.on HB1.out).on HNX.out).on hu) (HRB.out.on hu).ins.at HG.out HRB.out.l HNE.out HML.out; rw [← hx] at this; unfold Fld.val Row.val at this; rw [← HN.out] at this; exact this : ∀ u, Below wr.heap.size wr u → Calls Try.prog 38 #[.agg #[.slice F.o.a n F.o.c, F.t.val], .slice r.a r.l.length r.c] u fun e w' => e = .returned (.int .i64 x) ∧ Below u.heap.size u w')
          have C2 := Lib.hid (fun u (hu : Below wr.heap.size wr u) => by have := l2Serve_servT F y U u (((HFA.out.on HB1.out).on HNX.out).on hu) (HYB.out.on hu).ins.at HG.out HYB.out.l hu0 hUl; rw [← hz] at this; unfold Fld.val Row.val at this; rw [← HN.out] at this; exact this : ∀ u, Below wr.heap.size wr u → Calls Try.prog 38 #[.agg #[.slice F.o.a n F.o.c, F.t.val], .slice y.a y.l.length y.c] u fun e w' => e = .returned (.int .i64 z) ∧ Below u.heap.size u w')
          have HX := Lib.hid hx
          have HZ := Lib.hid hz
          have y0' : wr.cell? ⟨w.heap.size, 0, none⟩ = some (.slice F.o.a n F.o.c) := by rw [HN.out]; exact y0
          have HS : Hid (∀ u, Below wr.heap.size wr u → ((u.cell? ⟨g, j, none⟩ = some (.slice r.a r.l.length r.c) ∧ u.cell? ⟨w.heap.size, 0, none⟩ = some (.slice F.o.a n F.o.c) ∧ u.cell? ⟨w.heap.size, 1, none⟩ = some F.t.val) ∧ Below wr.heap.size wr u)) := Lib.hid fun u hu => ⟨⟨(hu.cell (p := ⟨g, j, none⟩) (Nat.lt_of_lt_of_le hgl HNX.out.size)).trans hcl, (hu.cell (p := ⟨w.heap.size, 0, none⟩) ((HBX.out.on HB1.out).on HNX.out).lt).trans y0', (hu.cell (p := ⟨w.heap.size, 1, none⟩) ((HBX.out.on HB1.out).on HNX.out).lt).trans y1⟩, hu⟩
          have s0 := HS.out wr.drew (Below.refl _ _).drew
          have HU0 := Lib.hid hu0
          have HK1 := Lib.hid hk1
          clear y0 hx hz hu0 hk1 hUl
          go_wp2_with fail
          have hd2 : decide ((r.l.length : Int) = (k : Int)) = true := by simpa using hd1
          have hd4 : decide ((y.l.length : Int) = 0) = false := by simpa using hd3
          go_region_held3 (fun u => ((u.cell? ⟨g, j, none⟩ = some (.slice r.a r.l.length r.c) ∧ u.cell? ⟨w.heap.size, 0, none⟩ = some (.slice F.o.a n F.o.c) ∧ u.cell? ⟨w.heap.size, 1, none⟩ = some F.t.val) ∧ Below wr.heap.size wr u)) (first | exact s0 | exact keep_reg HS.out (by first | assumption | exact And.right (by assumption)) hb1) (first | (go_at_call 38; (fail_if_success clear hb1); refine (show Calls _ _ _ _ _ from C1.out _ (by first | assumption | exact And.right (by assumption))).mono ?_; rintro e u1 ⟨rfl, hb1⟩) | (go_at_call 38; refine (show Calls _ _ _ _ _ from C2.out _ (by first | assumption | exact And.right (by assumption))).mono ?_; rintro e u1 ⟨rfl, hb1⟩))
          refine at_exit (W := wr) (by first | assumption | exact And.right (by assumption)) ?_
          intro W8 hb8
          have hc8 : W8.cell? ⟨g, j, none⟩ = some (.slice r.a r.l.length r.c) := (HS.out W8 hb8).1.1
          have HB8 := Lib.hid hb8
          clear s0 hb8 hcl y0' y1
          by_cases hxz : x < z
          · have HSS : Hid (stepK (servT F) k U T = T) := Lib.hid (by unfold stepK stepB; rw [if_pos HK1.out, if_pos (.inr (by rw [← HX.out, ← HZ.out]; exact hxz))])
            go_wp2
            go_roundw
            case rel => exact ⟨j + 1, r, by omega, by go_num, rfl, by rw [HST.out, HSS.out]; exact HRB.out.on HB8.out, HY1.out _ HB8.out⟩
            case measure => simp [intOf]; omega
          · have HSS : Hid (stepK (servT F) k U T = U) := Lib.hid (by unfold stepK stepB; rw [if_pos HK1.out, if_neg (fun h => h.elim HU0.out (fun h => hxz (by rw [HX.out, HZ.out]; exact h)))])
            go_wp2
            go_roundw
            case rel => exact ⟨j + 1, y, by omega, by go_num, rfl, by rw [HST.out, HSS.out]; exact HYB.out.on HB8.out, HY1.out _ HB8.out⟩
            case measure => simp [intOf]; omega
      · have hd1 : ((r.l.length : Int) == (k : Int)) = false := by rw [HRN.out]; simp; omega
        have HS : Hid (stepK (servT F) k U T = U) := Lib.hid (by unfold stepK; rw [if_neg hk1])
        clear hk1
        go_wp2
        have hd2 : decide ((r.l.length : Int) = (k : Int)) = false := by simpa using hd1
        go_quiet (fail)
        go_wp2
        go_roundw
        case rel => exact ⟨j + 1, y, by omega, by go_num, rfl, by rw [HST.out, HS.out]; exact HYB.out.on (below_draws _ _), HY1.out _ (below_draws _ _)⟩
        case measure => simp [intOf]; omega
    · obtain rfl : j = c := by omega
      have HE := Lib.hid (show firstK (servT F) k ((setsTo n j).take j) = bestK (servT F) n k by rw [List.take_of_length_le (by rw [setsTo_len]; exact Nat.le_refl _), HC.out]; exact bestK_model _ hn7 h1 hk)
      go_wp2
      go_ret
      exact ⟨y, rfl, by have := HY.out; rw [HE.out] at this; exact ⟨this.l, this.own, this.ins.wide hbA.size (Nat.le_refl _)⟩, hbA.trans ((HB1.out.trans (hnx.mono HB1.out.size)).mono hbA.size)⟩
end Go.Proofs.Ytfgedolngcdjpaa
