/- The contracts of the model's best set and of its total. Condition: a valid Field. -/
import Derived.Test.YtfplcgakpildmaaBestK
import Derived.Test.YtfplcgakpildmaaPairTotalOf
namespace Go.Proofs.Ytfplcgakpildmaa
open Go.RowKit

/-- The total of a set of sites. -/
def totT (F : Fld) (T : List Nat) : Int := servT F T + (pays F.o.l T).sum
theorem totT_lt {F : Fld} (h : F.good = true) (T : List Nat) (hT : T.length ≤ 7) : totT F T < 9223372036854775807 := by
  have h1 := servT_bounds h T
  have h2 := sum_bound (pays_bound h T)
  have h3 : (pays F.o.l T).length = T.length := by unfold pays; simp
  unfold totT; omega
theorem totT_like {F G : Fld} (h : G.Like F) : totT G = totT F := by funext T; unfold totT servT; rw [h.1, h.2]
theorem sets_rise : ∀ n ≤ 7, (allSets n).all (fun T => setB n (up T) && decide (T.length ≤ 7)) = true := by decide +kernel
theorem sets_lead : ∀ n ≤ 7, (allSets n).all (fun T => decide (0 < T.length) && T.all (fun x => decide (x < n))) = true := fun n hn => (sets_good n hn).1
theorem all_ok {n : Nat} (hn : n ≤ 7) {T : List Nat} (hT : T ∈ allSets n) : T ≠ [] ∧ ((setB n (up T) = true ∧ ∀ m ∈ T, m < n) ∧ T.length ≤ 7) := by
  have h1 := List.all_eq_true.1 (sets_rise n hn) T hT
  have h2 := List.all_eq_true.1 (sets_lead n hn) T hT
  simp only [Bool.and_eq_true, decide_eq_true_eq, List.all_eq_true] at h1 h2
  exact ⟨List.length_pos_iff.1 h2.1, ⟨h1.1, h2.2⟩, h1.2⟩
theorem fine_all {F : Fld} {s : Row} {T : List Nat} (hg : F.good = true) (hs : s.l = up T) (h0 : T ≠ []) (hlt : ∀ m ∈ T, m < F.o.l.length) : Fine F s T := ⟨hg, hs, List.length_pos_iff.2 h0, hlt⟩
theorem totals_of {F : Fld} {s : Row} {T : List Nat} (hg : F.good = true) (hs : s.l = up T) (h0 : T ≠ []) (hr : setB F.o.l.length (up T) = true) (hlt : ∀ m ∈ T, m < F.o.l.length) (hlen : T.length ≤ 7) : Totals F s (totT F T) true :=
  .inr ⟨T, fine_all hg hs h0 hlt, ⟨hg, hs, hlt, by omega⟩, twoB_iff.2 ⟨hg, by rw [hs]; exact hr, by rw [hs, up_length]; exact List.length_pos_iff.2 h0⟩, rfl, rfl⟩
theorem l2Total_totT (F : Fld) (t : Row) (T : List Nat) (u : World) (hF : F.At u) (ht : t.At u) (hg : F.good = true) (htl : t.l = up T) (h0 : T ≠ []) (hlt : ∀ m ∈ T, m < F.o.l.length) (hlen : T.length ≤ 7) :
    Calls Try.prog 64 #[F.val, .slice t.a t.l.length t.c] u fun e w' => e = .returned (.int .i64 (totT F T)) ∧ Below u.heap.size u w' :=
  l2Total_any F t T u hF ht (fine_all hg htl h0 hlt) ⟨hg, htl, hlt, by omega⟩
theorem firstB_all {φ : List Nat → Int} {n : Nat} (hn : n ≤ 7) (h1 : 1 ≤ n) : firstB φ (allSets n) ∈ allSets n := by
  refine firstB_some (fun e => ?_) fun T hT => (all_ok hn hT).1
  have h2 := (combs_ok hn (Nat.le_refl 1) h1).2.1
  have : (combs n 1).head? ≠ none := by rw [h2]; simp
  cases hc : combs n 1 with
  | nil => rw [hc] at this; exact this rfl
  | cons T r =>
    have hT : T ∈ allSets n := by
      unfold allSets
      exact List.mem_flatMap.2 ⟨0, List.mem_range.2 (by omega), by rw [Nat.zero_add, hc]; exact List.mem_cons_self⟩
    rw [e] at hT; cases hT

set_option maxRecDepth 32000 in
set_option maxHeartbeats 2000000 in
theorem l2Best_any (F : Fld) (w : World) (hF : F.At w) (hg : F.good = true) :
    Calls Try.prog 65 #[F.val] w fun e w' => ∃ y : Row, e = .returned (.slice y.a y.l.length y.c) ∧ Best1 w.heap.size w' y (firstB (totT F) (allSets F.o.l.length)) ∧ Below w.heap.size w w' := by
  obtain ⟨wA, hA, hbA, bx, hFA, hszA⟩ := laid_fld F w 29 hF
  have hsz := good_sizes hg
  have HFA := Lib.hid hFA
  have HBX := Lib.hid bx
  have HA := Lib.hid hA
  have HG := Lib.hid hg
  obtain ⟨n, hn⟩ : ∃ n, n = F.o.l.length := ⟨_, rfl⟩
  have HN := Lib.hid hn
  have hn7 : n ≤ 7 := by omega
  have hn1 : 1 ≤ n := by omega
  have hni : (n : Int) ≤ 7 := by omega
  have CS := Lib.hid (l2Sets_any n wA hn7)
  have x0 : wA.cell? ⟨w.heap.size, 0, none⟩ = some (.slice F.o.a n F.o.c) := by rw [hn]; exact bx.c0
  rw [hA] at x0
  rw [← hn]
  clear hF hA hFA bx hn hsz hg
  show Calls _ _ #[.agg #[F.o.val, F.t.val]] w _
  go_enter Try.func65, Try.ntmps65
  go_wp2_with fail
  rw [show w.alloc (Obj.cells #[F.o.val, F.t.val] 29) = wA from HA.out.symm]
  refine CS.out.mono ?_
  rintro e W1 ⟨v, g, cap, Q, rfl, htab, hb1⟩
  obtain ⟨hgl, hcc, hcm, hwg⟩ := htab.lt
  obtain ⟨c, hc⟩ : ∃ c, c = 2 ^ n - 1 := ⟨_, rfl⟩
  rw [← hc] at htab hcc
  have hc7 : c ≤ 127 := by
    have : 2 ^ n ≤ 2 ^ 7 := Nat.pow_le_pow_right (by omega) hn7
    have h7 : (2 : Nat) ^ 7 = 128 := rfl
    omega
  have hc1 : 1 ≤ c := by
    have : 2 ^ 1 ≤ 2 ^ n := Nat.pow_le_pow_right (by omega) hn1
    have h7 : (2 : Nat) ^ 1 = 2 := rfl
    omega
  obtain rfl := htab.val
  have HC := Lib.hid hc
  have HT := Lib.hid htab
  have HB1 := Lib.hid hb1
  have HSA : Hid (setsTo n c = allSets n) := Lib.hid (by rw [hc]; exact sets_all n hn7)
  have HSL : Hid ((allSets n).length = c) := Lib.hid (by rw [← HSA.out]; exact setsTo_len n c)
  have HL : Hid (∀ i, (hi : i < c) → ∃ (hq : i < Q.length) (hs : i < (allSets n).length), Q[i].l = up (allSets n)[i] ∧ (allSets n)[i] ≠ [] ∧ (((setB n (up (allSets n)[i]) = true ∧ ∀ m ∈ (allSets n)[i], m < n)) ∧ (allSets n)[i].length ≤ 7)) := Lib.hid fun i hi => by
    have hq : i < Q.length := by rw [htab.len]; exact hi
    have hs : i < (allSets n).length := by rw [HSL.out]; exact hi
    have hr := htab.row hq
    rw [HSA.out, List.getD_eq_getElem?_getD, List.getElem?_eq_getElem hs] at hr
    exact ⟨hq, hs, hr, all_ok hn7 (List.getElem_mem hs)⟩
  have hci : (c : Int) ≤ 127 := by omega
  have hci0 : (0 : Int) < (c : Int) := by omega
  have hci00 : 0 < c := by omega
  have hW1 := hb1.size
  obtain ⟨hq0, hs0, hr0, hne0, _⟩ := HL.out 0 hci00
  obtain ⟨r0, hr0'⟩ : ∃ r, r = Q[0] := ⟨_, rfl⟩
  have y0 : W1.cell? ⟨g, 0, none⟩ = some (.slice r0.a r0.l.length r0.c) := by rw [hr0']; exact htab.cell hq0
  have H0 : Hid (Best1 wA.heap.size W1 r0 (firstB (totT F) ((allSets n).take 1))) := Lib.hid (by
    have h1 : firstB (totT F) ((allSets n).take 1) = (allSets n)[0] := by
      rw [show 1 = 0 + 1 from rfl, firstB_step _ _ hs0]
      simp [firstB, stepB]
    rw [h1, hr0']
    exact ⟨hr0, htab.grows.lots.1 _ (List.getElem_mem hq0), htab.grows.ins _ (List.getElem_mem hq0)⟩)
  clear htab hb1 hc x0 hr0 hr0' hne0
  go_wp2
  go_loopw [4, 5] (fun yv i wr => ∃ (j : Nat) (y : Row), 1 ≤ j ∧ j ≤ c ∧ i = .int .i64 j ∧ yv = .slice y.a y.l.length y.c ∧ Best1 wA.heap.size wr y (firstB (totT F) ((allSets n).take j)) ∧ Below W1.heap.size W1 wr) (fun _ i _ => c - (intOf i).toNat)
  case atStart => exact ⟨1, r0, Nat.le_refl _, hc1, rfl, rfl, H0.out, Below.refl _ _⟩
  case round =>
    clear y0
    obtain ⟨j, y, hj1, hj, rfl, rfl, hy, hnx⟩ := hrel
    have HY := Lib.hid hy
    have HNX := Lib.hid hnx
    by_cases hlt : j < c
    · have hlti : (j : Int) < (c : Int) := by omega
      obtain ⟨hjQ, hjs, hrl, hne, hok, hl7⟩ := HL.out j hlt
      have hgw : ∀ u, Below wr.heap.size wr u → Below W1.heap.size W1 u := fun u hu => hnx.trans (hu.mono hnx.size)
      obtain ⟨r, hr⟩ : ∃ r, r = Q[j] := ⟨_, rfl⟩
      obtain ⟨T, hT⟩ : ∃ T, T = (allSets n)[j] := ⟨_, rfl⟩
      obtain ⟨U, hU⟩ : ∃ U, U = firstB (totT F) ((allSets n).take j) := ⟨_, rfl⟩
      have hUm : U ∈ allSets n := by
        rw [hU]
        exact List.mem_of_mem_take (firstB_some (φ := totT F) (L := (allSets n).take j) (fun e => by have := congrArg List.length e; rw [List.length_take, List.length_nil, HSL.out] at this; omega) (fun V hV => (all_ok hn7 (List.mem_of_mem_take hV)).1))
      obtain ⟨hUne, hUok, hU7⟩ := all_ok hn7 hUm
      rw [← hr, ← hT] at hrl
      rw [← hT] at hne hok hl7
      rw [← hU] at hy
      obtain ⟨x, hx⟩ : ∃ x, x = totT F T := ⟨_, rfl⟩
      obtain ⟨z, hz⟩ : ∃ z, z = totT F U := ⟨_, rfl⟩
      have HRB : Hid (Best1 wA.heap.size wr r T) := Lib.hid ⟨hrl, by rw [hr]; exact (HT.out.grows.lots.1 _ (List.getElem_mem _)).on hnx, by rw [hr]; exact (((HT.out.grows.ins _ (List.getElem_mem _)).on hnx).wide (Nat.le_refl _) hnx.size)⟩
      have HYB := Lib.hid hy
      have HS : Hid (∀ u, Below wr.heap.size wr u → ((u.cell? ⟨g, j, none⟩ = some (.slice r.a r.l.length r.c) ∧ u.cell? ⟨w.heap.size, 0, none⟩ = some (.slice F.o.a n F.o.c) ∧ u.cell? ⟨w.heap.size, 1, none⟩ = some F.t.val) ∧ Below wr.heap.size wr u)) := Lib.hid fun u hu => ⟨⟨by rw [hr]; exact ((hgw u hu).cell (p := ⟨g, j, none⟩) hgl).trans (HT.out.cell hjQ), by rw [HN.out]; exact ((HBX.out.on HB1.out).on (hgw u hu)).c0, ((HBX.out.on HB1.out).on (hgw u hu)).c1⟩, hu⟩
      have C1 := Lib.hid (fun u (hu : Below wr.heap.size wr u) => by have := l2Total_totT F r T u ((HFA.out.on HB1.out).on (hgw u hu)) (HRB.out.on hu).ins.at HG.out HRB.out.l hne (by rw [← HN.out]; exact hok.2) hl7; rw [← hx] at this; unfold Fld.val Row.val at this; rw [← HN.out] at this; exact this : ∀ u, Below wr.heap.size wr u → Calls Try.prog 64 #[.agg #[.slice F.o.a n F.o.c, F.t.val], .slice r.a r.l.length r.c] u fun e w' => e = .returned (.int .i64 x) ∧ Below u.heap.size u w')
      have C2 := Lib.hid (fun u (hu : Below wr.heap.size wr u) => by have := l2Total_totT F y U u ((HFA.out.on HB1.out).on (hgw u hu)) (HYB.out.on hu).ins.at HG.out HYB.out.l hUne (by rw [← HN.out]; exact hUok.2) hU7; rw [← hz] at this; unfold Fld.val Row.val at this; rw [← HN.out] at this; exact this : ∀ u, Below wr.heap.size wr u → Calls Try.prog 64 #[.agg #[.slice F.o.a n F.o.c, F.t.val], .slice y.a y.l.length y.c] u fun e w' => e = .returned (.int .i64 z) ∧ Below u.heap.size u w')
      have HX := Lib.hid hx
      have HZ := Lib.hid hz
      have HST : Hid (firstB (totT F) ((allSets n).take (j + 1)) = stepB (totT F) U T) := Lib.hid (by rw [firstB_step _ _ hjs, ← hU, ← hT])
      have HUN := Lib.hid hUne
      have HGW := Lib.hid hgw
      have y0 := (HS.out wr (Below.refl _ _)).1.1
      have y1 := (HS.out wr (Below.refl _ _)).1.2.1
      have y2 := (HS.out wr (Below.refl _ _)).1.2.2
      have s0 := HS.out wr.drew (Below.refl _ _).drew
      clear hr hT hU hrl hne hok hl7 hy hx hz hUm hUne hUok hU7 hnx hgw
      go_wp2_with fail
      go_region_held3 (fun u => ((u.cell? ⟨g, j, none⟩ = some (.slice r.a r.l.length r.c) ∧ u.cell? ⟨w.heap.size, 0, none⟩ = some (.slice F.o.a n F.o.c) ∧ u.cell? ⟨w.heap.size, 1, none⟩ = some F.t.val) ∧ Below wr.heap.size wr u)) (first | exact s0 | exact keep_reg HS.out (by first | assumption | exact And.right (by assumption)) hb1) (first | (go_at_call 64; (fail_if_success clear hb1); refine (show Calls _ _ _ _ _ from C1.out _ (by first | assumption | exact And.right (by assumption))).mono ?_; rintro e u1 ⟨rfl, hb1⟩) | (go_at_call 64; refine (show Calls _ _ _ _ _ from C2.out _ (by first | assumption | exact And.right (by assumption))).mono ?_; rintro e u1 ⟨rfl, hb1⟩))
      refine at_exit (W := wr) (by first | assumption | exact And.right (by assumption)) ?_
      intro W8 hb8
      have hc8 : W8.cell? ⟨g, j, none⟩ = some (.slice r.a r.l.length r.c) := (HS.out W8 hb8).1.1
      have HB8 := Lib.hid hb8
      have HGB := Lib.hid (HGW.out W8 hb8)
      clear s0 hb8 y0 y1 y2
      by_cases hxz : x < z
      · have HSS : Hid (stepB (totT F) U T = T) := Lib.hid (by unfold stepB; rw [if_pos (.inr (by rw [← HX.out, ← HZ.out]; exact hxz))])
        go_wp2
        go_roundw
        case rel => exact ⟨j + 1, r, by omega, by omega, by go_num, rfl, by rw [HST.out, HSS.out]; exact HRB.out.on HB8.out, HGB.out⟩
        case measure => simp [intOf]; omega
      · have HSS : Hid (stepB (totT F) U T = U) := Lib.hid (by unfold stepB; rw [if_neg (fun h => h.elim HUN.out (fun h => hxz (by rw [HX.out, HZ.out]; exact h)))])
        go_wp2
        go_roundw
        case rel => exact ⟨j + 1, y, by omega, by omega, by go_num, rfl, by rw [HST.out, HSS.out]; exact HYB.out.on HB8.out, HGB.out⟩
        case measure => simp [intOf]; omega
    · obtain rfl : j = c := by omega
      have HE : Hid ((allSets n).take j = allSets n) := Lib.hid (List.take_of_length_le (by rw [HSL.out]; exact Nat.le_refl _))
      go_wp2
      go_ret
      exact ⟨y, rfl, by have := HY.out; rw [HE.out] at this; exact ⟨this.l, this.own, this.ins.wide hbA.size (Nat.le_refl _)⟩, hbA.trans ((HB1.out.trans (hnx.mono HB1.out.size)).mono hbA.size)⟩
end Go.Proofs.Ytfplcgakpildmaa
