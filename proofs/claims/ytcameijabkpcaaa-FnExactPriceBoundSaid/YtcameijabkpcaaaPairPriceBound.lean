/- Both sides of PriceBound answer alike. Condition: the Field reads as such. -/
import Derived.Test.YtcameijabkpcaaaPairBestPrice
namespace Go.Proofs.Ytcameijabkpcaaa
open Go.RowKit

theorem minOf_mem {l : List Int} (h : l ≠ []) : Lib.minOf l ∈ l := by
  have gen : ∀ (l : List Int) (a : Int), l.foldl min a = a ∨ l.foldl min a ∈ l := by
    intro l
    induction l with
    | nil => intro a; exact .inl rfl
    | cons x r ih =>
      intro a
      rw [List.foldl_cons]
      rcases ih (min a x) with h | h
      · rw [h]
        by_cases e : a ≤ x
        · exact .inl (by omega)
        · exact .inr (by rw [show min a x = x by omega]; exact List.mem_cons_self)
      · exact .inr (List.mem_cons_of_mem _ h)
  cases l with
  | nil => exact absurd rfl h
  | cons a r =>
    unfold Lib.minOf
    rcases gen (a :: r) ((a :: r).headD 0) with h | h
    · rw [h]; exact List.mem_cons_self
    · exact h
theorem minOf_le {l : List Int} {x : Int} (h : x ∈ l) : Lib.minOf l ≤ x := by
  have gen : ∀ (l : List Int) (a : Int), l.foldl min a ≤ a ∧ ∀ x ∈ l, l.foldl min a ≤ x := by
    intro l
    induction l with
    | nil => intro a; exact ⟨Int.le_refl _, by simp⟩
    | cons y r ih =>
      intro a
      rw [List.foldl_cons]
      have := ih (min a y)
      refine ⟨by have := this.1; omega, fun x hx => ?_⟩
      rcases List.mem_cons.1 hx with rfl | hx
      · have := this.1; omega
      · exact this.2 x hx
  exact (gen l (l.headD 0)).2 x h
theorem firstB_least {φ : List Nat → Int} : ∀ (L : List (List Nat)) (b : List Nat), b ≠ [] → (∀ T ∈ L, T ≠ []) → φ (L.foldl (stepB φ) b) ≤ φ b ∧ ∀ T ∈ L, φ (L.foldl (stepB φ) b) ≤ φ T
  | [], b, _, _ => ⟨Int.le_refl _, by simp⟩
  | T :: r, b, hb, hn => by
    rw [List.foldl_cons]
    by_cases h : φ T < φ b
    · rw [show stepB φ b T = T by unfold stepB; rw [if_pos (.inr h)]]
      have := firstB_least (φ := φ) r T (hn T List.mem_cons_self) fun U hU => hn U (List.mem_cons_of_mem _ hU)
      refine ⟨by have := this.1; omega, fun U hU => ?_⟩
      rcases List.mem_cons.1 hU with rfl | hU
      · exact this.1
      · exact this.2 U hU
    · rw [show stepB φ b T = b by unfold stepB; rw [if_neg (fun e => e.elim hb h)]]
      have := firstB_least (φ := φ) r b hb fun U hU => hn U (List.mem_cons_of_mem _ hU)
      refine ⟨this.1, fun U hU => ?_⟩
      rcases List.mem_cons.1 hU with rfl | hU
      · have := this.1; omega
      · exact this.2 U hU
theorem bestK_least (φ : List Nat → Int) {n k : Nat} (hn : n ≤ 7) (h1 : 1 ≤ k) (hk : k ≤ n) : ∀ T ∈ combs n k, φ (bestK φ n k) ≤ φ T := by
  have hne : ∀ T ∈ combs n k, T ≠ [] := fun T hT e => by have := ((combs_ok hn h1 hk).2.2.1 T hT).1; rw [e] at this; simp at this; omega
  unfold bestK firstB
  intro T hT
  cases hC : combs n k with
  | nil => rw [hC] at hT; cases hT
  | cons U r =>
    rw [hC] at hT hne
    rw [List.foldl_cons, show stepB φ [] U = U by simp [stepB]]
    have := firstB_least (φ := φ) r U (hne U List.mem_cons_self) fun V hV => hne V (List.mem_cons_of_mem _ hV)
    rcases List.mem_cons.1 hT with rfl | hT
    · exact this.1
    · exact this.2 T hT
theorem all_mem {n : Nat} (hn : n ≤ 7) {T : List Nat} (hT : T ∈ allSets n) : 1 ≤ T.length ∧ T.length ≤ n ∧ T ∈ combs n T.length := by
  unfold allSets at hT
  obtain ⟨i, hi, hTi⟩ := List.mem_flatMap.1 hT
  have hin := List.mem_range.1 hi
  have := ((combs_ok hn (by omega : 1 ≤ i + 1) (by omega)).2.2.1 T hTi).1
  rw [this]
  exact ⟨by omega, by omega, hTi⟩
theorem mem_all {n k : Nat} (h1 : 1 ≤ k) (hk : k ≤ n) {T : List Nat} (hT : T ∈ combs n k) : T ∈ allSets n := by
  unfold allSets
  refine List.mem_flatMap.2 ⟨k - 1, List.mem_range.2 (by omega), ?_⟩
  rw [show k - 1 + 1 = k by omega]; exact hT

def totP (F : Fld) (p : Int) (T : List Nat) : Int := servT F T + p * (T.length : Int)
theorem valsT_getD (F : Fld) {i n : Nat} (h : i < n) : (valsT F n).getD i 0 = servT F (bestK (servT F) F.o.l.length (i + 1)) := by
  rw [List.getD_eq_getElem?_getD, List.getElem?_eq_getElem (by rw [valsT_len]; exact h)]
  unfold valsT
  simp
theorem bound_all {F : Fld} (hg : F.good = true) (p : Int) : Lib.minOf ((allSets F.o.l.length).map (totP F p)) = Lib.minOf (qL (valsT F F.o.l.length) p F.o.l.length) := by
  have hsz := good_sizes hg
  obtain ⟨n, hn⟩ : ∃ n, n = F.o.l.length := ⟨_, rfl⟩
  rw [← hn] at hsz ⊢
  have hq : ∀ i, i < n → (valsT F n).getD i 0 + p * ((i : Int) + 1) = totP F p (bestK (servT F) n (i + 1)) := fun i hi => by
    have hm := (combs_ok hsz.2.1 (by omega : 1 ≤ i + 1) (by omega : i + 1 ≤ n)).2.2.1 _ (bestK_mem (servT F) hsz.2.1 (by omega) (by omega))
    rw [valsT_getD F hi, ← hn]
    unfold totP
    rw [hm.1]; push_cast; rfl
  have hne : allSets n ≠ [] := fun e => by
    have := mem_all (n := n) (k := 1) (Nat.le_refl _) hsz.1 (bestK_mem (servT F) hsz.2.1 (Nat.le_refl _) hsz.1)
    rw [e] at this; cases this
  apply Int.le_antisymm
  · obtain ⟨i, hi, he⟩ := List.mem_map.1 (minOf_mem (l := qL (valsT F n) p n) (fun e => by have := congrArg List.length e; rw [qL_len, List.length_nil] at this; omega))
    have hin := List.mem_range.1 hi
    rw [← he, hq i hin]
    exact minOf_le (List.mem_map.2 ⟨_, mem_all (by omega) (by omega) (bestK_mem (servT F) hsz.2.1 (by omega) (by omega)), rfl⟩)
  · obtain ⟨T, hT, he⟩ := List.mem_map.1 (minOf_mem (l := (allSets n).map (totP F p)) (fun e => hne (List.map_eq_nil_iff.1 e)))
    obtain ⟨h1, h2, h3⟩ := all_mem hsz.2.1 hT
    have hl := bestK_least (servT F) hsz.2.1 h1 h2 T h3
    rw [← he]
    refine Int.le_trans (minOf_le (x := (valsT F n).getD (T.length - 1) 0 + p * (((T.length - 1 : Nat) : Int) + 1)) (List.mem_map.2 ⟨T.length - 1, List.mem_range.2 (by omega), rfl⟩)) ?_
    rw [valsT_getD F (by omega : T.length - 1 < n), ← hn, show T.length - 1 + 1 = T.length by omega]
    unfold totP
    rw [show (((T.length - 1 : Nat) : Int) + 1) = (T.length : Int) by omega]
    omega
theorem totL_bound {F : Fld} (hg : F.good = true) {p : Int} (h0 : 0 ≤ p) (h1 : p ≤ 999) {T : List Nat} (hT : T.length ≤ 7) : -20000 ≤ totP F p T ∧ totP F p T ≤ 20000 := by
  have h2 := servT_bounds hg T
  have h3 := mul_bound h0 h1 (d := (T.length : Int)) (by omega) (by omega)
  unfold totP; omega

set_option maxRecDepth 32000 in
set_option maxHeartbeats 2000000 in
theorem l4Bound_any (F : Fld) (k : Nat) (p : Int) (w : World) (hF : F.At w) (hg : F.good = true) (hk : k ≤ 7) (h0 : 0 ≤ p) (hp : p ≤ 999) :
    Calls Try.prog 57 #[F.val, .int .i64 k, .int .i64 p] w fun e w' => e = .returned (.int .i64 (priceF F k p)) ∧ Below w.heap.size w w' := by
  obtain ⟨wA, hA, hbA, bx, hFA, hszA⟩ := laid_fld F w 29 hF
  have hsz := good_sizes hg
  have HFA := Lib.hid hFA
  have HBX := Lib.hid bx
  have HA := Lib.hid hA
  have HG := Lib.hid hg
  obtain ⟨n, hn⟩ : ∃ n, n = F.o.l.length := ⟨_, rfl⟩
  have HN := Lib.hid hn
  have hn7 : n ≤ 7 := by omega
  have hn1 : 1 ≤ n := by omega
  have hni : (n : Int) ≤ 7 := by omega
  have CS := Lib.hid (l2Sets_any n wA hn7)
  have x0 : wA.cell? ⟨w.heap.size, 0, none⟩ = some (.slice F.o.a n F.o.c) := by rw [hn]; exact bx.c0
  rw [hA] at x0
  have HBA : Hid (priceF F (k : Int) p = Lib.minOf ((setsTo n (2 ^ n - 1)).map (totP F p)) - p * (k : Int)) := Lib.hid (by
    unfold priceF boundP
    rw [valsT_len, bound_q _ _ _ _ (by omega), ← bound_all hg p, ← hn, sets_all n hn7])
  have hpk := mul_bound h0 hp (d := (k : Int)) (by omega) (by omega)
  obtain ⟨pk, hpk'⟩ : ∃ z, z = p * (k : Int) := ⟨_, rfl⟩
  have HPK := Lib.hid hpk'
  rw [← hpk'] at hpk
  have epk : IntKind.i64.wrap (p * (k : Int)) = pk := by rw [← hpk']; exact IntWalk.i64_in _ (by omega)
  clear hF hA hFA bx hn hsz hpk' hg
  show Calls _ _ #[.agg #[F.o.val, F.t.val], _, _] w _
  go_enter Try.func57, Try.ntmps57
  go_wp2_with fail
  rw [show w.alloc (Obj.cells #[F.o.val, F.t.val] 29) = wA from HA.out.symm]
  refine CS.out.mono ?_
  rintro e W1 ⟨v, g, cap, Q, rfl, htab, hb1⟩
  obtain ⟨hgl, hcc, hcm, hwg⟩ := htab.lt
  obtain ⟨c, hc⟩ : ∃ c, c = 2 ^ n - 1 := ⟨_, rfl⟩
  rw [← hc] at htab hcc
  have hc7 : c ≤ 127 := by
    have : 2 ^ n ≤ 2 ^ 7 := Nat.pow_le_pow_right (by omega) hn7
    have h7 : (2 : Nat) ^ 7 = 128 := rfl
    omega
  have hc1 : 1 ≤ c := by
    have : 2 ^ 1 ≤ 2 ^ n := Nat.pow_le_pow_right (by omega) hn1
    have h7 : (2 : Nat) ^ 1 = 2 := rfl
    omega
  obtain rfl := htab.val
  have HC := Lib.hid hc
  have HT := Lib.hid htab
  have HB1 := Lib.hid hb1
  have HSL : Hid ((setsTo n c).length = c) := Lib.hid (setsTo_len n c)
  have HL : Hid (∀ i, (hi : i < c) → ∃ (hq : i < Q.length) (T : List Nat), (setsTo n c)[i]? = some T ∧ Q[i].l = up T ∧ T ≠ [] ∧ T.length ≤ 7 ∧ ∀ m ∈ T, m < F.o.l.length) := Lib.hid fun i hi => by
    have hq : i < Q.length := by rw [htab.len]; exact hi
    have hi2 : i < (setsTo n c).length := by rw [setsTo_len]; exact hi
    have hr := htab.row hq
    rw [List.getD_eq_getElem?_getD, List.getElem?_eq_getElem hi2] at hr
    have hmem : (setsTo n c)[i] ∈ allSets n := by
      have e := sets_all n hn7
      rw [← hc] at e
      rw [← e]; exact List.getElem_mem _
    have hgd := List.all_eq_true.1 (sets_good n hn7).1 _ hmem
    simp only [Bool.and_eq_true, decide_eq_true_eq, List.all_eq_true] at hgd
    exact ⟨hq, _, List.getElem?_eq_getElem hi2, hr, List.length_pos_iff.1 hgd.1, by have := (all_mem hn7 hmem).2.1; omega, fun m hm => by rw [← HN.out]; exact hgd.2 m hm⟩
  have HTL : Hid (∀ j, j ≤ c → -20000 ≤ Lib.minOf (((setsTo n c).take j).map (totP F p)) ∧ Lib.minOf (((setsTo n c).take j).map (totP F p)) ≤ 20000) := Lib.hid fun j hj => minOf_bound fun x hx => by
    obtain ⟨T, hT, rfl⟩ := List.mem_map.1 hx
    refine totL_bound HG.out h0 hp ?_
    have := setsTo_mem n c T (List.mem_of_mem_take hT)
    omega
  have hci : (c : Int) ≤ 127 := by omega
  have hci1 : (1 : Int) ≤ (c : Int) := by omega
  have hci0 : (0 : Int) < (c : Int) := by omega
  have hci00 : 0 < c := by omega
  have hW1 := hb1.size
  -- one row: its service, and what the loop makes of it
  have ROW : Hid (∀ (i : Nat) (hi : i < c) (wr : World), Below W1.heap.size W1 wr → ∃ (ra : Option Addr) (rc ln : Nat) (T : List Nat) (x : Int), (setsTo n c)[i]? = some T ∧ ln = T.length ∧ ln ≤ 7 ∧ x = servT F T ∧ 0 ≤ x ∧ x ≤ 693 ∧
      (∀ u, Below wr.heap.size wr u → (u.cell? ⟨g, i, none⟩ = some (.slice ra ln rc) ∧ u.cell? ⟨w.heap.size, 0, none⟩ = some (.slice F.o.a n F.o.c) ∧ u.cell? ⟨w.heap.size, 1, none⟩ = some F.t.val)) ∧
      (∀ u, Below wr.heap.size wr u → Calls Try.prog 50 #[.agg #[.slice F.o.a n F.o.c, F.t.val], .slice ra ln rc] u fun e w' => e = .returned (.int .i64 x) ∧ Below u.heap.size u w')) := Lib.hid fun i hi wr hnx => by
    obtain ⟨hq, T, hT, hrl, hne, hT7, hml⟩ := HL.out i hi
    have hgw : ∀ u, Below wr.heap.size wr u → Below W1.heap.size W1 u := fun u hu => hnx.trans (hu.mono hnx.size)
    have hrn : Q[i].l.length = T.length := by rw [hrl, up_length]
    refine ⟨Q[i].a, Q[i].c, T.length, T, servT F T, hT, rfl, hT7, rfl, (servT_bounds HG.out T).1, (servT_bounds HG.out T).2, fun u hu => ⟨?_, ?_, ?_⟩, fun u hu => ?_⟩
    · rw [← hrn]; exact ((hgw u hu).cell (p := ⟨g, i, none⟩) hgl).trans (HT.out.cell hq)
    · rw [HN.out]; exact ((HBX.out.on HB1.out).on (hgw u hu)).c0
    · exact ((HBX.out.on HB1.out).on (hgw u hu)).c1
    · have := l2Serve_servT F Q[i] T u ((HFA.out.on HB1.out).on (hgw u hu)) (((HT.out.grows.ins _ (List.getElem_mem hq)).on (hgw u hu)).at) HG.out hrl hne hml
      unfold Fld.val Row.val at this
      rw [← HN.out, hrn] at this; exact this
  clear htab hb1 hc x0
  obtain ⟨ra, rc, ln, T, x, hT0, hln, hl7, hx, hx0, hx1, hcells, hserve⟩ := ROW.out 0 (by omega) W1 (Below.refl _ _)
  have hyc := hcells W1 (Below.refl _ _)
  have y0 := hyc.1
  have y1 := hyc.2.1
  have y2 := hyc.2.2
  obtain ⟨z, hz⟩ : ∃ z, z = p * (ln : Int) := ⟨_, rfl⟩
  have hzb := mul_bound h0 hp (d := (ln : Int)) (by omega) (by omega)
  rw [← hz] at hzb
  have e2 : IntKind.i64.wrap (p * (ln : Int)) = z := by rw [← hz]; exact IntWalk.i64_in _ (by omega)
  have e3 : IntKind.i64.wrap (x + z) = x + z := IntWalk.i64_in _ (by omega)
  have HQ1 : Hid (Lib.minOf (((setsTo n c).take 1).map (totP F p)) = x + z) := Lib.hid (by
    have hT0' : (setsTo n c).take 1 = [T] := by
      cases hs : setsTo n c with
      | nil => rw [hs] at hT0; cases hT0
      | cons a r => rw [hs] at hT0; simp at hT0; rw [hT0]; rfl
    rw [hT0', List.map_singleton, minOf_one]
    unfold totP
    rw [hx, hz, hln])
  have HS : Hid (∀ u, Below W1.heap.size W1 u → ((u.cell? ⟨g, 0, none⟩ = some (.slice ra ln rc) ∧ u.cell? ⟨w.heap.size, 0, none⟩ = some (.slice F.o.a n F.o.c) ∧ u.cell? ⟨w.heap.size, 1, none⟩ = some F.t.val) ∧ Below W1.heap.size W1 u)) := Lib.hid fun u hu => ⟨hcells u hu, hu⟩
  have s0 := HS.out W1.drew (Below.refl _ _).drew
  have C1 := Lib.hid hserve
  clear hyc hcells hserve hx hz hln hT0
  go_wp2_with fail
  go_region_held3 (fun u => ((u.cell? ⟨g, 0, none⟩ = some (.slice ra ln rc) ∧ u.cell? ⟨w.heap.size, 0, none⟩ = some (.slice F.o.a n F.o.c) ∧ u.cell? ⟨w.heap.size, 1, none⟩ = some F.t.val) ∧ Below W1.heap.size W1 u)) (first | exact s0 | exact keep_reg HS.out (by first | assumption | exact And.right (by assumption)) hb1) (first | (go_at_call 50; refine (show Calls _ _ _ _ _ from C1.out _ (by first | assumption | exact And.right (by assumption))).mono ?_; rintro e u1 ⟨rfl, hb1⟩))
  refine at_exit (W := W1) (by first | assumption | exact And.right (by assumption)) ?_
  intro W2 hb2
  have HB2 := Lib.hid hb2
  clear s0 y0 y1 y2 hb2
  go_wp2
  go_loopw [8, 9] (fun bv i wr => ∃ j : Nat, 1 ≤ j ∧ j ≤ c ∧ i = .int .i64 j ∧ bv = .int .i64 (Lib.minOf (((setsTo n c).take j).map (totP F p))) ∧ Below W1.heap.size W1 wr) (fun _ i _ => c - (intOf i).toNat)
  case atStart => exact ⟨1, Nat.le_refl _, hc1, rfl, by rw [HQ1.out], HB2.out⟩
  case round =>
    clear e2 e3 hzb HQ1
    obtain ⟨j, hj1, hj, rfl, rfl, hnx⟩ := hrel
    obtain ⟨m, hm⟩ : ∃ m, m = Lib.minOf (((setsTo n c).take j).map (totP F p)) := ⟨_, rfl⟩
    have hmb := HTL.out j hj
    rw [← hm] at hmb ⊢
    by_cases hlt : j < c
    · have hlti : (j : Int) < (c : Int) := by omega
      obtain ⟨ra, rc, ln, T, x, hT0, hln, hl7, hx, hx0, hx1, hcells, hserve⟩ := ROW.out j hlt wr hnx
      have hyc := hcells wr (Below.refl _ _)
      have y0 := hyc.1
      have y1 := hyc.2.1
      have y2 := hyc.2.2
      obtain ⟨z, hz⟩ : ∃ z, z = p * (ln : Int) := ⟨_, rfl⟩
      have hzb := mul_bound h0 hp (d := (ln : Int)) (by omega) (by omega)
      rw [← hz] at hzb
      have e2 : IntKind.i64.wrap (p * (ln : Int)) = z := by rw [← hz]; exact IntWalk.i64_in _ (by omega)
      have e3 : IntKind.i64.wrap (x + z) = x + z := IntWalk.i64_in _ (by omega)
      have HST : Hid (Lib.minOf (((setsTo n c).take (j + 1)).map (totP F p)) = min m (x + z)) := Lib.hid (by
        have hjl : j < (setsTo n c).length := by rw [HSL.out]; exact hlt
        have hTj : (setsTo n c)[j] = T := by rw [List.getElem?_eq_getElem hjl] at hT0; exact Option.some.inj hT0
        rw [List.take_succ_eq_append_getElem hjl, List.map_append, List.map_singleton, minOf_snoc (fun e => by have := congrArg List.length e; rw [List.length_map, List.length_take, List.length_nil] at this; omega), hTj, hm]
        unfold totP
        rw [hx, hz, hln])
      have HS : Hid (∀ u, Below wr.heap.size wr u → ((u.cell? ⟨g, j, none⟩ = some (.slice ra ln rc) ∧ u.cell? ⟨w.heap.size, 0, none⟩ = some (.slice F.o.a n F.o.c) ∧ u.cell? ⟨w.heap.size, 1, none⟩ = some F.t.val) ∧ Below wr.heap.size wr u)) := Lib.hid fun u hu => ⟨hcells u hu, hu⟩
      have s0 := HS.out wr.drew (Below.refl _ _).drew
      have C1 := Lib.hid hserve
      have CL := Lib.hid (fun u => least_any m (x + z) u)
      have HNX := Lib.hid hnx
      clear hyc hcells hserve hx hz hln hT0 hm hnx
      go_wp2_with fail
      go_region_held3 (fun u => ((u.cell? ⟨g, j, none⟩ = some (.slice ra ln rc) ∧ u.cell? ⟨w.heap.size, 0, none⟩ = some (.slice F.o.a n F.o.c) ∧ u.cell? ⟨w.heap.size, 1, none⟩ = some F.t.val) ∧ Below wr.heap.size wr u)) (first | exact s0 | assumption | exact keep_reg HS.out (by first | assumption | exact And.right (by assumption)) hb1) (first | (go_at_call 50; refine (show Calls _ _ _ _ _ from C1.out _ (by first | assumption | exact And.right (by assumption))).mono ?_; rintro e u1 ⟨rfl, hb1⟩) | (go_at_call 73; refine (show Calls _ _ _ _ _ from CL.out _).mono ?_; rintro e u3 ⟨rfl, rfl⟩))
      refine at_exit (W := wr) (by first | assumption | exact And.right (by assumption)) ?_
      intro W8 hb8
      have R2 := HNX.out.trans (hb8.mono HNX.out.size)
      clear hb8 s0 y0 y1 y2
      go_wp2
      go_roundw
      case rel => exact ⟨j + 1, by omega, by omega, by go_num, by rw [HST.out], R2⟩
      case measure => simp [intOf]; omega
    · obtain rfl : j = c := by omega
      have e4 : IntKind.i64.wrap (m - pk) = m - pk := IntWalk.i64_in _ (by omega)
      have HE : Hid (priceF F (k : Int) p = m - pk) := Lib.hid (by
        rw [HBA.out, ← HC.out, hm, HPK.out, List.take_of_length_le (by rw [HSL.out]; exact Nat.le_refl _)])
      clear hm
      go_wp2
      go_ret
      exact ⟨by rw [HE.out]; rfl, hbA.trans ((HB1.out.trans (hnx.mono HB1.out.size)).mono hbA.size)⟩
/-- What PriceBound answers. -/
def PBounds (F : Fld) (k p v : Int) (b : Bool) : Prop :=
  (¬ (kB F k = true ∧ 0 ≤ p ∧ p ≤ 999) ∧ v = 0 ∧ b = false) ∨ (kB F k = true ∧ 0 ≤ p ∧ p ≤ 999 ∧ v = priceF F k p ∧ b = true)
theorem pbounds_like {F G : Fld} {k p v : Int} {b : Bool} (h : PBounds F k p v b) (hl : G.Like F) : PBounds G k p v b := by
  unfold PBounds at *
  rw [kB_like hl, priceF_like hl]; exact h

set_option maxRecDepth 32000 in
set_option maxHeartbeats 2000000 in
theorem specPB_any (F : Fld) (k p : Int) (w : World) (hF : F.At w) (v : Int) (b : Bool) (hv : PBounds F k p v b) :
    Calls Try.prog 29 #[F.val, .int .i64 k, .int .i64 p] w (PInt v b w) := by
  obtain ⟨wA, hA, hbA, bx, hFA, hszA⟩ := laid_fld F w 29 hF
  have HFA := Lib.hid hFA
  have HBX := Lib.hid bx
  have HA := Lib.hid hA
  have CT := Lib.hid (l4K_any F k wA hFA)
  have x0 := bx.c0
  have x1 := bx.c1
  rw [hA] at x0 x1
  clear hF hA hFA bx
  show Calls _ _ #[.agg #[F.o.val, F.t.val], _, _] w fun e w' => e = .returned (.tuple #[.int .i64 v, .bool b]) ∧ Below w.heap.size w w'
  obtain ⟨t, ht⟩ : ∃ t, t = kB F k := ⟨_, rfl⟩
  rw [← ht] at CT
  cases t with
  | false =>
    have HO : Hid (v = 0 ∧ b = false) := Lib.hid (by
      rcases hv with ⟨_, h1, h2⟩ | ⟨h1, _⟩
      · exact ⟨h1, h2⟩
      · rw [h1] at ht; cases ht)
    clear hv ht
    go_enter Try.func29, Try.ntmps29
    go_wp2_with fail
    rw [show w.alloc (Obj.cells #[F.o.val, F.t.val] 29) = wA from HA.out.symm]
    refine (show Calls _ _ _ _ _ from CT.out).mono ?_
    rintro e W1 ⟨rfl, hb1⟩
    clear x0 x1
    go_wp2
    go_ret2
    exact ⟨by rw [HO.out.1, HO.out.2]; rfl, hbA.trans (hb1.mono hbA.size)⟩
  | true =>
    by_cases hp : 0 ≤ p ∧ p ≤ 999
    · obtain ⟨hp0, hp9⟩ := hp
      have HO : Hid (v = priceF F k p ∧ b = true) := Lib.hid (by
        rcases hv with ⟨h1, _⟩ | ⟨_, _, _, h1, h2⟩
        · exact absurd ⟨ht.symm, hp0, hp9⟩ h1
        · exact ⟨h1, h2⟩)
      obtain ⟨hg, m, rfl, h1, hm⟩ := kB_nat ht.symm
      have hsz := good_sizes hg
      have CB := Lib.hid (fun W1 (hb1 : Below wA.heap.size wA W1) => l4Bound_any F m p W1 (HFA.out.on hb1) hg (by omega) hp0 hp9)
      have CI : Hid (∀ W, Calls Try.prog 56 #[.int .i64 p, .int .i64 0, .int .i64 999] W fun e w' => e = .returned (.bool true) ∧ w' = W) := Lib.hid (fun W => by have := l1In_any p 0 999 W; rw [decide_eq_true hp0, decide_eq_true hp9] at this; exact this)
      clear hv ht hg hsz
      go_enter Try.func29, Try.ntmps29
      go_wp2_with fail
      rw [show w.alloc (Obj.cells #[F.o.val, F.t.val] 29) = wA from HA.out.symm]
      refine (show Calls _ _ _ _ _ from CT.out).mono ?_
      rintro e W1 ⟨rfl, hb1⟩
      clear x0 x1
      have y0 := (HBX.out.on hb1).c0
      have y1 := (HBX.out.on hb1).c1
      have CB1 := Lib.hid (CB.out W1 hb1)
      have HB1 := Lib.hid (hbA.trans (hb1.mono hbA.size))
      clear hb1
      go_wp2_with fail
      refine (CI.out _).mono ?_
      rintro e W1 ⟨rfl, rfl⟩
      go_wp2_with fail
      refine (show Calls _ _ _ _ _ from CB1.out).mono ?_
      rintro e W2 ⟨rfl, hb2⟩
      clear y0 y1
      go_wp2
      go_ret2
      exact ⟨by rw [HO.out.1, HO.out.2]; rfl, HB1.out.trans (hb2.mono HB1.out.size)⟩
    · have HO : Hid (v = 0 ∧ b = false) := Lib.hid (by
        rcases hv with ⟨_, h1, h2⟩ | ⟨_, h1, h2, _⟩
        · exact ⟨h1, h2⟩
        · exact absurd ⟨h1, h2⟩ hp)
      clear hv ht
      have CI : Hid (∀ W, Calls Try.prog 56 #[.int .i64 p, .int .i64 0, .int .i64 999] W fun e w' => e = .returned (.bool false) ∧ w' = W) := Lib.hid (fun W => by have := l1In_any p 0 999 W; rw [show (decide (0 ≤ p) && decide (p ≤ 999)) = false by rw [Bool.and_eq_false_iff, decide_eq_false_iff_not, decide_eq_false_iff_not]; omega] at this; exact this)
      clear hp
      go_enter Try.func29, Try.ntmps29
      go_wp2_with fail
      rw [show w.alloc (Obj.cells #[F.o.val, F.t.val] 29) = wA from HA.out.symm]
      refine (show Calls _ _ _ _ _ from CT.out).mono ?_
      rintro e W1 ⟨rfl, hb1⟩
      have HB1 := Lib.hid (hbA.trans (hb1.mono hbA.size))
      clear x0 x1 hb1
      go_wp2_with fail
      refine (CI.out _).mono ?_
      rintro e W1 ⟨rfl, rfl⟩
      go_wp2
      go_ret2
      exact ⟨by rw [HO.out.1, HO.out.2]; rfl, HB1.out⟩

set_option maxRecDepth 32000 in
set_option maxHeartbeats 2000000 in
theorem implPB_any (F : Fld) (k p : Int) (w : World) (hF : F.At w) (v : Int) (b : Bool) (hv : PBounds F k p v b) :
    Calls Try.prog 30 #[F.val, .int .i64 k, .int .i64 p] w (PInt v b w) := by
  obtain ⟨wA, hA, hbA, bx, hFA, hszA⟩ := laid_fld F w 29 hF
  have HFA := Lib.hid hFA
  have HBX := Lib.hid bx
  have HA := Lib.hid hA
  have CT := Lib.hid (hasSites_any F k wA hFA)
  have x0 := bx.c0
  have x1 := bx.c1
  rw [hA] at x0 x1
  clear hF hA hFA bx
  show Calls _ _ #[.agg #[F.o.val, F.t.val], _, _] w fun e w' => e = .returned (.tuple #[.int .i64 v, .bool b]) ∧ Below w.heap.size w w'
  obtain ⟨t, ht⟩ : ∃ t, t = kB F k := ⟨_, rfl⟩
  rw [← ht] at CT
  cases t with
  | false =>
    have HO : Hid (v = 0 ∧ b = false) := Lib.hid (by
      rcases hv with ⟨_, h1, h2⟩ | ⟨h1, _⟩
      · exact ⟨h1, h2⟩
      · rw [h1] at ht; cases ht)
    clear hv ht
    go_enter Try.func30, Try.ntmps30
    go_wp2_with fail
    rw [show w.alloc (Obj.cells #[F.o.val, F.t.val] 29) = wA from HA.out.symm]
    refine (show Calls _ _ _ _ _ from CT.out).mono ?_
    rintro e W1 ⟨rfl, hb1⟩
    clear x0 x1
    go_wp2
    go_ret2
    exact ⟨by rw [HO.out.1, HO.out.2]; rfl, hbA.trans (hb1.mono hbA.size)⟩
  | true =>
    by_cases hp : 0 ≤ p ∧ p ≤ 999
    · obtain ⟨hp0, hp9⟩ := hp
      have HO : Hid (v = priceF F k p ∧ b = true) := Lib.hid (by
        rcases hv with ⟨h1, _⟩ | ⟨_, _, _, h1, h2⟩
        · exact absurd ⟨ht.symm, hp0, hp9⟩ h1
        · exact ⟨h1, h2⟩)
      obtain ⟨hg, m, rfl, h1, hm⟩ := kB_nat ht.symm
      have hsz := good_sizes hg
      have CV := Lib.hid (fun W1 (hb1 : Below wA.heap.size wA W1) => medianValues_any F W1 (HFA.out.on hb1) hg)
      obtain ⟨x, hx⟩ : ∃ x, x = priceF F (m : Int) p := ⟨_, rfl⟩
      have CP := Lib.hid (fun (t : Row) (u : World) (ht : t.At u) (htl : t.l = valsT F F.o.l.length) => by
        have := boundFor_any t m p u ht (by rw [htl, valsT_len]; omega) (by rw [htl, valsT_len]; omega) (by rw [htl]; exact valsT_bound hg _) (by omega) hp0 hp9
        rw [show boundP t.l (m : Int) p = x by rw [htl, hx]; rfl] at this; exact this : ∀ (t : Row) (u : World), t.At u → t.l = valsT F F.o.l.length → Calls Try.prog 55 #[.slice t.a t.l.length t.c, .int .i64 m, .int .i64 p] u fun e w' => e = .returned (.int .i64 x) ∧ Below u.heap.size u w')
      have HX := Lib.hid hx
      have hp9' : ¬ (999 : Int) < p := by omega
      have hp0' : ¬ p < 0 := by omega
      clear hv ht hg hsz hx
      go_enter Try.func30, Try.ntmps30
      go_wp2_with fail
      rw [show w.alloc (Obj.cells #[F.o.val, F.t.val] 29) = wA from HA.out.symm]
      refine (show Calls _ _ _ _ _ from CT.out).mono ?_
      rintro e W1 ⟨rfl, hb1⟩
      clear x0 x1
      have y0 := (HBX.out.on hb1).c0
      have y1 := (HBX.out.on hb1).c1
      have CV1 := Lib.hid (CV.out W1 hb1)
      have HB1 := Lib.hid (hbA.trans (hb1.mono hbA.size))
      clear hb1
      go_wp2_with fail
      refine (show Calls _ _ _ _ _ from CV1.out).mono ?_
      rintro e W2 ⟨t, rfl, htl, -, hti, hb2⟩
      have HB2 := Lib.hid (HB1.out.trans (hb2.mono HB1.out.size))
      have CQ := Lib.hid (CP.out t W2 hti.at htl)
      clear htl hti hb2 y0 y1
      go_wp2_with fail
      refine (show Calls _ _ _ _ _ from CQ.out).mono ?_
      rintro e W3 ⟨rfl, hb3⟩
      go_wp2
      go_ret2
      exact ⟨by rw [HO.out.1, HO.out.2, ← HX.out]; rfl, HB2.out.trans (hb3.mono HB2.out.size)⟩
    · have HO : Hid (v = 0 ∧ b = false) := Lib.hid (by
        rcases hv with ⟨_, h1, h2⟩ | ⟨_, h1, h2, _⟩
        · exact ⟨h1, h2⟩
        · exact absurd ⟨h1, h2⟩ hp)
      clear hv ht
      by_cases h0 : p < 0
      · clear hp
        go_enter Try.func30, Try.ntmps30
        go_wp2_with fail
        rw [show w.alloc (Obj.cells #[F.o.val, F.t.val] 29) = wA from HA.out.symm]
        refine (show Calls _ _ _ _ _ from CT.out).mono ?_
        rintro e W1 ⟨rfl, hb1⟩
        clear x0 x1
        go_wp2
        go_ret2
        exact ⟨by rw [HO.out.1, HO.out.2]; rfl, hbA.trans (hb1.mono hbA.size)⟩
      · have h9 : (999 : Int) < p := by omega
        clear hp
        go_enter Try.func30, Try.ntmps30
        go_wp2_with fail
        rw [show w.alloc (Obj.cells #[F.o.val, F.t.val] 29) = wA from HA.out.symm]
        refine (show Calls _ _ _ _ _ from CT.out).mono ?_
        rintro e W1 ⟨rfl, hb1⟩
        clear x0 x1
        go_wp2
        go_ret2
        exact ⟨by rw [HO.out.1, HO.out.2]; rfl, hbA.trans (hb1.mono hbA.size)⟩

theorem priceBound_pair (F : Fld) (k p : Int) (_ : (Lit.int .i64 k).wf = true) (_ : (Lit.int .i64 p).wf = true) (_ : F.Small) : ∃ (v : Int) (b : Bool),
    (∀ (G : Fld) (W : World), G.At W → G.Like F → Calls Try.prog 29 #[G.val, .int .i64 k, .int .i64 p] W (PInt v b W)) ∧
    (∀ (G : Fld) (W : World), G.At W → G.Like F → Calls Try.prog 30 #[G.val, .int .i64 k, .int .i64 p] W (PInt v b W)) := by
  obtain ⟨v, b, h⟩ : ∃ v b, PBounds F k p v b := by
    by_cases h : kB F k = true ∧ 0 ≤ p ∧ p ≤ 999
    · exact ⟨_, _, .inr ⟨h.1, h.2.1, h.2.2, rfl, rfl⟩⟩
    · exact ⟨_, _, .inl ⟨h, rfl, rfl⟩⟩
  exact ⟨v, b, fun G W hG hlk => specPB_any G k p W hG v b (pbounds_like h hlk), fun G W hG hlk => implPB_any G k p W hG v b (pbounds_like h hlk)⟩
end Go.Proofs.Ytcameijabkpcaaa
