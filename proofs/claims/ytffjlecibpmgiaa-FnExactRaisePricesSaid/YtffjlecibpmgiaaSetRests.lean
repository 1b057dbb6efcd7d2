/- The sum of the prices of a set, and what is left of all costs: the contracts of both sides. Condition: a valid System, and a number of at most 1000000 for each element. -/
import Derived.Test.YtffjlecibpmgiaaPlainFairS
import Derived.Test.YtffjlecibpmgiaaCovered
import Derived.Test.YtffjlecibpmgiaaWithin
namespace Go.Proofs.Ytffjlecibpmgiaa
open Go.RowKit Go.Shelf

/-- A cell of a row of numbers. -/
theorem intAt_cells {r : Row} {w u : World} (hr : r.At w) (hu : Below w.heap.size w u) {k : Nat} (hk : k < r.l.length) : ∃ b o, r.a = some ⟨b, o, none⟩ ∧ u.cell? ⟨b, o + k, none⟩ = some (.int .i64 (r.l.getD k 0)) := by
  obtain ⟨_, _, h3⟩ := hr
  rcases h3 with h3 | ⟨b, o, ha, hb, hcell⟩
  · have := congrArg List.length (iv_nil h3); rw [List.length_nil] at this; omega
  · refine ⟨b, o, ha, (hu.cell (p := ⟨b, o + k, none⟩) hb).trans (hcell k _ ?_)⟩
    rw [iv_at hk, List.getD_eq_getElem?_getD, List.getElem?_eq_getElem hk, Option.getD_some]
/-- Prices of at most a million for n elements. -/
structure PricesN (n : Nat) (p : List Int) : Prop where
  len : p.length = n
  all : ∀ x ∈ p, 0 ≤ x ∧ x ≤ 1000000
theorem pricesN_of {S : Sys} {p : List Int} {z : Int} (h : pricesS S p z = true) : S.good = true ∧ (∃ n : Nat, S.n = n ∧ PricesN n p) ∧ 1 ≤ z ∧ z ≤ 1000000 := by
  unfold pricesS at h
  simp only [Bool.and_eq_true, decide_eq_true_eq] at h
  obtain ⟨⟨h1, h2, h3⟩, h4⟩ := h
  exact ⟨h1, ⟨p.length, h3.symm, rfl, fun x hx => upTo_iff.1 (List.all_eq_true.1 h2 x hx)⟩, fromTo_iff.1 h4⟩
theorem set_elems {n : Nat} {l : List Int} (h : setB n l = true) {i : Nat} (hi : i < l.length) : ∃ m : Nat, l[i] = m ∧ m < n := by
  have := rise_bounds n l (-1) h l[i] (List.getElem_mem hi)
  exact ⟨l[i].toNat, by omega, by omega⟩

set_option maxHeartbeats 1000000 in
theorem l6Priced_any (r p : Row) (n : Nat) (w : World) (hr : r.At w) (hp : p.At w) (hs : setB n r.l = true) (hn : n ≤ 8) (hP : PricesN n p.l) :
    Calls Try.prog 62 #[.slice r.a r.l.length r.c, .slice p.a p.l.length p.c] w fun e w' => e = .returned (.int .i64 ((prOf p.l r.l).sum)) ∧ w' = w := by
  have hl8 := Nat.le_trans (set_len hs) hn
  have hli : (r.l.length : Int) ≤ 8 := by omega
  have hpl := hP.len
  have hpi : (p.l.length : Int) ≤ 8 := by omega
  obtain ⟨Q, hQ⟩ : ∃ Q, Q = prOf p.l r.l := ⟨_, rfl⟩
  have HB : Hid (∀ k, 0 ≤ (Q.take k).sum ∧ (Q.take k).sum ≤ 8000000) := Lib.hid fun k => by
    have := prOf_within (m := 1000000) (by omega) hP.all r.l k hl8
    rw [hQ]; omega
  have HC : Hid (∀ k, k < r.l.length → ∃ b o bp op, ∃ m : Nat, ∃ y : Int, r.a = some ⟨b, o, none⟩ ∧ w.cell? ⟨b, o + k, none⟩ = some (.int .i64 (m : Int)) ∧ p.a = some ⟨bp, op, none⟩ ∧ w.cell? ⟨bp, op + m, none⟩ = some (.int .i64 y) ∧ m < p.l.length ∧ (Q.take (k + 1)).sum = (Q.take k).sum + y) := Lib.hid fun k hk => by
    obtain ⟨b, o, ha, hc⟩ := intAt_cells hr (Below.refl _ _) hk
    obtain ⟨m, hm, hmn⟩ := set_elems hs hk
    obtain ⟨bp, op, hpa, hpc⟩ := intAt_cells hp (Below.refl _ _) (k := m) (by omega)
    refine ⟨b, o, bp, op, m, _, ha, ?_, hpa, hpc, by omega, ?_⟩
    · rw [hc, List.getD_eq_getElem?_getD, List.getElem?_eq_getElem hk, Option.getD_some, hm]
    · rw [sum_step (by rw [hQ, prOf_len]; exact hk)]
      congr 1
      simp only [hQ, prOf_get p.l r.l hk, hm, Int.toNat_natCast]
  have HF : Hid (∀ k, k = r.l.length → (Q.take k).sum = (prOf p.l r.l).sum) := Lib.hid fun k hk => by rw [List.take_of_length_le (by rw [hQ, prOf_len, hk]; exact Nat.le_refl _), hQ]
  clear hr hp hs hP hQ hpl
  go_enter Try.func62, Try.ntmps62
  go_wp2
  go_loopw [5, 6] (fun s i wr => ∃ k : Nat, k ≤ r.l.length ∧ i = .int .i64 k ∧ s = .int .i64 ((Q.take k).sum) ∧ w = wr) (fun _ i _ => r.l.length - (intOf i).toNat)
  case atStart => exact ⟨0, Nat.zero_le _, rfl, by simp, rfl⟩
  case round =>
    obtain ⟨k, hk, rfl, rfl, rfl⟩ := hrel
    by_cases hlt : k < r.l.length
    · have hlti : (k : Int) < (r.l.length : Int) := by omega
      obtain ⟨b, o, bp, op, m, y, ha, hc, hpa, hpc, hm, hst⟩ := HC.out k hlt
      have hmi : (m : Int) < (p.l.length : Int) := by omega
      have b1 := HB.out k
      have b2 := HB.out (k + 1)
      obtain ⟨s, hse⟩ : ∃ s, s = (Q.take k).sum := ⟨_, rfl⟩
      rw [← hse] at hst b1 ⊢
      rw [hst] at b2
      have e1 : -9223372036854775808 ≤ s + y := by omega
      have e2 : s + y ≤ 9223372036854775807 := by omega
      have HST := Lib.hid hst
      rw [ha, hpa]
      clear hse hst ha hpa b1 b2
      go_wp2
      go_roundw
      case rel => exact ⟨k + 1, by omega, by go_num, by rw [HST.out], by first | rfl | trivial⟩
      case measure => simp [intOf]; omega
    · obtain rfl : k = r.l.length := by omega
      have HE := Lib.hid (HF.out _ rfl)
      go_wp2
      go_ret
      exact ⟨by rw [HE.out]; rfl, rfl⟩

set_option maxRecDepth 16000 in
set_option maxHeartbeats 2000000 in
theorem setRests_any (S : Sys) (p : Row) (z : Int) (n : Nat) (w : World) (hS : S.At w) (hp : p.At w) (hg : S.good = true) (hn : S.n = n) (hP : PricesN n p.l) (hz0 : 0 ≤ z) (hz1 : z ≤ 1000000) :
    Calls Try.prog 66 #[.agg #[.int .i64 S.n, .slice S.f.t.a S.f.t.R.length S.f.t.c, .slice S.f.o.a S.f.o.l.length S.f.o.c], .slice p.a p.l.length p.c, .int .i64 z] w fun e w' => ∃ t : Row, e = .returned (.slice t.a t.l.length t.c) ∧ t.l = restsS S p.l z ∧ t.Own 3 w' ∧ t.In w.heap.size w'.heap.size w' ∧ Below w.heap.size w w' := by
  obtain ⟨i0, hi, hzz0, hzz1, hzz2⟩ := info_parts infoInt
  obtain ⟨wA, hA, hb, bx, hSA, hszA⟩ := laid_sys S w 28 hS
  have HPA := Lib.hid (hp.on hb)
  have HSA := Lib.hid hSA
  have HBX := Lib.hid bx
  have HA := Lib.hid hA
  obtain ⟨m, hm, hm8, hR8, hoR, hcost, hset⟩ := good_n hg
  obtain rfl : m = n := by omega
  have hcl := con_length S.f.t
  have hRi : (S.f.t.R.length : Int) ≤ 8 := by omega
  have hOi : (S.f.o.l.length : Int) ≤ 8 := by omega
  have HCL := Lib.hid hcl
  have ho1 : S.f.t.R.length ≤ S.f.o.l.length := by omega
  have hpl := hP.len
  have hpi : (p.l.length : Int) ≤ 8 := by omega
  have HZ : Hid (0 ≤ z ∧ z ≤ 1000000) := Lib.hid ⟨hz0, hz1⟩
  have HPL := Lib.hid hpl
  have HP := Lib.hid hP
  have HCO := Lib.hid hcost
  have HSE := Lib.hid hset
  obtain ⟨w0, hw0⟩ : ∃ u, u = wA.alloc (.cells #[] 3) := ⟨_, rfl⟩
  have hb0 : Below wA.heap.size wA w0 := by rw [hw0]; exact below_alloc _ _
  have H0 : Hid (w0.ownsRow wA.heap.size 3 1 (.slice (some ⟨w.heap.size + 1, 0, none⟩) 0 0) 0 (iv [])) := Lib.hid (by have := empty_own wA; rw [← hw0, hszA] at this; rw [hszA]; exact this)
  have HW0 : Hid (w0 = (w.alloc (Obj.cells #[.int .i64 S.n, .slice S.f.t.a S.f.t.R.length S.f.t.c, .slice S.f.o.a S.f.o.l.length S.f.o.c] 28)).alloc (.cells #[] 3)) := Lib.hid (by rw [hw0, hA])
  have HB0 := Lib.hid hb0
  have hwA := hb.size
  have x1 : w0.cell? ⟨w.heap.size, 1, none⟩ = some (.slice S.f.t.a S.f.t.R.length S.f.t.c) := (bx.on hb0).c1
  rw [HW0.out] at x1
  obtain ⟨L, hL⟩ : ∃ L, L = restsS S p.l z := ⟨_, rfl⟩
  have HLL : Hid (L.length = S.f.t.R.length) := Lib.hid (by rw [hL, restsS_len, hcl])
  have HLG : Hid (∀ k, k < S.f.t.R.length → L.take (k + 1) = L.take k ++ [restS S p.l z k]) := Lib.hid (fun k hk => by
    rw [List.take_succ_eq_append_getElem (by rw [HLL.out]; exact hk)]
    congr 2
    simp only [hL]; exact restsS_get S p.l z (by rw [hcl]; exact hk))
  rw [← hL]
  clear hS hp hg hn hm hP hz0 hz1 hcost hset hpl bx hSA hA hw0 hb0 hL hszA hcl hoR hR8
  go_enter Try.func66, Try.ntmps66
  go_wp2
  go_loopw [7, 8, 9, 10, 12, 17, 31] (fun out _ _ _ _ iv_ _ wr => ∃ k : Nat, k ≤ S.f.t.R.length ∧ iv_ = .int .i64 k ∧ wr.ownsRow wA.heap.size 3 1 out k (iv (L.take k)) ∧ Below wA.heap.size wA wr) (fun _ _ _ _ _ iv_ _ _ => S.f.t.R.length - (intOf iv_).toNat)
  case atStart => exact ⟨0, Nat.zero_le _, rfl, by have := H0.out; rw [HW0.out] at this; rw [List.take_zero]; exact this, by have := HB0.out; rw [HW0.out] at this; exact this⟩
  case round =>
    obtain ⟨k, hk, rfl, hown, hnx⟩ := hrel
    have HBA := Lib.hid hnx
    have HOW := Lib.hid hown
    have hszr := hnx.size
    by_cases hlt : k < S.f.t.R.length
    · have hlti : (k : Int) < (S.f.t.R.length : Int) := by omega
      have hlto : (k : Int) < (S.f.o.l.length : Int) := by omega
      obtain ⟨bt, ot, r, hta, hcr, hrat, hrl, hrm⟩ := tab_cells HSA.out.2 hnx hlt
      obtain ⟨bo, oo, hoa, hoc⟩ := intAt_cells HSA.out.1 hnx (k := k) (by omega)
      obtain ⟨x, hx⟩ : ∃ x, x = S.f.o.l.getD k 0 := ⟨_, rfl⟩
      have hxb : 1 ≤ x ∧ x ≤ 99 := by
        rw [hx, List.getD_eq_getElem?_getD, List.getElem?_eq_getElem (by omega), Option.getD_some]
        exact HCO.out _ (List.getElem_mem _)
      rw [← hx] at hoc
      have y2 : wr.cell? ⟨w.heap.size, 2, none⟩ = some (.slice (some ⟨bo, oo, none⟩) S.f.o.l.length S.f.o.c) := by rw [← hoa]; exact (HBX.out.on hnx).c2
      have hset := HSE.out r.l (List.mem_map.2 ⟨r, hrm, rfl⟩)
      have hr8 := Nat.le_trans (set_len hset) hm8
      have hr8i : (r.l.length : Int) ≤ 8 := by omega
      obtain ⟨Q, hQ⟩ : ∃ Q, Q = prOf p.l r.l := ⟨_, rfl⟩
      have hz := HZ.out
      have hm0 : 0 ≤ x * z := Int.mul_nonneg (by omega) hz.1
      have hm1 : x * z ≤ 99 * 1000000 := Int.mul_le_mul hxb.2 hz.2 hz.1 (by omega)
      have HQB : Hid (∀ j, 0 ≤ (Q.take j).sum ∧ (Q.take j).sum ≤ 8000000) := Lib.hid fun j => by
        have := prOf_within (m := 1000000) (by omega) HP.out.all r.l j hr8
        rw [hQ]; omega
      have HQF : Hid (∀ j, j = r.l.length → restS S p.l z k = x * z - (Q.take j).sum) := Lib.hid fun j hj => by
        unfold restS
        rw [← hx, hrl, List.take_of_length_le (by rw [hQ, prOf_len, hj]; exact Nat.le_refl _), hQ]
      have HC : Hid (∀ j, j < r.l.length → ∃ b o bp op, ∃ e : Nat, ∃ y : Int, r.a = some ⟨b, o, none⟩ ∧ wr.cell? ⟨b, o + j, none⟩ = some (.int .i64 (e : Int)) ∧ p.a = some ⟨bp, op, none⟩ ∧ wr.cell? ⟨bp, op + e, none⟩ = some (.int .i64 y) ∧ e < p.l.length ∧ (Q.take (j + 1)).sum = (Q.take j).sum + y) := Lib.hid fun j hj => by
        obtain ⟨b, o, ha, hc⟩ := intAt_cells hrat (Below.refl _ _) hj
        obtain ⟨e, he, hen⟩ := set_elems hset hj
        obtain ⟨bp, op, hpa, hpc⟩ := intAt_cells HPA.out hnx (k := e) (by rw [HPL.out]; exact hen)
        refine ⟨b, o, bp, op, e, _, ha, ?_, hpa, hpc, by rw [HPL.out]; exact hen, ?_⟩
        · rw [hc, List.getD_eq_getElem?_getD, List.getElem?_eq_getElem hj, Option.getD_some, he]
        · rw [sum_step (by rw [hQ, prOf_len]; exact hj)]
          congr 1
          simp only [hQ, prOf_get p.l r.l hj, he, Int.toNat_natCast]
      have HM : Hid (0 ≤ x * z ∧ x * z ≤ 99000000) := Lib.hid ⟨hm0, by omega⟩
      have e1 : -9223372036854775808 ≤ x * z := by omega
      have e2 : x * z ≤ 9223372036854775807 := by omega
      rw [hta]
      clear hta hrat hrl hrm hoa hx hxb hset hQ hz hm0 hm1 hnx hown
      obtain ⟨y0, hy0⟩ : ∃ y0, y0 = x * z := ⟨_, rfl⟩
      rw [← hy0] at HM HQF e1 e2
      have HY0 := Lib.hid hy0
      go_wp2
      rw [← hy0]
      clear hy0
      go_loopw [10, 12, 31] (fun sv _ jv w3 => ∃ j : Nat, j ≤ r.l.length ∧ jv = .int .i64 j ∧ sv = .int .i64 (y0 - (Q.take j).sum) ∧ wr = w3) (fun _ _ jv _ => r.l.length - (intOf jv).toNat)
      case atStart => exact ⟨0, Nat.zero_le _, rfl, by simp, rfl⟩
      case round =>
        obtain ⟨j, hj, rfl, rfl, rfl⟩ := hrel
        have hm := HM.out
        by_cases hltj : j < r.l.length
        · have hltji : (j : Int) < (r.l.length : Int) := by omega
          obtain ⟨b, o, bp, op, e, y, ha, hc, hpa, hpc, he, hst⟩ := HC.out j hltj
          have hei : (e : Int) < (p.l.length : Int) := by omega
          have b1 := HQB.out j
          have b2 := HQB.out (j + 1)
          obtain ⟨s, hse⟩ : ∃ s, s = (Q.take j).sum := ⟨_, rfl⟩
          rw [← hse] at hst b1 ⊢
          rw [hst] at b2
          have f1 : -9223372036854775808 ≤ y0 - s - y := by omega
          have f2 : y0 - s - y ≤ 9223372036854775807 := by omega
          have HST : Hid (y0 - s - y = y0 - (Q.take (j + 1)).sum) := Lib.hid (by rw [hst]; omega)
          rw [ha, hpa]
          clear hse hst ha hpa b1 b2 hm
          go_wp2
          go_roundw
          case rel => exact ⟨j + 1, by omega, by go_num, by rw [HST.out], by first | rfl | trivial⟩
          case measure => simp [intOf]; omega
        · obtain rfl : j = r.l.length := by omega
          have HE : Hid (L.take (k + 1) = L.take k ++ [y0 - (Q.take r.l.length).sum]) := Lib.hid (by rw [HLG.out k hlt, HQF.out _ rfl])
          obtain ⟨v, hv⟩ : ∃ v, v = y0 - (Q.take r.l.length).sum := ⟨_, rfl⟩
          rw [← hv] at HE ⊢
          have hown := HOW.out
          clear hv hm y2 hcr hoc
          go_wp2_with (at_builtin; refine wpList_append_own _ rfl _ _ 23 rfl wA.heap.size 3 i0 (.int .i64 0) 1 8 Try.underlying23 hi hzz0 hzz1 hzz2 rfl (by decide) _ _ _ rfl (hown.alloc _) ⟨wr.heap.size, 0, none⟩ 1 1 [.int .i64 v] rfl rfl (one_cell _ _ _) (by simp [Value.oneCell']) (by unfold maxLen; omega) (by omega) (by simp; omega) ?_; intro v' w1 hown' hgrow _)
          have R1 : w1.ownsRow wA.heap.size 3 1 v' (k + 1) (iv (L.take (k + 1))) := by rw [HE.out]; simpa [iv] using hown'
          have R2 : Below wA.heap.size wA w1 := (HBA.out.alloc (by omega) _).grown hgrow (by simp; omega) (fun j hj => (hown.lt j hj).1)
          clear hown' hgrow hown
          go_wp2
          go_roundw
          case rel => exact ⟨k + 1, by omega, by go_num, R1, R2⟩
          case measure => simp [intOf]; omega
    · obtain rfl : k = S.f.t.R.length := by omega
      have hfull : L.take S.f.t.R.length = L := List.take_of_length_le (by rw [HLL.out]; exact Nat.le_refl _)
      rw [hfull] at hown
      obtain ⟨t, rfl, htl, hto, hti⟩ := rowN_of_own HLL.out.symm hown
      have HTL := Lib.hid htl
      have hbw := hb.trans (hnx.mono hwA)
      clear htl hfull hown hnx
      go_wp2
      go_ret
      exact ⟨t, rfl, HTL.out, hto, hti.wide hwA (Nat.le_refl _), hbw⟩
end Go.Proofs.Ytffjlecibpmgiaa
