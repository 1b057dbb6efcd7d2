/- The contracts of one round of the ascent, the program's side. Condition: Field and prices read as such, the prices are fair and the call's own. -/
import Derived.Test.YtgapoeliijnmaaaAscent
namespace Go.Proofs.Ytgapoeliijnmaaa
open Go.RowKit

theorem over_same (xs ms : List Value) (j : Nat) (x : Value) (h : ms.length = xs.length) (h1 : ms[j]? = some x) (h2 : xs[j]? = some x) : over xs ms (j + 1) = over xs ms j := by
  have hj : j < xs.length := (List.getElem?_eq_some_iff.1 h2).1
  rw [← over_set xs ms j x h h1]
  have h3 := over_at xs ms j h (by omega)
  rw [h2] at h3
  obtain ⟨h4, h5⟩ := List.getElem?_eq_some_iff.1 h3
  rw [← h5]
  exact List.set_getElem_self h4

set_option maxRecDepth 8000 in
set_option maxHeartbeats 1000000 in
theorem ascentOf_any (F : Fld) (p : Row) (j : Nat) (w : World) (hF : F.At w) (hp : p.At w) (hq : Asc F p.l) (hj : j < F.t.R.length) :
    Calls Try.prog 48 #[F.val, .slice p.a p.l.length p.c, .int .i64 j] w fun e w' => e = .returned (.int .i64 (nextOf F p.l j)) ∧ Below w.heap.size w w' := by
  obtain ⟨wA, hA, hbA, bx, hFA, _⟩ := laid_fld F w 29 hF
  have hpA := hp.on hbA
  have hsz := good_sizes hq.good
  have hoi : (F.o.l.length : Int) ≤ 7 := by omega
  have hRi : (F.t.R.length : Int) ≤ 7 := by omega
  have hpi : (p.l.length : Int) ≤ 7 := by have := hq.len; omega
  have hji : (j : Int) < (F.t.R.length : Int) := by omega
  have hjp : j < p.l.length := by have := hq.len; omega
  have hjpi : (j : Int) < (p.l.length : Int) := by omega
  have HQ := Lib.hid hq
  have HBX := Lib.hid bx
  have HA := Lib.hid hA
  have CC := Lib.hid (restsFor_any F p wA hFA hpA hq.good (asc_due hq) hq.len)
  obtain ⟨_, _, p3⟩ := hpA
  rcases p3 with p3 | ⟨bp, op, hpa, hpb, hpc⟩
  · have p3' := congrArg List.length (iv_nil p3); rw [List.length_nil] at p3'; omega
  obtain ⟨x, hx⟩ : ∃ x, x = p.l.getD j 0 := ⟨_, rfl⟩
  have hcx : wA.cell? ⟨bp, op + j, none⟩ = some (.int .i64 x) := by rw [hx, getD_at hjp]; exact hpc j _ (iv_at hjp)
  have hxb : 0 ≤ x ∧ x ≤ 198 := by rw [hx]; exact ⟨hq.pos j, asc_le hq j⟩
  have HX := Lib.hid hx
  have HTJ := Lib.hid (row_cells hFA hq.good (DrewTo.refl wA) hj)
  have hn0 : 0 < F.o.l.length := by omega
  have hcx0 := hcx
  rw [hA] at hcx0
  rw [hpa] at CC ⊢
  clear hF hp hA hFA bx hpc hx hq hsz hcx hpa
  show Calls _ _ #[.agg #[F.o.val, F.t.val], _, _] w _
  go_enter Try.func48, Try.ntmps48
  go_wp2_with fail
  rw [show w.alloc (Obj.cells #[F.o.val, F.t.val] 29) = wA from HA.out.symm]
  refine (show Calls _ _ _ _ _ from CC.out).mono ?_
  rintro e W1 ⟨t, rfl, htl, hto, hti, hb1⟩
  clear hcx0
  obtain ⟨ta, tc, tl⟩ := t
  simp only at htl
  subst htl
  rw [show (restsTo F p.l F.o.l.length).length = F.o.l.length from rests_length _ _ _]
  obtain ⟨g, hga, ho⟩ := hto.resolve_left (fun h => by have := congrArg List.length h; simp only [rests_length, List.length_nil] at this; omega)
  simp only [rests_length] at hga ho
  subst hga
  obtain ⟨_, _, h3⟩ := hti
  obtain ⟨_, _, e0, hlo, _, _, _⟩ := h3.resolve_left (fun h => by have := congrArg List.length (iv_nil h); simp only [rests_length, List.length_nil] at this; omega)
  simp only [Option.some.injEq, Addr.mk.injEq] at e0
  obtain ⟨rfl, rfl, _⟩ := e0
  have HML : Hid ((iv (gapsOf F p.l j)).length = (iv (restsTo F p.l F.o.l.length)).length) := Lib.hid (by rw [iv_length, iv_length, gaps_length, rests_length])
  have H0 : Hid (W1.ownsRow 0 3 1 (.slice (some ⟨g, 0, none⟩) F.o.l.length tc) F.o.l.length (over (iv (restsTo F p.l F.o.l.length)) (iv (gapsOf F p.l j)) 0)) := Lib.hid (by rw [over_zero]; exact ho)
  have HB1 := Lib.hid hb1
  have HLO := Lib.hid hlo
  obtain ⟨bt, ot, bi, oi, ci, hta, hci, hri⟩ := HTJ.out
  have y1 : W1.cell? ⟨w.heap.size, 1, none⟩ = some (.slice (some ⟨bt, ot, none⟩) F.t.R.length F.t.c) := by rw [← hta]; exact (HBX.out.on hb1).c1
  have hcr : W1.cell? ⟨bt, ot + j, none⟩ = some (.slice (some ⟨bi, oi, none⟩) F.o.l.length ci) := (hb1.cell (p := ⟨bt, ot + j, none⟩) (World.block_lt_of_cell? _ _ hci)).trans hci
  have HRI := Lib.hid hri
  clear hto h3 ho hb1 hlo hta hci hri
  go_wp2
  clear y1 hcr
  go_loopw [9, 10, 24] (fun _ _ i wr => ∃ k : Nat, k ≤ F.o.l.length ∧ i = .int .i64 k ∧ wr.ownsRow 0 3 1 (.slice (some ⟨g, 0, none⟩) F.o.l.length tc) F.o.l.length (over (iv (restsTo F p.l F.o.l.length)) (iv (gapsOf F p.l j)) k) ∧ Below wA.heap.size wA wr) (fun _ _ i _ => F.o.l.length - (intOf i).toNat)
  case atStart => exact ⟨0, Nat.zero_le _, rfl, H0.out, HB1.out⟩
  case round =>
    obtain ⟨k, hk, rfl, hown, hnx⟩ := hrel
    by_cases hlt : k < F.o.l.length
    · have hlti : (k : Int) < (F.o.l.length : Int) := by omega
      have hlo := HLO.out
      obtain ⟨y, hy⟩ : ∃ y, y = F.len j k := ⟨_, rfl⟩
      have hr1 := HRI.out k hlt
      have hcy : wr.cell? ⟨bi, oi + k, none⟩ = some (.int .i64 y) := (hnx.cell (p := ⟨bi, oi + k, none⟩) (World.block_lt_of_cell? _ _ hr1)).trans (by rw [hy]; exact hr1)
      have hyb := len_bound HQ.out.good hj k
      rw [← hy] at hyb
      have hgat : (iv (gapsOf F p.l j))[k]? = some (.int .i64 (gapAt F p.l j k)) := by
        rw [iv_at (by rw [gaps_length]; exact hlt)]; simp [gapsOf]
      have hrat : (iv (restsTo F p.l F.o.l.length))[k]? = some (.int .i64 (restAt F p.l k)) := by
        rw [iv_at (by rw [rests_length]; exact hlt), rests_at F p.l hlt]
      have HGV : Hid (gapAt F p.l j k = if y ≤ x then restAt F p.l k else y - x) := Lib.hid (by rw [hy, HX.out]; rfl)
      by_cases hxy : x < y
      · have hrl : (iv (restsTo F p.l F.o.l.length)).length = F.o.l.length := by rw [iv_length, rests_length]
        obtain ⟨z, hz⟩ : ∃ z, wr.cell? ⟨g, k, none⟩ = some z := ⟨_, (hown.cellAt k (by omega)).trans ((over_at _ _ k HML.out (by rw [hrl]; exact hk)).trans hrat)⟩
        have hf := hown.frozenAt k
        have hst := hown.stored k (.int .i64 (y - x))
        rw [HGV.out, if_neg (by omega)] at hgat
        rw [over_set _ _ k _ HML.out hgat] at hst
        have R1 := Lib.hid hst.1
        have R2 := Lib.hid (hnx.setCell (p := ⟨g, k, none⟩) hlo (.int .i64 (y - x)))
        have w2 : IntKind.i64.wrap (y - x) = y - x := IntWalk.i64_in _ (by omega)
        have e1 : -9223372036854775808 ≤ y - x := by omega
        have e2 : y - x ≤ 9223372036854775807 := by omega
        clear hy hst hgat hrat hown hnx hrl hlo hr1 hyb hxb
        go_wp2
        have Q1 := R1.out
        have Q2 := R2.out
        go_roundw
        case rel => exact ⟨k + 1, by omega, by go_num, Q1, Q2⟩
        case measure => simp [intOf]; omega
      · have HSM : Hid (over (iv (restsTo F p.l F.o.l.length)) (iv (gapsOf F p.l j)) (k + 1) = over (iv (restsTo F p.l F.o.l.length)) (iv (gapsOf F p.l j)) k) := Lib.hid (over_same _ _ k _ HML.out (by rw [hgat, HGV.out, if_pos (by omega)]) hrat)
        have HO := Lib.hid hown
        have HN := Lib.hid hnx
        clear hy hgat hrat hown hnx hlo hr1 hyb hxb
        go_wp2
        go_roundw
        case rel => exact ⟨k + 1, by omega, by go_num, by rw [HSM.out]; exact HO.out, HN.out⟩
        case measure => simp [intOf]; omega
    · obtain rfl : k = F.o.l.length := by omega
      have hall := over_all (iv (restsTo F p.l F.o.l.length)) (iv (gapsOf F p.l j)) HML.out
      rw [iv_length, rests_length] at hall
      rw [hall] at hown
      have hown1 : wr.ownsRow 0 3 1 (.slice (some ⟨g, 0, none⟩) (gapsOf F p.l j).length tc) (gapsOf F p.l j).length (iv (gapsOf F p.l j)) := by rw [gaps_length]; exact hown
      have CM := Lib.hid (by
        have := min_any ⟨some ⟨g, 0, none⟩, tc, gapsOf F p.l j⟩ wr (row_of_owns hown1) (by simp only; rw [gaps_length]; exact hn0) (by simp only; rw [gaps_length]; omega)
        simp only [gaps_length] at this
        exact this : Calls Try.prog 30 #[.slice (some ⟨g, 0, none⟩) F.o.l.length tc] wr fun e w' => e = .returned (.int .i64 (nextOf F p.l j)) ∧ w' = wr)
      have HN := Lib.hid (hbA.trans (hnx.mono hbA.size))
      clear hall hown hown1 hnx
      go_wp2_with fail
      refine CM.out.mono ?_
      rintro e W ⟨rfl, rfl⟩
      go_wp2
      go_ret
      exact ⟨rfl, HN.out⟩

set_option maxRecDepth 8000 in
set_option maxHeartbeats 1000000 in
theorem ascendRound_any (F : Fld) (g c B : Nat) (l : List Int) (w : World) (hF : F.In 0 B w) (hB : B ≤ g) (ho : w.ownsRow 0 3 1 (.slice (some ⟨g, 0, none⟩) F.t.R.length c) F.t.R.length (iv l)) (hq : Asc F l) :
    Calls Try.prog 31 #[F.val, .slice (some ⟨g, 0, none⟩) F.t.R.length c] w fun e w' => ∃ b : Bool, e = .returned (.bool b) ∧ (b = false → round1 F l = l) ∧ (b = true → l.sum < (round1 F l).sum) ∧ w'.ownsRow 0 3 1 (.slice (some ⟨g, 0, none⟩) F.t.R.length c) F.t.R.length (iv (round1 F l)) ∧ Touch g (g + 1) w w' := by
  obtain ⟨wA, hA, hbA, bx, hFA, hszA⟩ := laid_fld F w 29 hF.at
  have hsz := good_sizes hq.good
  have hRi : (F.t.R.length : Int) ≤ 7 := by omega
  have hgl := (owns_lt ho).1
  have HFI := Lib.hid (hF.on hbA)
  have H0 := Lib.hid (owns_below ho hbA)
  have HBX := Lib.hid bx
  have HA := Lib.hid hA
  have HQ := Lib.hid hq
  have HTA : Hid (Touch g (g + 1) w wA) := Lib.hid (Touch.of_below hbA)
  clear hF hA hFA bx hq hsz ho
  show Calls _ _ #[.agg #[F.o.val, F.t.val], _] w _
  go_enter Try.func31, Try.ntmps31
  go_wp2
  go_loopw [5, 6, 7, 10] (fun bv _ _ i wr => ∃ (k : Nat) (b : Bool), k ≤ F.t.R.length ∧ i = .int .i64 k ∧ bv = .bool b ∧ (b = false → rnd F l k = l) ∧ (b = true → l.sum < (rnd F l k).sum) ∧ wr.ownsRow 0 3 1 (.slice (some ⟨g, 0, none⟩) F.t.R.length c) F.t.R.length (iv (rnd F l k)) ∧ Touch g (g + 1) wA wr) (fun _ _ _ i _ => F.t.R.length - (intOf i).toNat)
  case atStart => exact ⟨0, false, Nat.zero_le _, rfl, rfl, fun _ => rfl, fun h => (by cases h), by have := H0.out; rw [HA.out] at this; exact this, by rw [HA.out]; exact Touch.refl _ _ _⟩
  case round =>
    obtain ⟨k, b, hk, rfl, rfl, hb0, hb1, hown, ht⟩ := hrel
    have HB0 := Lib.hid hb0
    have HB1 := Lib.hid hb1
    clear hb0 hb1
    by_cases hlt : k < F.t.R.length
    · have hlti : (k : Int) < (F.t.R.length : Int) := by omega
      have hasc := rnd_asc HQ.out k hk
      obtain ⟨q, hqd⟩ : ∃ q, q = rnd F l k := ⟨_, rfl⟩
      rw [← hqd] at hown hasc HB0 HB1
      have hql : q.length = F.t.R.length := hasc.len
      have hbx1 := HBX.out.touch ht (.inr (by omega))
      have y0 := hbx1.c0
      have y1 := hbx1.c1
      have hFr := (HFI.out.touch ht (.inl hB)).at
      have hpr : Row.At wr ⟨some ⟨g, 0, none⟩, c, q⟩ := by
        have h1 : wr.ownsRow 0 3 1 (.slice (some ⟨g, 0, none⟩) q.length c) q.length (iv q) := by rw [hql]; exact hown
        exact row_of_owns h1
      obtain ⟨s, hs⟩ : ∃ s, s = nextOf F q k := ⟨_, rfl⟩
      have CA := Lib.hid (by
        have := ascentOf_any F ⟨some ⟨g, 0, none⟩, c, q⟩ k wr hFr hpr hasc hlt
        simp only [hql] at this
        rw [← hs] at this
        exact this : Calls Try.prog 48 #[F.val, .slice (some ⟨g, 0, none⟩) F.t.R.length c, .int .i64 k] wr fun e w' => e = .returned (.int .i64 s) ∧ Below wr.heap.size wr w')
      have hsb := (next_spec hasc k).2.1
      have hsl := next_le hasc hlt
      rw [← hs] at hsb hsl
      have hkq : k < q.length := by rw [hql]; exact hlt
      obtain ⟨x, hx⟩ : ∃ x, x = q.getD k 0 := ⟨_, rfl⟩
      have hxb : 0 ≤ x ∧ x ≤ 198 := by rw [hx]; exact ⟨hasc.pos k, asc_le hasc k⟩
      have HST : Hid (rnd F l (k + 1) = q.set k (x + s)) := Lib.hid (by rw [hx, hs, hqd]; rfl)
      have HSU : Hid ((rnd F l (k + 1)).sum = q.sum + s) := Lib.hid (by rw [show rnd F l (k + 1) = raise F q k by rw [hqd]; rfl, raise_sum hkq, hs])
      have HSZ : Hid (s = 0 → rnd F l (k + 1) = q) := Lib.hid fun h => by rw [show rnd F l (k + 1) = raise F q k by rw [hqd]; rfl, raise_same hkq (by rw [← hs]; exact h)]
      have HO := Lib.hid hown
      have HT := Lib.hid ht
      have HXI := Lib.hid (show (iv q)[k]? = some (.int .i64 x) by rw [iv_at hkq, hx, getD_at hkq])
      clear hqd hql hbx1 hFr hpr hs hx hown ht hasc hkq
      go_wp2_with fail
      refine (show Calls _ _ _ _ _ from CA.out).mono ?_
      rintro e W2 ⟨rfl, hb2⟩
      have hown2 := owns_below HO.out hb2
      have hcx : W2.cell? ⟨g, k, none⟩ = some (.int .i64 x) := (hown2.cellAt k (by omega)).trans HXI.out
      have hf := hown2.frozenAt k
      have hst := hown2.stored k (.int .i64 (x + s))
      rw [show (iv q).set k (.int .i64 (x + s)) = iv (rnd F l (k + 1)) by rw [HST.out]; unfold iv; rw [List.map_set]] at hst
      have R1 := Lib.hid hst.1
      have R2 := Lib.hid ((HT.out.trans (Touch.of_below hb2)).trans (set_touch W2 g k (.int .i64 (x + s))))
      have w2 : IntKind.i64.wrap (x + s) = x + s := IntWalk.i64_in _ (by omega)
      have e1 : (0 : Int) ≤ x + s := by omega
      have e2 : x + s ≤ 9223372036854775807 := by omega
      clear hst hown2 hb2 y0 y1 hxb hsl
      cases b with
      | true =>
        have HB : Hid (l.sum < (rnd F l (k + 1)).sum) := Lib.hid (by have := HB1.out rfl; rw [HSU.out]; omega)
        clear hsb
        go_wp2
        have Q1 := R1.out
        have Q2 := R2.out
        go_roundw
        case rel => exact ⟨k + 1, true, by omega, by go_num, rfl, fun h => (by cases h), fun _ => HB.out, Q1, Q2⟩
        case measure => simp [intOf]; omega
      | false =>
        by_cases hs0 : 0 < s
        · have HB : Hid (l.sum < (rnd F l (k + 1)).sum) := Lib.hid (by have := HB0.out rfl; rw [HSU.out, this]; omega)
          clear hsb
          go_wp2
          have Q1 := R1.out
          have Q2 := R2.out
          go_roundw
          case rel => exact ⟨k + 1, true, by omega, by go_num, by first | rfl | simp, fun h => (by cases h), fun _ => HB.out, Q1, Q2⟩
          case measure => simp [intOf]; omega
        · have HB : Hid (rnd F l (k + 1) = l) := Lib.hid (by rw [HSZ.out (by omega)]; exact HB0.out rfl)
          clear hsb
          go_wp2
          have Q1 := R1.out
          have Q2 := R2.out
          go_roundw
          case rel => exact ⟨k + 1, false, by omega, by go_num, by first | rfl | (simp; omega), fun _ => HB.out, fun h => (by cases h), Q1, Q2⟩
          case measure => simp [intOf]; omega
    · obtain rfl : k = F.t.R.length := by omega
      go_wp2
      go_ret
      exact ⟨b, rfl, HB0.out, HB1.out, hown, HTA.out.trans ht⟩

end Go.Proofs.Ytgapoeliijnmaaa
