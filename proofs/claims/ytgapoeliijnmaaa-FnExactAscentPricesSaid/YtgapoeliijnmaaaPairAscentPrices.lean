/- Both sides of AscentPrices answer alike. Condition: the Field reads as such. -/
import Derived.Test.YtgapoeliijnmaaaAscentImpl
import Derived.Deep.LoopGhost
namespace Go.Proofs.Ytgapoeliijnmaaa
open Go.RowKit

/-- What AscentPrices answers. -/
def AscIs (F : Fld) (l : List Int) (b : Bool) : Prop := (F.good = false ∧ l = [] ∧ b = false) ∨ (F.good = true ∧ AscEnd F (startTo F F.t.R.length) l ∧ b = true)
theorem fair_asc {F : Fld} {i : Nat} (h : F.good = true) : Asc F (itr F (startTo F F.t.R.length) i) := itr_asc (start_asc h) i

/-- A row of the call's own, for the answer. -/
theorem ints_own {w w' : World} {B g c : Nat} {l : List Int} {n : Nat} {b : Bool} (hn : n = l.length) (h : w'.ownsRow B 3 1 (.slice (some ⟨g, 0, none⟩) n c) n (iv l)) (hB : w.heap.size ≤ g) (hb : Below w.heap.size w w') :
    PInts l b w (.returned (.tuple #[.slice (some ⟨g, 0, none⟩) n c, .bool b])) w' := by
  subst hn
  obtain ⟨q1, q2, q3⟩ := row_of_owns h
  refine ⟨⟨some ⟨g, 0, none⟩, c, l⟩, rfl, rfl, .inr ⟨g, rfl, owns_base h⟩, ⟨q1, q2, ?_⟩, hb⟩
  rcases q3 with q3 | ⟨b', o', e', hb', hc'⟩
  · exact .inl q3
  · simp only [Option.some.injEq, Addr.mk.injEq] at e'
    obtain ⟨rfl, rfl, _⟩ := e'
    exact .inr ⟨_, _, rfl, hB, hb', hb', hc'⟩

theorem owns_more {w : World} {B B' n : Nat} {e : TypeId} {v : Value} {xs : List Value} (h : w.ownsRow B e 1 v n xs) (hB : B' ≤ B) : w.ownsRow B' e 1 v n xs := by
  obtain ⟨h1, h2⟩ := id h
  refine ⟨h1, ?_⟩
  rcases h2 with h2 | ⟨g, cap, cur, rfl, hg, r⟩
  · exact .inl h2
  · exact .inr ⟨g, cap, cur, rfl, Nat.le_trans hB hg, r⟩

set_option maxRecDepth 8000 in
set_option maxHeartbeats 1000000 in
theorem implAscent_any (F : Fld) (w : World) (hF : F.At w) (l : List Int) (b : Bool) (hv : AscIs F l b) :
    Calls Try.prog 13 #[F.val] w (PInts l b w) := by
  obtain ⟨i0, hi, hz0, hz1, hz2⟩ := info_parts infoInt
  obtain ⟨wA, hA, hbA, bx, hFA, hszA⟩ := laid_fld F w 29 hF
  have HFA := Lib.hid hFA
  have HBX := Lib.hid bx
  have HA := Lib.hid hA
  have CT := Lib.hid (implIsField_any F wA hFA)
  clear hF hA hFA bx
  show Calls _ _ #[.agg #[F.o.val, F.t.val]] w _
  go_enter Try.func13, Try.ntmps13
  go_wp2_with fail
  rw [show w.alloc (Obj.cells #[F.o.val, F.t.val] 29) = wA from HA.out.symm]
  refine (show Calls _ _ _ _ _ from CT.out).mono ?_
  rintro e W1 ⟨rfl, hb1⟩
  have hbw := hbA.trans (hb1.mono hbA.size)
  have hown0 := empty_own W1
  have hb0 := below_alloc W1 (.cells #[] 3)
  have H0 := Lib.hid hown0
  have HBW := Lib.hid hbw
  have hszw := hbw.size
  have hsz1 := hb1.size
  rcases hv with ⟨hv, rfl, rfl⟩ | ⟨hv, hend, rfl⟩
  · rw [hv]
    have HE := Lib.hid (hbw.trans (hb0.mono hbw.size))
    clear hv hown0 hbw hb0
    go_wp2
    go_ret2
    exact ints_end rfl H0.out hszw HE.out
  rw [hv]
  have hsz := good_sizes hv
  have hRi : (F.t.R.length : Int) ≤ 7 := by omega
  have HGD := Lib.hid hv
  have HEND := Lib.hid hend
  have hbA1 := hb1.trans (hb0.mono hb1.size)
  have HB1 := Lib.hid hbA1
  have y1 : (W1.alloc (.cells #[] 3)).cell? ⟨w.heap.size, 1, none⟩ = some (.slice F.t.a F.t.R.length F.t.c) := (HBX.out.on hbA1).c1
  clear hv hend hown0 hbw hb0 hsz hb1 hbA1
  go_wp2
  clear y1
  go_loopw [4, 6, 15] (fun out _ i wr => ∃ k : Nat, k ≤ F.t.R.length ∧ i = .int .i64 k ∧ wr.ownsRow wA.heap.size 3 1 out k (iv (startTo F k)) ∧ Below wA.heap.size wA wr ∧ out ≠ .slice none 0 0) (fun _ _ i _ => F.t.R.length - (intOf i).toNat)
  case atStart => exact ⟨0, Nat.zero_le _, rfl, owns_more H0.out hsz1, HB1.out, by simp⟩
  case round =>
    obtain ⟨k, hk, rfl, hown, hnx, hnn⟩ := hrel
    by_cases hlt : k < F.t.R.length
    · have hlti : (k : Int) < (F.t.R.length : Int) := by omega
      obtain ⟨_, _, r3⟩ := HFA.out.2.1
      rcases r3 with r3 | ⟨bR, oR, hRa, hRb, hRc⟩
      · have r3' := congrArg List.length r3; rw [tv_length, List.length_nil] at r3'; omega
      obtain ⟨r, hr⟩ : ∃ r, r = F.t.R[k] := ⟨_, rfl⟩
      have hcr : wr.cell? ⟨bR, oR + k, none⟩ = some (.slice r.a r.l.length r.c) := (hnx.cell (p := ⟨bR, oR + k, none⟩) hRb).trans (by rw [hr]; exact hRc k _ (tv_at hlt))
      have hrm : r ∈ F.t.R := by rw [hr]; exact List.getElem_mem hlt
      have hgr := good_row HGD.out hrm
      have hno := good_sizes HGD.out
      obtain ⟨v, hv⟩ : ∃ v, v = Lib.minOf r.l := ⟨_, rfl⟩
      have CM := Lib.hid (by have := min_any r wr ((HFA.out.2.2 r hrm).on hnx) (by omega) (by omega); rw [← hv] at this; exact this : Calls Try.prog 30 #[.slice r.a r.l.length r.c] wr fun e w' => e = .returned (.int .i64 v) ∧ w' = wr)
      have HL : Hid (startTo F (k + 1) = startTo F k ++ [v]) := Lib.hid (by rw [start_step, row_con hlt, ← hr, hv])
      have hkl : (startTo F k).length = k := start_length F k
      have HKL := Lib.hid hkl
      have HN := Lib.hid hnx
      have NN := Lib.hid hnn
      have hszr := hnx.size
      rw [hRa]
      clear hr hrm hgr hno hv hkl hnx hnn hRc hRa
      go_wp2_with fail
      refine CM.out.mono ?_
      rintro e W ⟨rfl, rfl⟩
      go_wp2_with (at_builtin; refine wpList_append_own _ rfl _ _ 22 rfl wA.heap.size 3 i0 (.int .i64 0) 1 8 Try.underlying22 hi hz0 hz1 hz2 rfl (by decide) _ _ _ rfl (hown.alloc _) ⟨W.heap.size, 0, none⟩ 1 1 [.int .i64 v] rfl rfl (one_cell _ _ _) (by simp [Value.oneCell']) (by unfold maxLen; omega) (by omega) (by simp; omega) ?_; intro v' w1 hown' hgrow hnil)
      have R1 : w1.ownsRow wA.heap.size 3 1 v' (k + 1) (iv (startTo F (k + 1))) := by rw [HL.out]; simpa [iv] using hown'
      have R2 : Below wA.heap.size wA w1 := (HN.out.alloc (by omega) _).grown hgrow (by simp; omega) (fun j hj => (hown.lt j hj).1)
      have R3 : v' ≠ .slice none 0 0 := fun e => NN.out (hnil.1 e).1
      clear hown' hgrow hown hnil hcr
      go_wp2
      go_roundw
      case rel => exact ⟨k + 1, by omega, by go_num, R1, R2, R3⟩
      case measure => simp [intOf]; omega
    · obtain rfl : k = F.t.R.length := by omega
      obtain ⟨g, cap, rfl⟩ : ∃ g cap, u4 = .slice (some ⟨g, 0, none⟩) F.t.R.length cap := by
        rcases id hown.2 with ⟨h, _⟩ | ⟨g, cap, cur, h, _⟩
        · exact absurd h hnn
        · exact ⟨g, cap, h⟩
      have hgB := (owns_lt hown).2.2.2
      have H1 := Lib.hid (owns_base hown)
      have HN := Lib.hid hnx
      have hgw : w.heap.size ≤ g := Nat.le_trans hbA.size hgB
      clear hown hnx hnn
      go_wp2
      go_loopg [] 1387 (fun gk wr => ∃ i, (1387 - (itr F (startTo F F.t.R.length) i).sum).toNat ≤ gk ∧ wr.ownsRow 0 3 1 (.slice (some ⟨g, 0, none⟩) F.t.R.length cap) F.t.R.length (iv (itr F (startTo F F.t.R.length) i)) ∧ Below wA.heap.size wA wr)
      case atStart => exact ⟨0, by have := sum_ge _ (start_asc HGD.out).pos; show (1387 - (startTo F F.t.R.length).sum).toNat ≤ 1387; omega, H1.out, HN.out⟩
      case round =>
        obtain ⟨i, hgk, hown, hnx⟩ := hrel
        have hasc := fair_asc (i := i) HGD.out
        have hsum := asc_sum hasc
        have y0 := (HBX.out.on hnx).c0
        have y1 := (HBX.out.on hnx).c1
        have hlo := sum_ge _ hasc.pos
        obtain ⟨q, hq⟩ : ∃ q, q = itr F (startTo F F.t.R.length) i := ⟨_, rfl⟩
        have HQ := Lib.hid hq
        have CA := Lib.hid (by
          have := ascendRound_any F g cap wA.heap.size q wr (HFA.out.in.on hnx) hgB (by rw [hq]; exact hown) (by rw [hq]; exact hasc)
          exact this : Calls Try.prog 31 #[F.val, .slice (some ⟨g, 0, none⟩) F.t.R.length cap] wr fun e w' => ∃ b : Bool, e = .returned (.bool b) ∧ (b = false → round1 F q = q) ∧ (b = true → q.sum < (round1 F q).sum) ∧ w'.ownsRow 0 3 1 (.slice (some ⟨g, 0, none⟩) F.t.R.length cap) F.t.R.length (iv (round1 F q)) ∧ Touch g (g + 1) wr w')
        have HNX := Lib.hid hnx
        have hszr := hnx.size
        rw [← hq] at hgk hsum hlo
        have HGK := Lib.hid hgk
        clear hown hnx hasc hq hgk
        go_wp2_with fail
        refine (show Calls _ _ _ _ _ from CA.out).mono ?_
        rintro e W2 ⟨b, rfl, hb0, hb1, hown2, ht⟩
        have R2 := Lib.hid (HNX.out.trans (ht.below hgB hszr))
        have R1 := Lib.hid hown2
        have HB0 := Lib.hid hb0
        have HB1 := Lib.hid hb1
        have HIT : Hid (round1 F q = itr F (startTo F F.t.R.length) (i + 1)) := Lib.hid (by rw [HQ.out]; rfl)
        clear hown2 ht hb0 hb1 y0 y1
        cases b with
        | true =>
          have hup := HB1.out rfl
          have hsum2 : (round1 F q).sum ≤ 1386 := by rw [HIT.out]; exact asc_sum (fair_asc HGD.out)
          have hk' : (1387 - (round1 F q).sum).toNat < gk := by have := HGK.out; omega
          have HK := Lib.hid hk'
          obtain ⟨z, hz⟩ : ∃ z, z = (1387 - (round1 F q).sum).toNat := ⟨_, rfl⟩
          have HZ := Lib.hid hz
          clear hup hsum2 hk' hz
          go_wp2
          go_roundg z
          case rel => exact ⟨i + 1, by rw [← HIT.out, ← HZ.out]; exact Nat.le_refl _, by rw [← HIT.out]; exact R1.out, R2.out⟩
          case measure => rw [HZ.out]; exact HK.out
        | false =>
          have HL : Hid (l = q) := Lib.hid (end_unique HEND.out ⟨i, HQ.out, HB0.out rfl⟩)
          have HO : Hid (W2.ownsRow 0 3 1 (.slice (some ⟨g, 0, none⟩) F.t.R.length cap) F.t.R.length (iv l)) := Lib.hid (by rw [HL.out]; have := R1.out; rw [HB0.out rfl] at this; exact this)
          have HLN : Hid (F.t.R.length = l.length) := Lib.hid (by rw [HL.out, HQ.out]; exact (fair_asc HGD.out).len.symm)
          go_wp2
          go_ret2
          exact ints_own HLN.out HO.out hgw (hbA.trans (R2.out.mono hbA.size))

/-- The least of the first number and the first k ones. -/
def leastTo (row : List Int) : Nat → Int
  | 0 => row.getD 0 0
  | k + 1 => Lib.minOf (row.take (k + 1))
theorem least_step {row : List Int} {k : Nat} (h : k < row.length) : leastTo row (k + 1) = min (leastTo row k) (row.getD k 0) := by
  cases k with
  | zero => show Lib.minOf (row.take 1) = min (row.getD 0 0) (row.getD 0 0); rw [Lib.minOf_one]; omega
  | succ k => show Lib.minOf (row.take (k + 1 + 1)) = min (Lib.minOf (row.take (k + 1))) _; rw [Lib.minOf_step row (k + 1) (by omega) h]
theorem least_end {row : List Int} (h : 0 < row.length) : leastTo row row.length = Lib.minOf row := by
  obtain ⟨k, hk⟩ : ∃ k, row.length = k + 1 := ⟨row.length - 1, by omega⟩
  rw [hk]
  show Lib.minOf (row.take (k + 1)) = _
  rw [List.take_of_length_le (by omega)]
theorem least_bound {row : List Int} (h : ∀ x ∈ row, 0 ≤ x ∧ x ≤ 99) (k : Nat) (hk : k ≤ row.length) : 0 ≤ leastTo row k ∧ leastTo row k ≤ 99 := by
  cases k with
  | zero => exact getD_bound h 0
  | succ k =>
    obtain ⟨_, j, h1, h2⟩ := min_le (k + 1) row (by omega) hk
    show 0 ≤ Lib.minOf (row.take (k + 1)) ∧ Lib.minOf (row.take (k + 1)) ≤ 99
    rw [h2]; exact getD_bound h j

set_option maxRecDepth 8000 in
set_option maxHeartbeats 1000000 in
theorem l3Ascent_any (F : Fld) (w : World) (hF : F.At w) (hg : F.good = true) (l : List Int) (hend : AscEnd F (startTo F F.t.R.length) l) :
    Calls Try.prog 28 #[F.val] w fun e w' => ∃ g c, e = .returned (.slice (some ⟨g, 0, none⟩) l.length c) ∧ w'.ownsRow 0 3 1 (.slice (some ⟨g, 0, none⟩) l.length c) l.length (iv l) ∧ w.heap.size ≤ g ∧ Below w.heap.size w w' := by
  obtain ⟨i0, hi, hz0, hz1, hz2⟩ := info_parts infoInt
  obtain ⟨wA, hA, hbA, bx, hFA, hszA⟩ := laid_fld F w 29 hF
  have HFA := Lib.hid hFA
  have HBX := Lib.hid bx
  have HA := Lib.hid hA
  have H0 := Lib.hid (empty_own wA)
  have HB0 := Lib.hid (below_alloc wA (.cells #[] 3))
  have hsz := good_sizes hg
  have hRi : (F.t.R.length : Int) ≤ 7 := by omega
  have hoi : (F.o.l.length : Int) ≤ 7 := by omega
  have hn0 : 0 < F.o.l.length := by omega
  have hn0i : (0 : Int) < (F.o.l.length : Int) := by omega
  have HGD := Lib.hid hg
  have HEND := Lib.hid hend
  have HSZ := Lib.hid hszA
  have x1 : (wA.alloc (.cells #[] 3)).cell? ⟨w.heap.size, 1, none⟩ = some (.slice F.t.a F.t.R.length F.t.c) := ((Box2.later bx _)).c1
  clear hF hA hFA bx hsz hg hend hszA
  show Calls _ _ #[.agg #[.slice F.o.a F.o.l.length F.o.c, .slice F.t.a F.t.R.length F.t.c]] w _
  rw [HA.out] at x1
  go_enter Try.func28, Try.ntmps28
  go_wp2
  clear x1
  go_loopw [3, 4, 5, 6] (fun out i _ _ wr => ∃ k : Nat, k ≤ F.t.R.length ∧ i = .int .i64 k ∧ wr.ownsRow wA.heap.size 3 1 out k (iv (startTo F k)) ∧ Below wA.heap.size wA wr ∧ out ≠ .slice none 0 0) (fun _ i _ _ _ => F.t.R.length - (intOf i).toNat)
  case atStart =>
    have e := HA.out
    have h0 := H0.out
    have h1 := HB0.out
    clear HA H0 HB0 HFA HBX HSZ
    subst e
    have hsz : (w.alloc (Obj.cells #[F.o.val, F.t.val] 29)).heap.size = w.heap.size + 1 := size_alloc _ _
    rw [hsz] at h0
    exact ⟨0, Nat.zero_le _, rfl, by rw [hsz]; exact h0, h1, by simp⟩
  case round =>
    obtain ⟨k, hk, rfl, hown, hnx, hnn⟩ := hrel
    have y1 : wr.cell? ⟨w.heap.size, 1, none⟩ = some (.slice F.t.a F.t.R.length F.t.c) := (HBX.out.on hnx).c1
    have y0 : wr.cell? ⟨w.heap.size, 0, none⟩ = some (.slice F.o.a F.o.l.length F.o.c) := (HBX.out.on hnx).c0
    by_cases hlt : k < F.t.R.length
    · have hlti : (k : Int) < (F.t.R.length : Int) := by omega
      obtain ⟨bt, ot, bi, oi, ci, hta, hci, hri⟩ := row_cells HFA.out HGD.out (DrewTo.refl wA) hlt
      have hcr : wr.cell? ⟨bt, ot + k, none⟩ = some (.slice (some ⟨bi, oi, none⟩) F.o.l.length ci) := (hnx.cell (p := ⟨bt, ot + k, none⟩) (World.block_lt_of_cell? _ _ hci)).trans hci
      obtain ⟨r, hr⟩ : ∃ r, r = F.t.R[k].l := ⟨_, rfl⟩
      have hrl : r.length = F.o.l.length := by rw [hr]; exact (good_row HGD.out (List.getElem_mem hlt)).1
      have HRB : Hid (∀ x ∈ r, 0 ≤ x ∧ x ≤ 99) := Lib.hid (by rw [hr]; exact (good_row HGD.out (List.getElem_mem hlt)).2)
      have HRC := Lib.hid (fun a ha => (hnx.cell (p := ⟨bi, oi + a, none⟩) (World.block_lt_of_cell? _ _ (hri a ha))).trans ((hri a ha).trans (by rw [len_at F hlt, ← hr])) : ∀ a, a < F.o.l.length → wr.cell? ⟨bi, oi + a, none⟩ = some (.int .i64 (r.getD a 0)))
      have hc0 : wr.cell? ⟨bi, oi, none⟩ = some (.int .i64 (r.getD 0 0)) := HRC.out 0 hn0
      obtain ⟨r0, hr0⟩ : ∃ r0, r0 = r.getD 0 0 := ⟨_, rfl⟩
      rw [← hr0] at hc0
      have HR0 : Hid (r0 = leastTo r 0) := Lib.hid hr0
      have HRL := Lib.hid hrl
      have HRE := Lib.hid hr
      have HTE := Lib.hid hta
      have HO := Lib.hid hown
      have HN := Lib.hid hnx
      have NN := Lib.hid hnn
      have hszr := hnx.size
      rw [hta] at y1 ⊢
      have Y0 := Lib.hid y0
      have Y1 := Lib.hid y1
      have HCR := Lib.hid hcr
      clear hr hrl hci hri hown hnx hnn hta hr0
      go_wp2
      clear y0 y1 hcr hc0
      go_loopw [5, 6] (fun sv i wr2 => ∃ a : Nat, a ≤ F.o.l.length ∧ i = .int .i64 a ∧ sv = .int .i64 (leastTo r a) ∧ wr = wr2) (fun _ i _ => F.o.l.length - (intOf i).toNat)
      case atStart => exact ⟨0, Nat.zero_le _, rfl, by rw [← HR0.out], rfl⟩
      case round =>
        obtain ⟨a, ha, rfl, rfl, rfl⟩ := hrel
        have y0 := Y0.out
        have y1 := Y1.out
        have hcr := HCR.out
        by_cases hlta : a < F.o.l.length
        · have hltai : (a : Int) < (F.o.l.length : Int) := by omega
          obtain ⟨x, hx⟩ : ∃ x, x = r.getD a 0 := ⟨_, rfl⟩
          have hcx := HRC.out a hlta
          rw [← hx] at hcx
          obtain ⟨s, hs⟩ : ∃ s, s = leastTo r a := ⟨_, rfl⟩
          have HST : Hid (leastTo r (a + 1) = min s x) := Lib.hid (by rw [least_step (by rw [HRL.out]; exact hlta), hs, hx])
          rw [← hs]
          obtain ⟨m, hm⟩ : ∃ m, m = min s x := ⟨_, rfl⟩
          have CM := Lib.hid (by have := l1Least_any s x wr; rw [← hm] at this; exact this : Calls Try.prog 45 #[.int .i64 s, .int .i64 x] wr fun e w' => e = .returned (.int .i64 m) ∧ w' = wr)
          have HM := Lib.hid hm
          clear hx hs hm
          go_wp2_with fail
          refine CM.out.mono ?_
          rintro e W ⟨rfl, rfl⟩
          go_wp2
          go_roundw
          case rel => exact ⟨a + 1, by omega, by go_num, by rw [HST.out, ← HM.out], by first | rfl | trivial⟩
          case measure => simp [intOf]; omega
        · obtain rfl : a = F.o.l.length := by omega
          obtain ⟨v, hv⟩ : ∃ v, v = leastTo r F.o.l.length := ⟨_, rfl⟩
          rw [← hv]
          have HL : Hid (startTo F (k + 1) = startTo F k ++ [v]) := Lib.hid (by rw [start_step, row_con hlt, ← HRE.out, hv, ← HRL.out, least_end (by rw [HRL.out]; exact hn0)])
          have hown := HO.out
          clear hv hcr y1
          go_wp2_with (at_builtin; refine wpList_append_own _ rfl _ _ 22 rfl wA.heap.size 3 i0 (.int .i64 0) 1 8 Try.underlying22 hi hz0 hz1 hz2 rfl (by decide) _ _ _ rfl (hown.alloc _) ⟨wr.heap.size, 0, none⟩ 1 1 [.int .i64 v] rfl rfl (one_cell _ _ _) (by simp [Value.oneCell']) (by unfold maxLen; omega) (by omega) (by simp; omega) ?_; intro v' w1 hown' hgrow hnil)
          have R1 : w1.ownsRow wA.heap.size 3 1 v' (k + 1) (iv (startTo F (k + 1))) := by rw [HL.out]; simpa [iv] using hown'
          have R2 : Below wA.heap.size wA w1 := (HN.out.alloc (by omega) _).grown hgrow (by simp; omega) (fun j hj => (hown.lt j hj).1)
          have R3 : v' ≠ .slice none 0 0 := fun e => NN.out (hnil.1 e).1
          clear hown' hgrow hown hnil y0
          go_wp2
          go_roundw
          case rel => exact ⟨k + 1, by omega, by go_num, R1, R2, R3⟩
          case measure => simp [intOf]; omega
    · obtain rfl : k = F.t.R.length := by omega
      obtain ⟨g, cap, rfl⟩ : ∃ g cap, u3 = .slice (some ⟨g, 0, none⟩) F.t.R.length cap := by
        rcases id hown.2 with ⟨h, _⟩ | ⟨g, cap, cur, h, _⟩
        · exact absurd h hnn
        · exact ⟨g, cap, h⟩
      have hgB := (owns_lt hown).2.2.2
      have H1 := Lib.hid (owns_base hown)
      have HN := Lib.hid hnx
      have hgw : w.heap.size ≤ g := Nat.le_trans hbA.size hgB
      clear hown hnx hnn y0
      go_wp2
      clear y1
      go_loopg [7, 8, 9] 4000 (fun gk rv _ _ wr => ∃ (i : Nat) (b : Bool), rv = .bool b ∧ 2 * (1387 - (itr F (startTo F F.t.R.length) i).sum).toNat + (if b then 1 else 0) ≤ gk ∧ (b = false → round1 F (itr F (startTo F F.t.R.length) i) = itr F (startTo F F.t.R.length) i) ∧ wr.ownsRow 0 3 1 (.slice (some ⟨g, 0, none⟩) F.t.R.length cap) F.t.R.length (iv (itr F (startTo F F.t.R.length) i)) ∧ Below wA.heap.size wA wr)
      case atStart => exact ⟨0, true, rfl, by have := sum_ge _ (start_asc HGD.out).pos; show 2 * (1387 - (startTo F F.t.R.length).sum).toNat + 1 ≤ 4000; omega, fun h => (by cases h), H1.out, HN.out⟩
      case round =>
        obtain ⟨i, b, rfl, hgk, hfix, hown, hnx⟩ := hrel
        have hasc := fair_asc (i := i) HGD.out
        obtain ⟨q, hq⟩ : ∃ q, q = itr F (startTo F F.t.R.length) i := ⟨_, rfl⟩
        have HQ := Lib.hid hq
        rw [← hq] at hgk hfix hown hasc
        have HGK := Lib.hid hgk
        have HFX := Lib.hid hfix
        have HAQ := Lib.hid hasc
        have HO := Lib.hid hown
        have HNX := Lib.hid hnx
        clear hq hgk hfix hasc hown hnx
        cases b with
        | false =>
          have HL : Hid (l = q) := Lib.hid (end_unique HEND.out ⟨i, HQ.out, HFX.out rfl⟩)
          have HLN : Hid (F.t.R.length = l.length) := Lib.hid (by rw [HL.out]; exact HAQ.out.len.symm)
          go_wp2
          go_ret
          exact ⟨g, cap, by rw [← HLN.out]; rfl, by rw [← HLN.out, HL.out]; exact HO.out, hgw, hbA.trans (HNX.out.mono hbA.size)⟩
        | true =>
          have hszr := HNX.out.size
          go_wp2
          go_loopw [7, 8, 9] (fun rv jv _ wr2 => ∃ (k : Nat) (b : Bool), k ≤ F.t.R.length ∧ jv = .int .i64 k ∧ rv = .bool b ∧ (b = false → rnd F q k = q) ∧ (b = true → q.sum < (rnd F q k).sum) ∧ wr2.ownsRow 0 3 1 (.slice (some ⟨g, 0, none⟩) F.t.R.length cap) F.t.R.length (iv (rnd F q k)) ∧ Below wA.heap.size wA wr2) (fun _ jv _ _ => F.t.R.length - (intOf jv).toNat)
          case atStart => exact ⟨0, false, Nat.zero_le _, rfl, rfl, fun _ => rfl, fun h => (by cases h), HO.out, HNX.out⟩
          case round =>
            obtain ⟨k, b, hk2, rfl, rfl, hb0, hb1, hown, hnx⟩ := hrel
            have HB0 := Lib.hid hb0
            have HB1 := Lib.hid hb1
            clear hb0 hb1
            by_cases hltk : k < F.t.R.length
            · have hltki : (k : Int) < (F.t.R.length : Int) := by omega
              have hasc := rnd_asc HAQ.out k hk2
              obtain ⟨z, hz⟩ : ∃ z, z = rnd F q k := ⟨_, rfl⟩
              rw [← hz] at hown hasc HB0 HB1
              have hzl : z.length = F.t.R.length := hasc.len
              have y0 := (HBX.out.on hnx).c0
              have y1 := (HBX.out.on hnx).c1
              have hpr : Row.At wr ⟨some ⟨g, 0, none⟩, cap, z⟩ := by
                have h1 : wr.ownsRow 0 3 1 (.slice (some ⟨g, 0, none⟩) z.length cap) z.length (iv z) := by rw [hzl]; exact hown
                exact row_of_owns h1
              obtain ⟨s, hs⟩ : ∃ s, s = nextOf F z k := ⟨_, rfl⟩
              have CA := Lib.hid (by
                have := l3Next_any F ⟨some ⟨g, 0, none⟩, cap, z⟩ k wr (HFA.out.on hnx) hpr hasc hltk
                simp only [hzl] at this
                rw [← hs] at this
                exact this : Calls Try.prog 46 #[F.val, .slice (some ⟨g, 0, none⟩) F.t.R.length cap, .int .i64 k] wr fun e w' => e = .returned (.int .i64 s) ∧ Below wr.heap.size wr w')
              have hsb := (next_spec hasc k).2.1
              have hsl := next_le hasc hltk
              rw [← hs] at hsb hsl
              have hkz : k < z.length := by rw [hzl]; exact hltk
              obtain ⟨x, hx⟩ : ∃ x, x = z.getD k 0 := ⟨_, rfl⟩
              have hxb : 0 ≤ x ∧ x ≤ 198 := by rw [hx]; exact ⟨hasc.pos k, asc_le hasc k⟩
              have HST : Hid (rnd F q (k + 1) = z.set k (x + s)) := Lib.hid (by rw [hx, hs, hz]; rfl)
              have HSU : Hid ((rnd F q (k + 1)).sum = z.sum + s) := Lib.hid (by rw [show rnd F q (k + 1) = raise F z k by rw [hz]; rfl, raise_sum hkz, hs])
              have HSZ0 : Hid (s = 0 → rnd F q (k + 1) = z) := Lib.hid fun h => by rw [show rnd F q (k + 1) = raise F z k by rw [hz]; rfl, raise_same hkz (by rw [← hs]; exact h)]
              have HO2 := Lib.hid hown
              have HN2 := Lib.hid hnx
              have HXI := Lib.hid (show (iv z)[k]? = some (.int .i64 x) by rw [iv_at hkz, hx, getD_at hkz])
              have hszr2 := hnx.size
              clear hz hzl hpr hs hx hown hnx hasc hkz
              go_wp2_with fail
              refine (show Calls _ _ _ _ _ from CA.out).mono ?_
              rintro e W2 ⟨rfl, hb2⟩
              have hown2 := owns_below HO2.out hb2
              have hnx2 := HN2.out.trans (hb2.mono hszr2)
              clear y0 y1
              by_cases hs0 : 0 < s
              · have hcx : W2.cell? ⟨g, k, none⟩ = some (.int .i64 x) := (hown2.cellAt k (by omega)).trans HXI.out
                have hf := hown2.frozenAt k
                have hst := hown2.stored k (.int .i64 (x + s))
                rw [show (iv z).set k (.int .i64 (x + s)) = iv (rnd F q (k + 1)) by rw [HST.out]; unfold iv; rw [List.map_set]] at hst
                have R1 := Lib.hid hst.1
                have R2 := Lib.hid (hnx2.setCell (p := ⟨g, k, none⟩) hgB (.int .i64 (x + s)))
                have w2 : IntKind.i64.wrap (x + s) = x + s := IntWalk.i64_in _ (by omega)
                have e1 : (0 : Int) ≤ x + s := by omega
                have e2 : x + s ≤ 9223372036854775807 := by omega
                have HB : Hid (q.sum < (rnd F q (k + 1)).sum) := Lib.hid (by
                  rw [HSU.out]
                  cases b with
                  | true => have := HB1.out rfl; omega
                  | false => have := HB0.out rfl; rw [this]; omega)
                clear hst hown2 hb2 hxb hsl hsb hnx2
                go_wp2
                have Q1 := R1.out
                have Q2 := R2.out
                go_roundw
                case rel => exact ⟨k + 1, true, by omega, by go_num, rfl, fun h => (by cases h), fun _ => HB.out, Q1, Q2⟩
                case measure => simp [intOf]; omega
              · have hz0 : s = 0 := by omega
                have HSM : Hid (rnd F q (k + 1) = z) := Lib.hid (HSZ0.out hz0)
                have HOW := Lib.hid hown2
                clear hz0 hown2 hb2 hxb hsl hsb
                go_wp2
                go_roundw
                case rel => exact ⟨k + 1, b, by omega, by go_num, rfl, fun h => by rw [HSM.out]; exact HB0.out h, fun h => by rw [HSM.out]; exact HB1.out h, by rw [HSM.out]; exact HOW.out, hnx2⟩
                case measure => simp [intOf]; omega
            · obtain rfl : k = F.t.R.length := by omega
              have HIT : Hid (rnd F q F.t.R.length = itr F (startTo F F.t.R.length) (i + 1)) := Lib.hid (by rw [HQ.out]; rfl)
              have hs1 : (rnd F q F.t.R.length).sum ≤ 1386 := asc_sum (rnd_asc HAQ.out _ (Nat.le_refl _))
              have HK : Hid (2 * (1387 - (rnd F q F.t.R.length).sum).toNat + (if b then 1 else 0) < gk) := Lib.hid (by
                have := HGK.out
                simp only [if_true] at this
                cases b with
                | true => have := HB1.out rfl; simp only [if_true]; omega
                | false => rw [HB0.out rfl]; simp; omega)
              obtain ⟨z, hz⟩ : ∃ z, z = 2 * (1387 - (rnd F q F.t.R.length).sum).toNat + (if b then 1 else 0) := ⟨_, rfl⟩
              have HZ := Lib.hid hz
              have HO2 := Lib.hid hown
              have HN2 := Lib.hid hnx
              clear hz hs1 hown hnx
              go_wp2
              go_roundg z
              case rel => exact ⟨i + 1, b, rfl, by rw [← HIT.out, ← HZ.out]; exact Nat.le_refl _, fun h => by rw [← HIT.out, HB0.out h]; exact HB0.out h, by rw [← HIT.out]; exact HO2.out, HN2.out⟩
              case measure => rw [HZ.out]; exact HK.out

set_option maxHeartbeats 1000000 in
theorem specAscent_any (F : Fld) (w : World) (hF : F.At w) (l : List Int) (b : Bool) (hv : AscIs F l b) :
    Calls Try.prog 12 #[F.val] w (PInts l b w) := by
  obtain ⟨wA, hA, hbA, bx, hFA, hszA⟩ := laid_fld F w 29 hF
  have HFA := Lib.hid hFA
  have HBX := Lib.hid bx
  have HA := Lib.hid hA
  have CT := Lib.hid (l2Good_any F wA hFA)
  clear hF hA hFA bx
  show Calls _ _ #[.agg #[F.o.val, F.t.val]] w _
  go_enter Try.func12, Try.ntmps12
  go_wp2_with fail
  rw [show w.alloc (Obj.cells #[F.o.val, F.t.val] 29) = wA from HA.out.symm]
  refine (show Calls _ _ _ _ _ from CT.out).mono ?_
  rintro e W1 ⟨rfl, hb1⟩
  have hbw := hbA.trans (hb1.mono hbA.size)
  rcases hv with ⟨hv, rfl, rfl⟩ | ⟨hv, hend, rfl⟩
  · have HO1 := Lib.hid (empty_own W1)
    have hb0 := below_alloc W1 (.cells #[] 3)
    have hsz1 := hbw.size
    rw [hv]
    clear hv
    go_wp2
    go_ret2
    exact ints_end rfl HO1.out hsz1 (hbw.trans (hb0.mono hbw.size))
  · rw [hv]
    have y0 := (HBX.out.on hb1).c0
    have y1 := (HBX.out.on hb1).c1
    have CB := Lib.hid (l3Ascent_any F W1 (HFA.out.on hb1) hv l hend)
    have hszw := hbw.size
    clear hv hend
    go_wp2_with fail
    refine (show Calls _ _ _ _ _ from CB.out).mono ?_
    rintro e W2 ⟨g, c, rfl, hown, hg, hb2⟩
    have hbw2 := hbw.trans (hb2.mono hszw)
    have HO := Lib.hid hown
    clear hown
    go_wp2
    go_ret2
    exact ints_own rfl HO.out (Nat.le_trans hszw hg) hbw2

theorem rest_like' {F G : Fld} (h : F.Like G) : F.t.R.length = G.t.R.length := by rw [← con_len, ← con_len, h.2]
theorem next_like {F G : Fld} (h : F.Like G) (p : List Int) (j : Nat) : nextOf F p j = nextOf G p j := by
  unfold nextOf gapsOf
  rw [h.1]
  congr 1
  apply List.map_congr_left
  intro a _
  unfold gapAt
  rw [len_like h, rest_like h]
theorem rnd_like {F G : Fld} (h : F.Like G) (p : List Int) : ∀ k, rnd F p k = rnd G p k
  | 0 => rfl
  | k + 1 => by show raise F (rnd F p k) k = raise G (rnd G p k) k; rw [rnd_like h p k]; unfold raise; rw [next_like h]
theorem round_like {F G : Fld} (h : F.Like G) (p : List Int) : round1 F p = round1 G p := by unfold round1; rw [rest_like' h, rnd_like h]
theorem itr_like {F G : Fld} (h : F.Like G) (p : List Int) : ∀ i, itr F p i = itr G p i
  | 0 => rfl
  | i + 1 => by show round1 F (itr F p i) = round1 G (itr G p i); rw [itr_like h p i, round_like h]
theorem start_like {F G : Fld} (h : F.Like G) (k : Nat) : startTo F k = startTo G k := by unfold startTo; rw [h.2]
theorem ascis_like {F G : Fld} {l : List Int} {b : Bool} (h : AscIs F l b) (hl : G.Like F) : AscIs G l b := by
  rcases h with ⟨h1, h2, h3⟩ | ⟨h1, ⟨i, h2, h4⟩, h3⟩
  · exact .inl ⟨hl.good.trans h1, h2, h3⟩
  · exact .inr ⟨hl.good.trans h1, ⟨i, by rw [start_like hl, rest_like' hl, itr_like hl]; exact h2, by rw [round_like hl]; exact h4⟩, h3⟩
theorem ascis_some (F : Fld) : ∃ (l : List Int) (b : Bool), AscIs F l b ∧ l.length ≤ 1048576 := by
  by_cases h : F.good = true
  · obtain ⟨l, i, h1, h2⟩ := end_some (start_asc h)
    exact ⟨l, true, .inr ⟨h, ⟨i, h1, h2⟩, rfl⟩, by have := (fair_asc (i := i) h).len; rw [h1, this]; have := good_sizes h; omega⟩
  · exact ⟨_, _, .inl ⟨by simpa using h, rfl, rfl⟩, by simp⟩
theorem ascentPrices_pair (F : Fld) (_ : F.Small) : ∃ (l : List Int) (b : Bool) (_ : l.length ≤ 1048576),
    (∀ (G : Fld) (W : World), G.At W → G.Like F → Calls Try.prog 12 #[G.val] W (PInts l b W)) ∧
    (∀ (G : Fld) (W : World), G.At W → G.Like F → Calls Try.prog 13 #[G.val] W (PInts l b W)) := by
  obtain ⟨l, b, h, hl⟩ := ascis_some F
  exact ⟨l, b, hl, fun G W hG hk => specAscent_any G W hG l b (ascis_like h hk), fun G W hG hk => implAscent_any G W hG l b (ascis_like h hk)⟩
end Go.Proofs.Ytgapoeliijnmaaa
