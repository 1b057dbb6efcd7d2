/- Both sides of FarReach answer alike. Condition: the Field reads as such. -/
import Derived.Test.YtjeodblaekdpkaaPairLargestFar
import Derived.Test.YtjeodblaekdpkaaPairLengthsOf
import Derived.Test.YtjeodblaekdpkaaAllNear
import Derived.Test.YtjeodblaekdpkaaKSites
import Derived.Deep.RegionLaw
namespace Go.Proofs.Ytjeodblaekdpkaa
open Go.RowKit

def reachB (F : Fld) (k : Nat) (r : Int) : Bool := decide ((mostF F r).length ≤ k) && allNearB F r
theorem reachB_like {F G : Fld} (h : F.Like G) (k : Nat) : reachB F k = reachB G k := by funext r; unfold reachB; rw [mostF_like h, allNear_like h]
def fReach (F : Fld) (k : Nat) : Int := ((lensAll F).find? (reachB F k)).getD 0
def FReach (F : Fld) (k v : Int) (b : Bool) : Prop :=
  (kB F k = false ∧ v = 0 ∧ b = false) ∨ (kB F k = true ∧ v = fReach F k.toNat ∧ b = true)
theorem freach_like {F G : Fld} {k v : Int} {b : Bool} (h : FReach F k v b) (hl : G.Like F) : FReach G k v b := by
  unfold FReach fReach at *
  rw [kB_like hl, lensAll_like hl, reachB_like hl]; exact h
theorem freach_some (F : Fld) (k : Int) : ∃ v b, FReach F k v b := by
  cases h : kB F k with
  | false => exact ⟨_, _, .inl ⟨h, rfl, rfl⟩⟩
  | true => exact ⟨_, _, .inr ⟨h, rfl, rfl⟩⟩
theorem lens_pos {F : Fld} (hg : F.good = true) {r : Int} (h : r ∈ lensAll F) : 0 ≤ r := by
  unfold lensAll at h
  rw [putAll_mem, List.mem_flatten] at h
  obtain ⟨d, hd, hr⟩ := h
  obtain ⟨j, hj, rfl⟩ := List.mem_iff_getElem.1 hd
  obtain ⟨m, hm, rfl⟩ := List.mem_iff_getElem.1 hr
  have hjR : j < F.t.R.length := by rw [con_length] at hj; exact hj
  have h2 := len_bound hg hjR m
  have e : F.len j m = F.t.con[j][m] := by
    unfold Fld.len
    have e1 : F.t.con.getD j [] = F.t.con[j] := by rw [List.getD_eq_getElem?_getD, List.getElem?_eq_getElem hj]; rfl
    rw [e1, List.getD_eq_getElem?_getD, List.getElem?_eq_getElem hm]; rfl
  rw [← e]; exact h2.1

set_option maxRecDepth 32000 in
set_option maxHeartbeats 2000000 in
theorem implFReach_any (F : Fld) (k : Int) (w : World) (hF : F.At w) (v : Int) (b : Bool) (hv : FReach F k v b) :
    Calls Try.prog 27 #[F.val, .int .i64 k] w (PInt v b w) := by
  obtain ⟨wA, hA, hbA, bx, hFA, hszA⟩ := laid_fld F w 29 hF
  have HFA := Lib.hid hFA
  have HBX := Lib.hid bx
  have HA := Lib.hid hA
  have HV := Lib.hid hv
  have CT := Lib.hid (hasSites_any F k wA hFA)
  have x0 := bx.c0
  have x1 := bx.c1
  rw [hA] at x0 x1
  clear hF hA hFA bx hv
  show Calls _ _ #[.agg #[F.o.val, F.t.val], _] w fun e w' => e = .returned (.tuple #[.int .i64 v, .bool b]) ∧ Below w.heap.size w w'
  go_enter Try.func27, Try.ntmps27
  go_wp2_with fail
  rw [show w.alloc (Obj.cells #[F.o.val, F.t.val] 29) = wA from HA.out.symm]
  refine (show Calls _ _ _ _ _ from CT.out).mono ?_
  rintro e W1 ⟨rfl, hb1⟩
  have hbw := hbA.trans (hb1.mono hbA.size)
  clear x0 x1
  obtain ⟨t, ht⟩ : ∃ t, t = kB F k := ⟨_, rfl⟩
  rw [← ht]
  have HT := Lib.hid ht
  clear ht
  cases t with
  | false =>
    obtain ⟨rfl, rfl⟩ : v = 0 ∧ b = false := by
      rcases HV.out with ⟨_, h⟩ | ⟨h, _⟩
      · exact h
      · rw [← HT.out] at h; cases h
    go_wp2
    go_ret2
    exact ⟨rfl, hbw⟩
  | true =>
    obtain ⟨hvv, rfl⟩ : v = fReach F k.toNat ∧ b = true := by
      rcases HV.out with ⟨h, _⟩ | ⟨_, h⟩
      · rw [← HT.out] at h; cases h
      · exact h
    obtain ⟨hg, m, hkm, hm1, hmo⟩ := kB_nat HT.out.symm
    subst hkm
    obtain ⟨L, hL⟩ : ∃ L, L = lensAll F := ⟨_, rfl⟩
    have HVE : Hid (v = (L.find? (reachB F m)).getD 0) := Lib.hid (by rw [hvv, hL]; unfold fReach; simp)
    have HG := Lib.hid hg
    have HL := Lib.hid hL
    have hL49 : L.length ≤ 49 := by rw [hL]; exact lensAll_len hg
    have y0 := (HBX.out.on hb1).c0
    have y1 := (HBX.out.on hb1).c1
    have CL := Lib.hid (implLens_any F W1 (HFA.out.on hb1) _ _ (.inr ⟨hg, rfl, rfl⟩))
    have HB1 := Lib.hid hb1
    have hmi : (m : Int) ≤ 7 := by have := good_sizes hg; omega
    have hwW := hbw.size
    have hwA := hbA.size
    clear hvv hL hg hb1
    go_wp2_with fail
    refine (show Calls _ _ _ _ _ from CL.out).mono ?_
    rintro e W2 ⟨s, rfl, hsl, hso, hsi, hb2⟩
    obtain ⟨q1, q2, hs3⟩ := hsi.at
    rw [← HL.out] at hsl
    obtain ⟨c, hc⟩ : ∃ c, c = s.l.length := ⟨_, rfl⟩
    have HSL := Lib.hid hsl
    have HC := Lib.hid hc
    have hc49 : (c : Int) ≤ 49 := by rw [hc, hsl]; omega
    have HR := Lib.hid hs3
    have HB2 := Lib.hid (HB1.out.trans (hb2.mono HB1.out.size))
    have hW2 := HB2.out.size
    rw [← hc]
    clear hsl hso hsi hb2 q1 q2 hs3 hc y0 y1
    go_wp2
    go_loopw [9, 10, 11, 23] (fun _ _ _ i wr => ∃ j : Nat, j ≤ c ∧ i = .int .i64 j ∧ Hid (∀ h, (hj : h < j) → ∀ h2 : h < L.length, reachB F m L[h] = false) ∧ Below W2.heap.size W2 wr) (fun _ _ _ i _ => c - (intOf i).toNat)
    case atStart => exact ⟨0, Nat.zero_le _, rfl, Lib.hid (fun h hj => absurd hj (Nat.not_lt_zero _)), Below.refl _ _⟩
    case round =>
      obtain ⟨j, hj, rfl, HNOT, hnx⟩ := hrel
      have HBR := Lib.hid (HB2.out.trans (hnx.mono HB2.out.size))
      have hszr := hnx.size
      have y0 := (HBX.out.on HBR.out).c0
      have y1 := (HBX.out.on HBR.out).c1
      by_cases hlt : j < c
      · have hlti : (j : Int) < (c : Int) := by omega
        have hjs : j < s.l.length := by rw [← HC.out]; exact hlt
        have hjL : j < L.length := by rw [← HSL.out]; exact hjs
        rcases HR.out with h3 | ⟨bq, o, ha, hbb, hcell⟩
        · have h3' := congrArg List.length (iv_nil h3); rw [List.length_nil] at h3'; omega
        obtain ⟨r, hr⟩ : ∃ r, r = L[j] := ⟨_, rfl⟩
        have hcl : wr.cell? ⟨bq, o + j, none⟩ = some (.int .i64 r) := (hnx.cell (p := ⟨bq, o + j, none⟩) hbb).trans (by rw [hr]; have := hcell j _ (iv_at hjs); simp only [HSL.out] at this; exact this)
        have hrp : 0 ≤ r := lens_pos HG.out (show r ∈ lensAll F by rw [hr, ← HL.out]; exact List.getElem_mem _)
        obtain ⟨q, hq⟩ : ∃ q, q = (mostF F r).length := ⟨_, rfl⟩
        obtain ⟨x, hx⟩ : ∃ x, x = allNearB F r := ⟨_, rfl⟩
        have hq7 : q ≤ 7 := by rw [hq]; exact (mostF_ok HG.out r).1
        have hqi : (q : Int) ≤ 7 := by omega
        have CM := Lib.hid (by
          refine (implLargest_any F r wr (HFA.out.on HBR.out) _ _ (.inr ⟨HG.out, hrp, rfl, rfl⟩)).mono (R' := fun e w' => ∃ a cc, e = .returned (.tuple #[.slice a q cc, .bool true]) ∧ Below wr.heap.size wr w') ?_
          rintro e w' ⟨t, rfl, htl, -, -, hb⟩
          exact ⟨t.a, t.c, by rw [htl, up_length, hq], hb⟩)
        have CN := Lib.hid (fun u (hu : Below wr.heap.size wr u) => by have := allHaveSites_any F r u ((HFA.out.on HBR.out).on hu) HG.out; rw [← hx] at this; exact this : ∀ u, Below wr.heap.size wr u → Calls Try.prog 61 #[.agg #[F.o.val, F.t.val], .int .i64 r] u fun e w' => e = .returned (.bool x) ∧ Below u.heap.size u w')
        have HRB : Hid (reachB F m L[j] = (decide (q ≤ m) && x)) := Lib.hid (by unfold reachB; rw [← hr, hq, hx])
        have HRL : Hid (r = L[j]) := Lib.hid hr
        have HNX := Lib.hid hnx
        have HYES : Hid (q ≤ m → x = true → v = r) := Lib.hid fun h1 h2 => by
          rw [HVE.out, find_at hjL (fun i hi => HNOT.out i hi (by omega)) (by rw [HRB.out, h2, decide_eq_true h1]; rfl), ← HRL.out]; rfl
        have HNO : Hid ((¬ q ≤ m) ∨ x = false → ∀ h, (hj : h < j + 1) → ∀ h2 : h < L.length, reachB F m L[h] = false) := Lib.hid fun h0 h hh h2 => by
          by_cases e : h = j
          · subst e
            rw [HRB.out]
            rcases h0 with h0 | h0
            · rw [decide_eq_false h0]; rfl
            · rw [h0]; simp
          · exact HNOT.out h (by omega) h2
        rw [ha]
        clear hr hq hx hcell hbb hnx ha hrp
        go_wp2_with fail
        refine (show Calls _ _ _ _ _ from CM.out).mono ?_
        rintro e W3 ⟨a3, c3, rfl, hb3⟩
        have HB3 := Lib.hid (HNX.out.trans (hb3.mono hszr))
        have CN3 := Lib.hid (CN.out W3 hb3)
        have z0 := ((HBX.out.on HBR.out).on hb3).c0
        have z1 := ((HBX.out.on HBR.out).on hb3).c1
        have hW3 := hb3.size
        clear hb3 y0 y1 hcl
        by_cases hqm : q ≤ m
        · have hqmi : (q : Int) ≤ (m : Int) := by omega
          go_wp2_with fail
          refine (show Calls _ _ _ _ _ from CN3.out).mono ?_
          rintro e W4 ⟨rfl, hb4⟩
          have HB4 := Lib.hid (HB3.out.trans (hb4.mono (by omega)))
          clear hb4 z0 z1
          cases x with
          | true =>
            have HE := Lib.hid (HYES.out hqm (by trivial))
            go_wp2
            go_ret2
            exact ⟨by rw [HE.out]; rfl, hbA.trans ((HB2.out.trans (HB4.out.mono HB2.out.size)).mono hwA)⟩
          | false =>
            have HE := Lib.hid (HNO.out (.inr rfl))
            go_wp2
            go_roundw
            case rel => exact ⟨j + 1, by omega, by go_num, HE, HB4.out⟩
            case measure => simp [intOf]; omega
        · have hqmi : ¬ (q : Int) ≤ (m : Int) := by omega
          have HE := Lib.hid (HNO.out (.inl hqm))
          clear z0 z1
          go_wp2
          go_roundw
          case rel => exact ⟨j + 1, by omega, by go_num, HE, HB3.out⟩
          case measure => simp [intOf]; omega
      · obtain rfl : j = c := by omega
        have HE : Hid (v = 0) := Lib.hid (by rw [HVE.out, find_none (fun i hi => HNOT.out i (by rw [HC.out, HSL.out]; exact hi) hi)]; rfl)
        go_wp2
        go_ret2
        exact ⟨by rw [HE.out]; rfl, hbA.trans (HBR.out.mono hwA)⟩

set_option linter.unusedSimpArgs false in
set_option maxRecDepth 32000 in
set_option maxHeartbeats 8000000 in
theorem specFReach_any (F : Fld) (k : Int) (w : World) (hF : F.At w) (v : Int) (b : Bool) (hv : FReach F k v b) :
    Calls Try.prog 26 #[F.val, .int .i64 k] w (PInt v b w) := by
  obtain ⟨wA, hA, hbA, bx, hFA, hszA⟩ := laid_fld F w 29 hF
  have HFA := Lib.hid hFA
  have HBX := Lib.hid bx
  have HA := Lib.hid hA
  have HV := Lib.hid hv
  have CT := Lib.hid (l5Ask_any F k wA hFA)
  have x0 := bx.c0
  have x1 := bx.c1
  rw [hA] at x0 x1
  clear hF hA hFA bx hv
  show Calls _ _ #[.agg #[F.o.val, F.t.val], _] w fun e w' => e = .returned (.tuple #[.int .i64 v, .bool b]) ∧ Below w.heap.size w w'
  go_enter Try.func26, Try.ntmps26
  go_wp2_with fail
  rw [show w.alloc (Obj.cells #[F.o.val, F.t.val] 29) = wA from HA.out.symm]
  refine (show Calls _ _ _ _ _ from CT.out).mono ?_
  rintro e W1 ⟨rfl, hb1⟩
  have hbw := hbA.trans (hb1.mono hbA.size)
  clear x0 x1
  obtain ⟨t, ht⟩ : ∃ t, t = kB F k := ⟨_, rfl⟩
  rw [← ht]
  have HT := Lib.hid ht
  clear ht
  cases t with
  | false =>
    obtain ⟨rfl, rfl⟩ : v = 0 ∧ b = false := by
      rcases HV.out with ⟨_, h⟩ | ⟨h, _⟩
      · exact h
      · rw [← HT.out] at h; cases h
    go_wp2
    go_ret2
    exact ⟨rfl, hbw⟩
  | true =>
    obtain ⟨hvv, rfl⟩ : v = fReach F k.toNat ∧ b = true := by
      rcases HV.out with ⟨h, _⟩ | ⟨_, h⟩
      · rw [← HT.out] at h; cases h
      · exact h
    obtain ⟨hg, m, hkm, hm1, hmo⟩ := kB_nat HT.out.symm
    subst hkm
    obtain ⟨L, hL⟩ : ∃ L, L = lensAll F := ⟨_, rfl⟩
    have HVE : Hid (v = (L.find? (reachB F m)).getD 0) := Lib.hid (by rw [hvv, hL]; unfold fReach; simp)
    have HG := Lib.hid hg
    have HL := Lib.hid hL
    have hL49 : L.length ≤ 49 := by rw [hL]; exact lensAll_len hg
    have y0 := (HBX.out.on hb1).c0
    have y1 := (HBX.out.on hb1).c1
    have CL := Lib.hid (l5Lengths_any F W1 (HFA.out.on hb1) hg)
    have HB1 := Lib.hid hb1
    have hmi : (m : Int) ≤ 7 := by have := good_sizes hg; omega
    have hwW := hbw.size
    have hwA := hbA.size
    clear hvv hL hg hb1
    go_wp2_with fail
    refine (show Calls _ _ _ _ _ from CL.out).mono ?_
    rintro e W2 ⟨s, rfl, hsl, hso, hsi, hb2⟩
    obtain ⟨q1, q2, hs3⟩ := hsi.at
    rw [← HL.out] at hsl
    obtain ⟨c, hc⟩ : ∃ c, c = s.l.length := ⟨_, rfl⟩
    have HSL := Lib.hid hsl
    have HC := Lib.hid hc
    have hc49 : (c : Int) ≤ 49 := by rw [hc, hsl]; omega
    have HR := Lib.hid hs3
    have HB2 := Lib.hid (HB1.out.trans (hb2.mono HB1.out.size))
    have hW2 := HB2.out.size
    have HCC := Lib.hid q1
    rw [← hc]
    have hcci : (c : Int) ≤ (s.c : Int) := by rw [iv_length] at q1; omega
    clear hsl hso hsi hb2 q1 q2 hs3 hc y0 y1
    go_wp2
    rcases HR.out with h3 | ⟨bq, o, ha, hbb, hcell⟩
    · have hc0 : c = 0 := by have := congrArg List.length (iv_nil h3); rw [List.length_nil] at this; have := HC.out; omega
      have HE : Hid (v = 0) := Lib.hid (by rw [HVE.out, find_none (fun i hi => by have := HC.out; rw [HSL.out] at this; omega)]; rfl)
      subst hc0
      clear h3
      go_loopw [7] (fun i wr => i = .int .i64 ((0 : Nat) : Int) ∧ wr = W2) (fun _ _ => 0)
      case atStart => exact ⟨rfl, rfl⟩
      case round =>
        obtain ⟨rfl, rfl⟩ := hrel
        go_wp2
        go_ret2
        exact ⟨by rw [HE.out]; rfl, hbA.trans (HB2.out.mono hwA)⟩
    rw [ha]
    have HCELL := Lib.hid hcell
    clear hcell ha
    go_loopw [7] (fun i wr => ∃ j : Nat, j ≤ c ∧ i = .int .i64 j ∧ Hid (∀ h, (hj : h < j) → ∀ h2 : h < L.length, reachB F m L[h] = false) ∧ Below W2.heap.size W2 wr) (fun i _ => c - (intOf i).toNat)
    case atStart => exact ⟨0, Nat.zero_le _, rfl, Lib.hid (fun h hj => absurd hj (Nat.not_lt_zero _)), Below.refl _ _⟩
    case round =>
      obtain ⟨j, hj, rfl, HNOT, hnx⟩ := hrel
      have HBR := Lib.hid (HB2.out.trans (hnx.mono HB2.out.size))
      have hszr := hnx.size
      have y0 := (HBX.out.on HBR.out).c0
      have y1 := (HBX.out.on HBR.out).c1
      by_cases hlt : j < c
      · have hlti : (j : Int) < (c : Int) := by omega
        have hjs : j < s.l.length := by rw [← HC.out]; exact hlt
        have hjL : j < L.length := by rw [← HSL.out]; exact hjs
        obtain ⟨r, hr⟩ : ∃ r, r = L[j] := ⟨_, rfl⟩
        have hcl : wr.cell? ⟨bq, o + j, none⟩ = some (.int .i64 r) := (hnx.cell (p := ⟨bq, o + j, none⟩) hbb).trans (by rw [hr]; have := HCELL.out j _ (iv_at hjs); simp only [HSL.out] at this; exact this)
        obtain ⟨q, hq⟩ : ∃ q, q = (mostF F r).length := ⟨_, rfl⟩
        obtain ⟨x, hx⟩ : ∃ x, x = allNearB F r := ⟨_, rfl⟩
        have hq7 : q ≤ 7 := by rw [hq]; exact (mostF_ok HG.out r).1
        have hqi : (q : Int) ≤ 7 := by omega
        have CM := Lib.hid (fun u (hu : Below wr.heap.size wr u) => by
          refine (l5Most_any F r u ((HFA.out.on HBR.out).on hu) HG.out).mono (R' := fun e w' => ∃ a cc, e = .returned (.slice a q cc) ∧ Below u.heap.size u w') ?_
          rintro e w' ⟨t, rfl, htl, -, -, hb⟩
          exact ⟨t.a, t.c, by rw [htl, up_length, hq], hb⟩ : ∀ u, Below wr.heap.size wr u → Calls Try.prog 53 #[.agg #[F.o.val, F.t.val], .int .i64 r] u fun e w' => ∃ a cc, e = .returned (.slice a q cc) ∧ Below u.heap.size u w')
        have CN := Lib.hid (fun u (hu : Below wr.heap.size wr u) => by have := l5Near_any F r u ((HFA.out.on HBR.out).on hu) HG.out; rw [← hx] at this; exact this : ∀ u, Below wr.heap.size wr u → Calls Try.prog 58 #[.agg #[F.o.val, F.t.val], .int .i64 r] u fun e w' => e = .returned (.bool x) ∧ Below u.heap.size u w')
        have HRB : Hid (reachB F m L[j] = (decide (q ≤ m) && x)) := Lib.hid (by unfold reachB; rw [← hr, hq, hx])
        have HRL : Hid (r = L[j]) := Lib.hid hr
        have HNX := Lib.hid hnx
        have HYES : Hid (q ≤ m → x = true → v = r) := Lib.hid fun h1 h2 => by
          rw [HVE.out, find_at hjL (fun i hi => HNOT.out i hi (by omega)) (by rw [HRB.out, h2, decide_eq_true h1]; rfl), ← HRL.out]; rfl
        have HNO : Hid ((¬ q ≤ m) ∨ x = false → ∀ h, (hj : h < j + 1) → ∀ h2 : h < L.length, reachB F m L[h] = false) := Lib.hid fun h0 h hh h2 => by
          by_cases e : h = j
          · subst e
            rw [HRB.out]
            rcases h0 with h0 | h0
            · rw [decide_eq_false h0]; rfl
            · rw [h0]; simp
          · exact HNOT.out h (by omega) h2
        have HS : Hid (∀ u, Below wr.heap.size wr u → ((u.cell? ⟨bq, o + j, none⟩ = some (.int .i64 r) ∧ u.cell? ⟨w.heap.size, 0, none⟩ = some F.o.val ∧ u.cell? ⟨w.heap.size, 1, none⟩ = some F.t.val) ∧ Below wr.heap.size wr u)) := Lib.hid fun u hu => ⟨⟨(hu.cell (p := ⟨bq, o + j, none⟩) (by simp only; omega)).trans hcl, (hu.cell (p := ⟨w.heap.size, 0, none⟩) (HBX.out.on HBR.out).lt).trans y0, (hu.cell (p := ⟨w.heap.size, 1, none⟩) (HBX.out.on HBR.out).lt).trans y1⟩, hu⟩
        have s0 := HS.out wr.drew (Below.refl _ _).drew
        clear hr hq hx hnx
        cases x with
        | true =>
          go_wp2_with fail
          go_region_held3 (fun u => ((u.cell? ⟨bq, o + j, none⟩ = some (.int .i64 r) ∧ u.cell? ⟨w.heap.size, 0, none⟩ = some F.o.val ∧ u.cell? ⟨w.heap.size, 1, none⟩ = some F.t.val) ∧ Below wr.heap.size wr u)) (first | exact s0 | exact keep_reg HS.out (by first | assumption | exact And.right (by assumption)) hb1) (first | (go_at_call 58; refine (show Calls _ _ _ _ _ from CN.out _ (by first | assumption | exact And.right (by assumption))).mono ?_; rintro e u1 ⟨rfl, hb1⟩) | (go_at_call 53; refine (show Calls _ _ _ _ _ from CM.out _ (by first | assumption | exact And.right (by assumption))).mono ?_; rintro e u1 ⟨a1, c1, rfl, hb1⟩))
          all_goals
            refine at_exit (W := wr) (by first | assumption | exact And.right (by assumption)) ?_
            intro W8 hb8
            have hc8 : W8.cell? ⟨bq, o + j, none⟩ = some (.int .i64 r) := (HS.out W8 hb8).1.1
            have HB8 : Hid (Below W2.heap.size W2 W8) := Lib.hid (HNX.out.trans (hb8.mono HNX.out.size))
            clear s0 hb8 hcl y0 y1
            by_cases hqm : q ≤ m
            · have HE := Lib.hid (HYES.out hqm (by trivial))
              go_wp2
              go_ret2
              exact ⟨by rw [HE.out]; rfl, hbA.trans ((HB2.out.trans (HB8.out.mono HB2.out.size)).mono hwA)⟩
            · have HE := Lib.hid (HNO.out (.inl hqm))
              go_wp2
              go_roundw
              case rel => exact ⟨j + 1, by omega, by go_num, HE, HB8.out⟩
              case measure => simp [intOf]; omega
        | false =>
          have HE := Lib.hid (HNO.out (.inr rfl))
          have CN1 := Lib.hid (CN.out wr.drew (Below.refl _ _).drew)
          have HNB := Lib.hid (fun u (hu : Below wr.drew.heap.size wr.drew u) => HNX.out.trans (((Below.refl _ wr).drew.trans hu).mono HNX.out.size) : ∀ u, Below wr.drew.heap.size wr.drew u → Below W2.heap.size W2 u)
          clear s0
          go_wp2_with fail
          first | (go_region_law (first | (go_simp; go_at_call 58; refine (show Calls _ _ _ _ _ from CN1.out).mono ?_; rintro e u1 ⟨rfl, hb1⟩))) | fail
          all_goals
            have HB8 := Lib.hid (HNB.out _ hb1)
            clear hb1
            go_wp2
            go_roundw
            case rel => exact ⟨j + 1, by omega, by go_num, HE, HB8.out⟩
            case measure => simp [intOf]; omega
      · obtain rfl : j = c := by omega
        have HE : Hid (v = 0) := Lib.hid (by rw [HVE.out, find_none (fun i hi => HNOT.out i (by rw [HC.out, HSL.out]; exact hi) hi)]; rfl)
        go_wp2
        go_ret2
        exact ⟨by rw [HE.out]; rfl, hbA.trans (HBR.out.mono hwA)⟩

theorem farReach_pair (F : Fld) (k : Int) (_ : (Lit.int .i64 k).wf = true) (_ : F.Small) : ∃ (v : Int) (b : Bool),
    (∀ (G : Fld) (W : World), G.At W → G.Like F → Calls Try.prog 26 #[G.val, .int .i64 k] W (PInt v b W)) ∧
    (∀ (G : Fld) (W : World), G.At W → G.Like F → Calls Try.prog 27 #[G.val, .int .i64 k] W (PInt v b W)) := by
  obtain ⟨v, b, h⟩ := freach_some F k
  exact ⟨v, b, fun G W hG hl => specFReach_any G k W hG v b (freach_like h hl), fun G W hG hl => implFReach_any G k W hG v b (freach_like h hl)⟩
end Go.Proofs.Ytjeodblaekdpkaa
