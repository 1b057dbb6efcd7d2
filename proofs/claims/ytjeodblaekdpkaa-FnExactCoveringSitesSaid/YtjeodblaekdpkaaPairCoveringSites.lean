/- Both sides of CoveringSites answer alike. Condition: the Field reads as such. -/
import Derived.Test.YtjeodblaekdpkaaCovering
import Derived.Test.YtjeodblaekdpkaaSetsK
import Derived.Test.YtjeodblaekdpkaaPost
namespace Go.Proofs.Ytjeodblaekdpkaa
open Go.RowKit

/-- All sets, as a table that the model has made. -/
structure AllTab (N B : Nat) (w : World) (g cap : Nat) (Q : List Row) : Prop where
  read : ReadTab B w g cap Q
  len : Q.length = (allSets N).length
  row : ∀ j, (hj : j < Q.length) → ∃ h2 : j < (allSets N).length, Q[j].l = up (allSets N)[j]
theorem AllTab.on {N B : Nat} {w w' : World} {g cap : Nat} {Q : List Row} (h : AllTab N B w g cap Q) (t : Below w.heap.size w w') : AllTab N B w' g cap Q := ⟨h.read.on t, h.len, h.row⟩
theorem l2All_any (n : Nat) (w : World) (hn : n ≤ 7) :
    Calls Try.prog 47 #[.int .i64 n] w fun e w' => ∃ g cap Q, e = .returned (.slice (some ⟨g, 0, none⟩) (allSets n).length cap) ∧ AllTab n w.heap.size w' g cap Q ∧ Below w.heap.size w w' := by
  refine (l2Sets_any n w hn).mono ?_
  rintro e w' ⟨v, g, cap, Q, rfl, h, hb⟩
  have hv := h.val
  subst hv
  have e0 := sets_all n hn
  have hcon := h.con
  rw [e0] at hcon
  have hlen : Q.length = (allSets n).length := by have := congrArg List.length hcon; rw [List.length_map, List.length_map] at this; exact this
  have hlt := h.lt
  have hq := h.len
  refine ⟨g, cap, Q, by rw [← hlen, hq], ⟨⟨fun k hk => h.cell hk, hlt.1, hlt.2.2.2, ⟨by omega, hlt.2.2.1⟩, fun r hr => h.grows.ins r hr⟩, hlen, fun j hj => ?_⟩, hb⟩
  have hj2 : j < (allSets n).length := by rw [← hlen]; exact hj
  refine ⟨hj2, ?_⟩
  have e1 : (Q.map Row.l)[j]? = some Q[j].l := by rw [List.getElem?_map, List.getElem?_eq_getElem hj]; rfl
  rw [hcon, List.getElem?_map, List.getElem?_eq_getElem hj2] at e1
  simpa using e1.symm

set_option maxRecDepth 32000 in
set_option maxHeartbeats 2000000 in
theorem specCover_any (F : Fld) (r : Int) (w : World) (hF : F.At w) (l : List Int) (b : Bool) (hv : Covs F r l b) :
    Calls Try.prog 22 #[F.val, .int .i64 r] w (PInts l b w) := by
  obtain ⟨wA, hA, hbA, bx, hFA, hszA⟩ := laid_fld F w 29 hF
  have HFA := Lib.hid hFA
  have HBX := Lib.hid bx
  have HA := Lib.hid hA
  have HV := Lib.hid hv
  have HN0 := Lib.hid (covs_no hv)
  have HY0 := Lib.hid (covs_yes hv)
  obtain ⟨g, hg⟩ : ∃ g, g = F.good := ⟨_, rfl⟩
  have CG := l2Good_any F wA hFA
  rw [← hg] at CG
  have CG1 := Lib.hid CG
  have HG := Lib.hid hg
  have x0 := bx.c0
  have x1 := bx.c1
  rw [hA] at x0 x1
  clear hF hA hFA bx hg CG hv
  show Calls _ _ #[.agg #[F.o.val, F.t.val], _] w _
  go_enter Try.func22, Try.ntmps22
  go_wp2_with fail
  rw [show w.alloc (Obj.cells #[F.o.val, F.t.val] 29) = wA from HA.out.symm]
  refine (show Calls _ _ _ _ _ from CG1.out).mono ?_
  rintro e W1 ⟨rfl, hb1⟩
  have hbw := hbA.trans (hb1.mono hbA.size)
  have HEND : Hid (PInts [] false w (.returned (.tuple #[.slice (some ⟨W1.heap.size, 0, none⟩) 0 0, .bool false])) (W1.alloc (.cells #[] 3))) := Lib.hid (ints_end rfl (empty_own W1) hbw.size (hbw.trans ((below_alloc W1 _).mono hbw.size)))
  clear x0 x1
  cases g with
  | false =>
    obtain ⟨rfl, rfl⟩ := HN0.out (by rw [← HG.out]; rfl)
    clear hb1 hbw
    go_wp2
    go_ret2
    exact HEND.out
  | true =>
    by_cases hr0 : r < 0
    · obtain ⟨rfl, rfl⟩ := HN0.out (by rw [← HG.out]; simp; omega)
      clear hb1 hbw
      go_wp2
      go_ret2
      exact HEND.out
    have hyes := HY0.out (by rw [← HG.out]; simp; omega)
    have HYES := Lib.hid hyes
    have hsz := good_sizes HG.out.symm
    obtain ⟨n, hn⟩ : ∃ n, n = F.o.l.length := ⟨_, rfl⟩
    have HN := Lib.hid hn
    have hn7 : n ≤ 7 := by omega
    have CS := Lib.hid (l2All_any n W1 hn7)
    have y0 : W1.cell? ⟨w.heap.size, 0, none⟩ = some (.slice F.o.a n F.o.c) := by rw [hn]; exact (HBX.out.on hb1).c0
    have hni : (n : Int) ≤ 7 := by omega
    obtain ⟨L, hL⟩ : ∃ L, L = allSets n := ⟨_, rfl⟩
    have HCO : Hid (coverO F r = L.find? (coversB F r)) := Lib.hid (by unfold coverO; rw [← hn, hL])
    have HLL := Lib.hid hL
    have hL127 : L.length ≤ 127 := by rw [hL]; exact (sets_good n hn7).2
    obtain ⟨c, hc⟩ : ∃ c, c = L.length := ⟨_, rfl⟩
    have hc7 : (c : Int) ≤ 127 := by omega
    rw [← hL, ← hc] at CS
    have HC := Lib.hid hc
    have HB1 := Lib.hid hb1
    have hwA := hbA.size
    have hwW := hbw.size
    clear hyes hsz hn hb1 hbw hL hc
    go_wp2_with fail
    refine (show Calls _ _ _ _ _ from CS.out).mono ?_
    rintro e W2 ⟨gg, cap, Q, rfl, hT, hb2⟩
    have HT := Lib.hid hT
    have HB2 := Lib.hid (HB1.out.trans (hb2.mono HB1.out.size))
    have HW2 := Lib.hid hb2
    have hsz2 := hb2.size
    have hcapi : (c : Int) ≤ (cap : Int) := by have := hT.read.cap; have := hT.len; rw [← HLL.out, ← HC.out] at this; omega
    have HQC : Hid (Q.length = c) := Lib.hid (by rw [hT.len, ← HLL.out, ← HC.out])
    clear hT hb2 y0
    go_wp2
    go_loopw [7] (fun i wr => ∃ j : Nat, j ≤ c ∧ i = .int .i64 j ∧ Hid (∀ k, (hk : k < j) → ∀ h2 : k < L.length, coversB F r L[k] = false) ∧ Below W2.heap.size W2 wr) (fun i _ => c - (intOf i).toNat)
    case atStart => exact ⟨0, Nat.zero_le _, rfl, Lib.hid (fun k hk => absurd hk (Nat.not_lt_zero _)), Below.refl _ _⟩
    case round =>
      obtain ⟨j, hj, rfl, HNOT, hnx⟩ := hrel
      have HNX := Lib.hid hnx
      have HBR := Lib.hid (HB2.out.trans (hnx.mono HB2.out.size))
      have y0 := (HBX.out.on HBR.out).c0
      have y1 := (HBX.out.on HBR.out).c1
      by_cases hlt : j < c
      · have hlti : (j : Int) < (c : Int) := by omega
        have hjQ : j < Q.length := by rw [HQC.out]; exact hlt
        obtain ⟨hj2, hrl⟩ := HT.out.row j hjQ
        have hjL : j < L.length := by rw [← HC.out]; exact hlt
        obtain ⟨q, hq⟩ : ∃ q, q = Q[j] := ⟨_, rfl⟩
        obtain ⟨T, hTT⟩ : ∃ T, T = L[j] := ⟨_, rfl⟩
        have hqT : q.l = up T := by rw [hq, hrl, hTT]; congr 1; simp only [HLL.out]
        have hok := all_ok hn7 (show T ∈ allSets n by rw [hTT, ← HLL.out]; exact List.getElem_mem hjL)
        have hcl : wr.cell? ⟨gg, j, none⟩ = some (.slice q.a q.l.length q.c) := (hnx.cell (p := ⟨gg, j, none⟩) HT.out.read.lt).trans (by rw [hq]; exact HT.out.read.cell j hjQ)
        have hglt : gg < wr.heap.size := Nat.lt_of_lt_of_le HT.out.read.lt hnx.size
        have HQM : Hid (q ∈ Q) := Lib.hid (by rw [hq]; exact List.getElem_mem _)
        obtain ⟨x, hx⟩ : ∃ x, x = maxOf (lens F.t.con T) := ⟨_, rfl⟩
        have C1 := Lib.hid (fun u (hu : Below wr.heap.size wr u) => by have := l2Far_any F q T u ((HFA.out.on HBR.out).on hu) ((((HT.out.read.rows q HQM.out).on HNX.out).on hu).at) ⟨HG.out.symm, hqT, List.length_pos_iff.2 hok.1, by rw [← HN.out]; exact hok.2.1.2⟩; rw [← hx] at this; exact this : ∀ u, Below wr.heap.size wr u → Calls Try.prog 48 #[.agg #[F.o.val, F.t.val], .slice q.a q.l.length q.c] u fun e w' => e = .returned (.int .i64 x) ∧ Below u.heap.size u w')
        have HCV : Hid (coversB F r L[j] = decide (x ≤ r)) := Lib.hid (by unfold coversB; rw [hx, hTT])
        have HQT : Hid (q.l = up T) := Lib.hid hqT
        have HTT : Hid (T = L[j]) := Lib.hid hTT
        have hq7 : q.l.length ≤ 7 := by rw [hqT, up_length]; exact hok.2.2
        have HS : Hid (∀ u, Below wr.heap.size wr u → ((u.cell? ⟨gg, j, none⟩ = some (.slice q.a q.l.length q.c) ∧ u.cell? ⟨w.heap.size, 0, none⟩ = some F.o.val ∧ u.cell? ⟨w.heap.size, 1, none⟩ = some F.t.val) ∧ Below wr.heap.size wr u)) := Lib.hid fun u hu => ⟨⟨(hu.cell (p := ⟨gg, j, none⟩) hglt).trans hcl, (hu.cell (p := ⟨w.heap.size, 0, none⟩) (HBX.out.on HBR.out).lt).trans y0, (hu.cell (p := ⟨w.heap.size, 1, none⟩) (HBX.out.on HBR.out).lt).trans y1⟩, hu⟩
        have s0 := HS.out wr.drew (Below.refl _ _).drew
        clear hq hTT hqT hrl hok hx hnx
        go_wp2_with fail
        go_region_held3 (fun u => ((u.cell? ⟨gg, j, none⟩ = some (.slice q.a q.l.length q.c) ∧ u.cell? ⟨w.heap.size, 0, none⟩ = some F.o.val ∧ u.cell? ⟨w.heap.size, 1, none⟩ = some F.t.val) ∧ Below wr.heap.size wr u)) (first | exact s0 | exact keep_reg HS.out (by first | assumption | exact And.right (by assumption)) hb1) (first | (go_at_call 48; refine (show Calls _ _ _ _ _ from C1.out _ (by first | assumption | exact And.right (by assumption))).mono ?_; rintro e u1 ⟨rfl, hb1⟩))
        refine at_exit (W := wr) (by first | assumption | exact And.right (by assumption)) ?_
        intro W8 hb8
        have hc8 : W8.cell? ⟨gg, j, none⟩ = some (.slice q.a q.l.length q.c) := (HS.out W8 hb8).1.1
        have HB8 : Hid (Below W2.heap.size W2 W8) := Lib.hid (HNX.out.trans (hb8.mono HNX.out.size))
        have CO := Lib.hid (l1OwnRow_any q W8 (((HT.out.read.rows q HQM.out).on HB8.out).at) (by omega))
        clear s0 hb8 hcl y0 y1
        by_cases hxr : x ≤ r
        · have HANS : Hid (l = up T ∧ b = true) := Lib.hid (by
            have hf : coverO F r = some T := by rw [HCO.out, find_at hjL (fun i hi => HNOT.out i hi (by omega)) (by rw [HCV.out]; simpa using hxr), ← HTT.out]
            rcases HYES.out with ⟨h, _⟩ | ⟨T', h, h2⟩
            · rw [hf] at h; cases h
            · rw [hf] at h; cases h; exact h2)
          go_wp2_with fail
          refine (show Calls _ _ _ _ _ from CO.out).mono ?_
          rintro e W9 ⟨t, rfl, htl, hto, hti, hb9⟩
          have HTL := Lib.hid htl
          have hW8 := HB8.out.size
          clear htl hc8
          go_wp2
          go_ret2
          rw [HANS.out.1, HANS.out.2]
          exact ⟨t, rfl, by rw [HTL.out, HQT.out], hto, hti.wide (by omega) (Nat.le_refl _), (hbA.trans ((HB2.out.trans (HB8.out.mono HB2.out.size)).mono hwA)).trans (hb9.mono (by omega))⟩
        · have HN2 : Hid (∀ k, (hk : k < j + 1) → ∀ h2 : k < L.length, coversB F r L[k] = false) := Lib.hid fun k hk h2 => by
            by_cases e : k = j
            · subst e; rw [HCV.out]; simpa using hxr
            · exact HNOT.out k (by omega) h2
          go_wp2
          go_roundw
          case rel => exact ⟨j + 1, by omega, by go_num, HN2, HB8.out⟩
          case measure => simp [intOf]; omega
      · obtain rfl : j = c := by omega
        have HANS : Hid (l = [] ∧ b = false) := Lib.hid (by
          rcases HYES.out with ⟨_, h2⟩ | ⟨T', h, _⟩
          · exact h2
          · rw [HCO.out, find_none (fun i hi => HNOT.out i (by rw [HC.out]; exact hi) hi)] at h; cases h)
        have hszr := hnx.size
        have HE : Hid (PInts [] false w (.returned (.tuple #[.slice (some ⟨wr.heap.size, 0, none⟩) 0 0, .bool false])) (wr.alloc (.cells #[] 3))) := Lib.hid (ints_end rfl (empty_own wr) (by omega) ((hbA.trans (HBR.out.mono hwA)).trans ((below_alloc wr _).mono (by omega))))
        clear hnx y0 y1
        go_wp2
        go_ret2
        rw [HANS.out.1, HANS.out.2]
        exact HE.out

theorem covering_pair (F : Fld) (r : Int) (_ : (Lit.int .i64 r).wf = true) (_ : F.Small) : ∃ (l : List Int) (b : Bool) (_ : l.length ≤ 1048576),
    (∀ (G : Fld) (W : World), G.At W → G.Like F → Calls Try.prog 22 #[G.val, .int .i64 r] W (PInts l b W)) ∧
    (∀ (G : Fld) (W : World), G.At W → G.Like F → Calls Try.prog 23 #[G.val, .int .i64 r] W (PInts l b W)) := by
  obtain ⟨l, b, h, hl⟩ := covs_some F r
  exact ⟨l, b, hl, fun G W hG hl => specCover_any G r W hG l b (covs_like h hl), fun G W hG hl => implCover_any G r W hG l b (covs_like h hl)⟩
end Go.Proofs.Ytjeodblaekdpkaa
