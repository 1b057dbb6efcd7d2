/- BestBudget, the model's side, and both sides together. Condition: the arguments read as such. -/
import Derived.Test.YtbochmpkjacnnaaGainAll
import Derived.Test.YtbochmpkjacnnaaBestUnderB
import Derived.Test.YtbochmpkjacnnaaPay
namespace Go.Proofs.Ytbochmpkjacnnaa
open Go.RowKit Go.Shelf

theorem unitB : True := trivial
theorem l8Budget_any (k : Int) (w : World) :
    Calls Try.prog 47 #[.int .i64 k] w fun e w' => e = .returned (.bool (decide (0 ≤ k) && decide (k ≤ 9999))) ∧ w' = w := by
  have CI := Lib.hid (l1In_any k 0 9999 w)
  go_enter Try.func47, Try.ntmps47
  go_wp2_with fail
  refine (show Calls _ _ _ _ _ from CI.out).mono ?_
  rintro e W1 ⟨rfl, rfl⟩
  go_wp2
  go_ret
  exact ⟨rfl, rfl⟩

set_option maxRecDepth 32000 in
set_option maxHeartbeats 3000000 in
theorem specBestBudget_any (F : Fld) (u : Int) (k : Int) (w : World) (hF : F.At w)  (b : Bool) (hb0 : b = (worthB F u && (decide (0 ≤ k) && decide (k ≤ 9999)))) (l : List Int) (hl0 : l = if b then up (bestG (gainT F u) (fun T => decide ((pays F.o.l T).sum ≤ k)) (E8.allSets F.o.l.length)) else []) :
    Calls Try.prog 23 #[.agg #[.slice F.o.a F.o.l.length F.o.c, .slice F.t.a F.t.R.length F.t.c], .int .i64 u, .int .i64 k] w (PInts l b w) := by
  obtain ⟨wA, hA, hb, bx, hFA, hszA⟩ := laid_fld F w 29 hF
  obtain ⟨wB, hB⟩ : ∃ u, u = wA.alloc (.cells #[] 3) := ⟨_, rfl⟩
  have hbB : Below wA.heap.size wA wB := by rw [hB]; exact below_alloc _ _
  have hszB : wB.heap.size = w.heap.size + 1 + 1 := by rw [hB, size_alloc, hszA]
  obtain ⟨y0, hy0v, hy0l, hy0o, hy0i⟩ := row_of_own (l := []) (by have := empty_own wA; rw [← hB, hszA] at this; exact this)
  obtain ⟨v, hv⟩ : ∃ v, v = worthB F u := ⟨_, rfl⟩
  have cg := l8Good_any F u wB (hFA.on hbB)
  rw [← hv] at cg
  have CG := Lib.hid (show Calls Try.prog 37 #[.agg #[.slice F.o.a F.o.l.length F.o.c, .slice F.t.a F.t.R.length F.t.c], .int .i64 u] wB _ from cg)
  obtain ⟨q, hq⟩ : ∃ q, q = (decide (0 ≤ k) && decide (k ≤ 9999)) := ⟨_, rfl⟩
  have CI := Lib.hid (fun W => by have := l8Budget_any k W; rw [← hq] at this; exact this : ∀ W, Calls Try.prog 47 #[.int .i64 k] W fun e w' => e = .returned (.bool q) ∧ w' = W)
  have hbwB := hb.trans (hbB.mono hb.size)
  have HAK : Hid (b = (v && q)) := Lib.hid (by rw [hb0, hv, hq])
  have HFA := Lib.hid hFA
  have HBX : Hid (Box2 wA w.heap.size (.slice F.o.a F.o.l.length F.o.c) (.slice F.t.a F.t.R.length F.t.c) 29) := Lib.hid bx
  have HA := Lib.hid hA
  have HB := Lib.hid hB
  have HL0 := Lib.hid hl0
  have HVW := Lib.hid hv
  have HQB := Lib.hid hq
  have HBWB := Lib.hid hbwB
  have HBB := Lib.hid hbB
  have HY0 : Hid (y0.l = [] ∧ y0.Own 3 wB ∧ y0.In w.heap.size wB.heap.size wB) := Lib.hid ⟨hy0l, hy0o, hy0i.wide (by omega) (Nat.le_refl _)⟩
  have HYV := Lib.hid hy0v
  have HSB := Lib.hid hszB
  have x0 : wB.cell? ⟨w.heap.size, 0, none⟩ = some (.slice F.o.a F.o.l.length F.o.c) := (bx.on hbB).c0
  have x1 : wB.cell? ⟨w.heap.size, 1, none⟩ = some (.slice F.t.a F.t.R.length F.t.c) := (bx.on hbB).c1
  rw [hB, hA] at x0 x1
  change ((w.alloc (Obj.cells #[.slice F.o.a F.o.l.length F.o.c, .slice F.t.a F.t.R.length F.t.c] 29)).alloc (.cells #[] 3)).cell? _ = _ at x0 x1
  have HNO : Hid (∀ W, Below wB.heap.size wB W → b = false → PInts l b w (.returned (.tuple #[.slice (some ⟨w.heap.size + 1, 0, none⟩) 0 0, .bool false])) W) := Lib.hid (fun W hW h => by
    subst h
    have hle : l = [] := hl0
    subst hle
    exact ⟨y0, by rw [hy0v], hy0l, hy0o.on hW, ((hy0i.on hW).wide (by omega) hW.size), hbwB.trans (hW.mono hbwB.size)⟩)
  clear hF hA hB hbB bx hFA cg hb0 hl0 hv hq hy0l hy0o hy0i hbwB hszB hszA hy0v 
  go_enter Try.func23, Try.ntmps23
  go_wp2_with fail
  rw [show (w.alloc (Obj.cells #[.slice F.o.a F.o.l.length F.o.c, .slice F.t.a F.t.R.length F.t.c] 29)).alloc (.cells #[] 3) = wB by rw [HB.out, HA.out]; rfl]
  refine (show Calls _ _ _ _ _ from CG.out).mono ?_
  rintro e W1 ⟨rfl, hb1⟩
  have HB1 := Lib.hid hb1
  clear x0 x1
  cases v with
  | false =>
    have HE := Lib.hid (HNO.out W1 hb1 (by rw [HAK.out]; rfl))
    clear hb1
    go_wp2
    go_ret2
    exact HE.out
  | true =>
    clear hb1
    go_wp2_with fail
    refine (show Calls _ _ _ _ _ from CI.out _).mono ?_
    rintro e W ⟨rfl, rfl⟩
    cases q with
    | false =>
      have HE := Lib.hid (HNO.out W HB1.out (by rw [HAK.out]; rfl))
      go_wp2
      go_ret2
      exact HE.out
    | true =>
      obtain rfl : b = true := HAK.out
      have hgood : worthB F u = true := HVW.out.symm
      have hsz := good_sizes (worthB_iff.1 hgood).1
      obtain ⟨N, hN⟩ : ∃ N, N = F.o.l.length := ⟨_, rfl⟩
      have hR8 : N ≤ 8 := by omega
      obtain ⟨φ, hφ⟩ : ∃ φ, φ = gainT F u := ⟨_, rfl⟩
      have hk := HQB.out
      have hk0 : 0 ≤ k ∧ k ≤ 9999 := by
        have := hk.symm
        simpa using this
      obtain ⟨p, hp⟩ : ∃ p : List Nat → Bool, p = fun T => decide ((pays F.o.l T).sum ≤ k) := ⟨_, rfl⟩
      clear hk
      obtain ⟨L, hL⟩ : ∃ L, L = choL N N := ⟨_, rfl⟩
      have HLL : Hid (l = up (bestG φ p L)) := Lib.hid (by rw [HL0.out, if_pos (by first | rfl | trivial), hφ, hL, hN, choL_all, bestG_cons, hp])
      have HGD := Lib.hid hgood
      have HPH := Lib.hid hφ
      have HPP := Lib.hid hp
      have HNN := Lib.hid hN
      have HBA : Hid (Below wA.heap.size wA W) := Lib.hid (HBB.out.trans (HB1.out.mono HBB.out.size))
      have y0c := (HBX.out.on HBA.out).c0
      have y1c := (HBX.out.on HBA.out).c1
      obtain ⟨c, hc⟩ : ∃ c, c = L.length := ⟨_, rfl⟩
      have CC := Lib.hid (by have := l8All_any F W N hN hR8; rw [← hL, ← hc] at this; exact this)
      have hc256 : c ≤ 256 := by rw [hc, hL]; exact (cho_all _ hR8).2
      have hci : (c : Int) ≤ 256 := by omega
      have HLD := Lib.hid hL
      have HCD := Lib.hid hc
      have HR8 := Lib.hid hR8
      clear hgood hL hc hN hφ hp hsz hR8
      go_wp2_with fail
      refine (show Calls _ _ _ _ _ from CC.out).mono ?_
      rintro e W2 ⟨g, cap, Q, rfl, hT, hb2⟩
      have HT := Lib.hid hT
      have HQC : Hid (Q.length = c) := Lib.hid (by rw [hT.len, HCD.out, HLD.out])
      have HB2A : Hid (Below wA.heap.size wA W2) := Lib.hid (HBA.out.trans (hb2.mono HBA.out.size))
      have HB2B : Hid (Below wB.heap.size wB W2) := Lib.hid (HB1.out.trans (hb2.mono HB1.out.size))
      have hcapi : (c : Int) ≤ (cap : Int) := by have := hT.cap; have := HQC.out; omega
      have hszW := HB1.out.size
      have hszb := hb2.size
      have hsb := HSB.out
      clear hT hb2 y0c y1c
      go_wp2
      go_loopw [8, 10] (fun bv iv wr => ∃ (j : Nat) (y : Row), j ≤ c ∧ iv = .int .i64 j ∧ bv = .slice y.a y.l.length y.c ∧ Hid (y.l = up (bestG φ p (L.take j)) ∧ y.Own 3 wr ∧ y.In w.heap.size wr.heap.size wr) ∧ Below W2.heap.size W2 wr) (fun _ iv _ => c - (intOf iv).toNat)
      case atStart => exact ⟨0, y0, Nat.zero_le _, rfl, HYV.out, Lib.hid ⟨by rw [HY0.out.1, List.take_zero]; rfl, HY0.out.2.1.on HB2B.out, (HY0.out.2.2.on HB2B.out).wide (Nat.le_refl _) HB2B.out.size⟩, Below.refl _ _⟩
      case round =>
        obtain ⟨j, y, hj, rfl, rfl, HY, hnx⟩ := hrel
        have HNX := Lib.hid hnx
        by_cases hlt : j < c
        · have hlti : (j : Int) < (c : Int) := by omega
          have hjQ : j < Q.length := by rw [HQC.out]; exact hlt
          have hjL : j < L.length := by rw [← HCD.out]; exact hlt
          obtain ⟨r, hr⟩ : ∃ r, r = Q[j] := ⟨_, rfl⟩
          obtain ⟨T, hTT⟩ : ∃ T, T = L[j] := ⟨_, rfl⟩
          have hrl : r.l = up T := by
            rw [hr, hTT]
            have := HT.out.at hjQ (by rw [← HLD.out]; exact hjL)
            rw [this]; congr 1; simp only [HLD.out]
          have hrm : r ∈ Q := by rw [hr]; exact List.getElem_mem _
          have hcl : wr.cell? ⟨g, j, none⟩ = some (.slice r.a r.l.length r.c) := (hnx.cell (p := ⟨g, j, none⟩) HT.out.lt).trans (by rw [hr]; exact HT.out.cell j hjQ)
          have hok := cho_ok HR8.out (show T ∈ choL N N by rw [hTT, ← HLD.out]; exact List.getElem_mem hjL)
          have HST : Hid (bestG φ p (L.take (j + 1)) = stepG φ p (bestG φ p (L.take j)) T) := Lib.hid (by rw [bestG_step φ p L hjL, hTT])
          have HRR : Hid (∀ u, Below wr.heap.size wr u → r.l = up T ∧ r.Own 3 u ∧ r.In w.heap.size u.heap.size u) := Lib.hid fun u hu => by
            have hW := hnx.trans (hu.mono hnx.size)
            obtain ⟨h1, h2⟩ := HT.out.rows r hrm
            exact ⟨hrl, h2.on hW, (h1.on hW).wide (by omega) hW.size⟩
          have hrlen : r.l.length = T.length := by rw [hrl, up_length]
          have hr8i : (r.l.length : Int) ≤ 8 := by omega
          have hT8 : T.length ≤ 8 := hok.2.1
          have hTlt : ∀ x ∈ T, x < F.o.l.length := by rw [← HNN.out]; exact hok.2.2
          obtain ⟨U, hU⟩ : ∃ U, U = bestG φ p (L.take j) := ⟨_, rfl⟩
          have hUok : U.length ≤ 8 ∧ ∀ x ∈ U, x < F.o.l.length := by
            rcases bestG_mem φ p L j (by rw [← HCD.out]; omega) with h | h
            · rw [hU, h]; exact ⟨by simp, by simp⟩
            · have := cho_ok HR8.out (show U ∈ choL N N by rw [hU, ← HLD.out]; exact h); rw [← HNN.out]; exact this.2
          have hyl : y.l = up U := by rw [hU]; exact HY.out.1
          obtain ⟨cT, hcT⟩ : ∃ z, z = φ T := ⟨_, rfl⟩
          obtain ⟨cU, hcU⟩ : ∃ z, z = φ U := ⟨_, rfl⟩
          have HBAr : Hid (Below wA.heap.size wA wr) := Lib.hid (HB2A.out.trans (hnx.mono HB2A.out.size))
          have C1 := Lib.hid (fun u' (hu : Below wr.heap.size wr u') => (by
            have := l8Gain_any F u r T u' ((show F.At wA from HFA.out).on (HBAr.out.trans (hu.mono HBAr.out.size))) (HRR.out u' hu).2.2.at ⟨HGD.out, hrl, hTlt, by omega⟩
            rw [← HPH.out, ← hcT] at this
            exact this : Calls Try.prog 40 #[.agg #[.slice F.o.a F.o.l.length F.o.c, .slice F.t.a F.t.R.length F.t.c], .int .i64 u, .slice r.a r.l.length r.c] u' fun e w' => e = .returned (.int .i64 cT) ∧ Below u'.heap.size u' w'))
          have C2 := Lib.hid (fun u' (hu : Below wr.heap.size wr u') => (by
            have := l8Gain_any F u y U u' ((show F.At wA from HFA.out).on (HBAr.out.trans (hu.mono HBAr.out.size))) (HY.out.2.2.on hu).at ⟨HGD.out, hyl, hUok.2, by omega⟩
            rw [← HPH.out, ← hcU] at this
            exact this : Calls Try.prog 40 #[.agg #[.slice F.o.a F.o.l.length F.o.c, .slice F.t.a F.t.R.length F.t.c], .int .i64 u, .slice y.a y.l.length y.c] u' fun e w' => e = .returned (.int .i64 cU) ∧ Below u'.heap.size u' w'))
          have HS : Hid (∀ u', Below wr.heap.size wr u' → ((u'.cell? ⟨g, j, none⟩ = some (.slice r.a r.l.length r.c) ∧ u'.cell? ⟨w.heap.size, 0, none⟩ = some (.slice F.o.a F.o.l.length F.o.c) ∧ u'.cell? ⟨w.heap.size, 1, none⟩ = some (.slice F.t.a F.t.R.length F.t.c)) ∧ Below wr.heap.size wr u')) := Lib.hid fun u' hu => by
            have hu2 := HBAr.out.trans (hu.mono HBAr.out.size)
            exact ⟨⟨(hu.cell (p := ⟨g, j, none⟩) (Nat.lt_of_lt_of_le HT.out.lt HNX.out.size)).trans hcl, (HBX.out.on hu2).c0, (HBX.out.on hu2).c1⟩, hu⟩
          have s0 := HS.out wr.drew (Below.refl _ _).drew
          have HSTT : Hid (p T = true → cU < cT → bestG φ p (L.take (j + 1)) = T) := Lib.hid fun hp h => by rw [HST.out]; unfold stepG; rw [if_pos ⟨by rw [← hU, ← hcU, ← hcT]; exact h, hp⟩]
          have HSTU : Hid (¬ (p T = true ∧ cU < cT) → bestG φ p (L.take (j + 1)) = bestG φ p (L.take j)) := Lib.hid fun h => by rw [HST.out]; unfold stepG; rw [if_neg (fun e => h ⟨e.2, by rw [hcU, hcT, hU]; exact e.1⟩)]
          obtain ⟨pT, hpT⟩ : ∃ z, z = (pays F.o.l T).sum := ⟨_, rfl⟩
          have CPY := Lib.hid (fun u' (hu : Below wr.heap.size wr u') => (by
            have := l2Pay_any F r T u' ((show F.At wA from HFA.out).on (HBAr.out.trans (hu.mono HBAr.out.size))) (HRR.out u' hu).2.2.at ⟨(worthB_iff.1 HGD.out).1, hrl, hTlt, by omega⟩
            rw [← hpT] at this
            exact this : Calls Try.prog 48 #[.agg #[.slice F.o.a F.o.l.length F.o.c, .slice F.t.a F.t.R.length F.t.c], .slice r.a r.l.length r.c] u' fun e w' => e = .returned (.int .i64 pT) ∧ Below u'.heap.size u' w'))
          have HPT : Hid (pT ≤ k → p T = true) := Lib.hid fun h => by rw [HPP.out]; exact decide_eq_true (by rw [← hpT]; exact h)
          have HPF : Hid (p T = true → pT ≤ k) := Lib.hid fun h => by rw [HPP.out] at h; have := of_decide_eq_true h; rw [hpT]; exact this
          clear hrlen hpT
          clear hr hTT hrl hrm hok hU hUok hyl hcT hcU hnx hTlt hjQ hjL
          by_cases hlk : pT ≤ k
          · by_cases hcc : cU < cT
            · have hcci : cT > cU := hcc
              have HNEW := Lib.hid (HSTT.out (HPT.out hlk) hcc)
              clear hcc

              go_wp2_with fail
              go_region_held3 (fun u' => ((u'.cell? ⟨g, j, none⟩ = some (.slice r.a r.l.length r.c) ∧ u'.cell? ⟨w.heap.size, 0, none⟩ = some (.slice F.o.a F.o.l.length F.o.c) ∧ u'.cell? ⟨w.heap.size, 1, none⟩ = some (.slice F.t.a F.t.R.length F.t.c)) ∧ Below wr.heap.size wr u')) (first | exact s0 | exact keep_reg HS.out (by first | assumption | exact And.right (by assumption)) hb1) (first | (go_at_call 48; refine (show Calls _ _ _ _ _ from CPY.out _ (by first | assumption | exact And.right (by assumption))).mono ?_; rintro e u3 ⟨rfl, hb1⟩) | (go_at_call 40; with_reducible change Calls _ _ #[_, _, .slice r.a _ _] _ _; refine (show Calls _ _ _ _ _ from C1.out _ (by first | assumption | exact And.right (by assumption))).mono ?_; rintro e u1 ⟨rfl, hb1⟩) | (go_at_call 40; with_reducible change Calls _ _ #[_, _, .slice y.a _ _] _ _; refine (show Calls _ _ _ _ _ from C2.out _ (by first | assumption | exact And.right (by assumption))).mono ?_; rintro e u2 ⟨rfl, hb1⟩))
              refine at_exit (W := wr) (by first | assumption | exact And.right (by assumption)) ?_
              intro W8 hb8
              have hc8 : W8.cell? ⟨g, j, none⟩ = some (.slice r.a r.l.length r.c) := (HS.out W8 hb8).1.1
              have HR8' := Lib.hid (HRR.out W8 hb8)
              have R2 := HNX.out.trans (hb8.mono HNX.out.size)
              clear s0 hb8 hcl
              go_wp2
              go_roundw
              case rel => exact ⟨j + 1, r, by omega, by go_num, rfl, Lib.hid (by rw [HNEW.out]; exact HR8'.out), R2⟩
              case measure => simp [intOf]; omega
            · have hcci : ¬ cT > cU := hcc
              have HNEW := Lib.hid (HSTU.out (fun h => hcc h.2))
              clear hcc

              go_wp2_with fail
              go_region_held3 (fun u' => ((u'.cell? ⟨g, j, none⟩ = some (.slice r.a r.l.length r.c) ∧ u'.cell? ⟨w.heap.size, 0, none⟩ = some (.slice F.o.a F.o.l.length F.o.c) ∧ u'.cell? ⟨w.heap.size, 1, none⟩ = some (.slice F.t.a F.t.R.length F.t.c)) ∧ Below wr.heap.size wr u')) (first | exact s0 | exact keep_reg HS.out (by first | assumption | exact And.right (by assumption)) hb1) (first | (go_at_call 48; refine (show Calls _ _ _ _ _ from CPY.out _ (by first | assumption | exact And.right (by assumption))).mono ?_; rintro e u3 ⟨rfl, hb1⟩) | (go_at_call 40; with_reducible change Calls _ _ #[_, _, .slice r.a _ _] _ _; refine (show Calls _ _ _ _ _ from C1.out _ (by first | assumption | exact And.right (by assumption))).mono ?_; rintro e u1 ⟨rfl, hb1⟩) | (go_at_call 40; with_reducible change Calls _ _ #[_, _, .slice y.a _ _] _ _; refine (show Calls _ _ _ _ _ from C2.out _ (by first | assumption | exact And.right (by assumption))).mono ?_; rintro e u2 ⟨rfl, hb1⟩))
              refine at_exit (W := wr) (by first | assumption | exact And.right (by assumption)) ?_
              intro W8 hb8
              have R1 : Hid (y.l = up (bestG φ p (L.take (j + 1))) ∧ y.Own 3 W8 ∧ y.In w.heap.size W8.heap.size W8) := Lib.hid (by rw [HNEW.out]; exact ⟨HY.out.1, HY.out.2.1.on hb8, (HY.out.2.2.on hb8).wide (Nat.le_refl _) hb8.size⟩)
              have R2 := HNX.out.trans (hb8.mono HNX.out.size)
              clear s0 hb8 hcl
              go_wp2
              go_roundw
              case rel => exact ⟨j + 1, y, by omega, by go_num, rfl, R1, R2⟩
              case measure => simp [intOf]; omega
          · have HNEW : Hid (bestG φ p (L.take (j + 1)) = bestG φ p (L.take j)) := Lib.hid (HSTU.out (fun h => hlk (HPF.out h.1)))
            have hnlk : ¬ pT ≤ k := hlk
            have hd2 : decide (pT ≤ k) = false := decide_eq_false hlk
            clear hlk
            go_wp2_with fail
            refine wp_region_held_drew (S := (fun u' => ((u'.cell? ⟨g, j, none⟩ = some (.slice r.a r.l.length r.c) ∧ u'.cell? ⟨w.heap.size, 0, none⟩ = some (.slice F.o.a F.o.l.length F.o.c) ∧ u'.cell? ⟨w.heap.size, 1, none⟩ = some (.slice F.t.a F.t.R.length F.t.c)) ∧ Below wr.heap.size wr u'))) (by kernel_rfl) s0 (fun hHeld => ?_)
            refine wpAnyH_take (i := 0) (v := ?vv0) rfl (by kernel_rfl) (by kernel_rfl) (by kernel_rfl) (fun _ _ _ h => h) (Or.inl ⟨by rfl, ?hy0⟩) (by assumption) ?rest0
            case hy0 => (intro w hSw; (try dsimp only at hSw); (try simp only [List.getElem_toArray, List.getElem_cons_zero]); go_simp <;> with_reducible rfl)
            try simp only [Act.put, List.getElem_toArray, List.getElem_cons_zero, List.setIfInBounds_toArray, List.set_cons_zero, List.set_cons_succ]
            refine wpAnyH_take (i := 1) (v := ?vv1) rfl (by kernel_rfl) (by kernel_rfl) (by kernel_rfl) (fun _ _ _ h => h) (Or.inl ⟨by rfl, ?hy1⟩) (by assumption) ?rest1
            case hy1 => (intro w hSw; (try dsimp only at hSw); (try simp only [List.getElem_toArray, List.getElem_cons_zero, List.getElem_cons_succ]); go_simp <;> with_reducible rfl)
            try simp only [Act.put, List.getElem_toArray, List.getElem_cons_zero, List.getElem_cons_succ, List.setIfInBounds_toArray, List.set_cons_zero, List.set_cons_succ]
            refine wpAnyH_take (i := 2) (v := ?vv2) rfl (by kernel_rfl) (by kernel_rfl) (by kernel_rfl) (fun _ _ _ h => h) (Or.inl ⟨by rfl, ?hy2⟩) (by assumption) ?rest2
            case hy2 => (intro w hSw; (try dsimp only at hSw); (try simp only [List.getElem_toArray, List.getElem_cons_zero, List.getElem_cons_succ]); go_simp <;> with_reducible rfl)
            try simp only [Act.put, List.getElem_toArray, List.getElem_cons_zero, List.getElem_cons_succ, List.setIfInBounds_toArray, List.set_cons_zero, List.set_cons_succ]
            refine wpAnyH_take (i := 3) (v := ?vv3) rfl (by kernel_rfl) (by kernel_rfl) (by kernel_rfl) (fun _ _ _ h => h) (Or.inl ⟨by rfl, ?hy3⟩) (by assumption) ?rest3
            case hy3 => (intro w hSw; (try dsimp only at hSw); (try simp only [List.getElem_toArray, List.getElem_cons_zero, List.getElem_cons_succ]); go_simp <;> with_reducible rfl)
            try simp only [Act.put, List.getElem_toArray, List.getElem_cons_zero, List.getElem_cons_succ, List.setIfInBounds_toArray, List.set_cons_zero, List.set_cons_succ]
            refine wpAnyH_take (i := 4) (v := ?vv4) rfl (by kernel_rfl) (by kernel_rfl) (by kernel_rfl) (fun _ _ _ h => h) (Or.inl ⟨by rfl, ?hy4⟩) (by assumption) ?rest4
            case hy4 => (intro w hSw; (try dsimp only at hSw); (try simp only [List.getElem_toArray, List.getElem_cons_zero, List.getElem_cons_succ]); go_simp <;> with_reducible rfl)
            try simp only [Act.put, List.getElem_toArray, List.getElem_cons_zero, List.getElem_cons_succ, List.setIfInBounds_toArray, List.set_cons_zero, List.set_cons_succ]
            refine wpAnyH_take (i := 6) (v := ?vv6) rfl (by kernel_rfl) (by kernel_rfl) (by kernel_rfl) (fun _ _ _ h => h) (Or.inl ⟨by rfl, ?hy6⟩) (by assumption) ?rest6
            case hy6 => (intro w hSw; (try dsimp only at hSw); (try simp only [List.getElem_toArray, List.getElem_cons_zero, List.getElem_cons_succ]); go_simp <;> with_reducible rfl)
            try simp only [Act.put, List.getElem_toArray, List.getElem_cons_zero, List.getElem_cons_succ, List.setIfInBounds_toArray, List.set_cons_zero, List.set_cons_succ]
            refine wpAnyH_ready (rs := [5]) (by kernel_rfl) (by simp) ?_
            refine AllReadyH.cons rfl (fun K hK => ?_) AllReadyH.nil
            try simp only [List.getElem_toArray, List.getElem_cons_zero, List.getElem_cons_succ]
            go_simp
            go_at_call 48
            refine (show Calls _ _ _ _ _ from CPY.out _ (by first | assumption | exact And.right (by assumption))).mono ?_
            rintro e u1 ⟨rfl, hb1⟩
            have hB1 := keep_reg HS.out (by first | assumption | exact And.right (by assumption)) hb1
            go_wp2_with fail
            refine hK.out _ _ hB1 (fun hHeld1 => ?_)
            clear hK
            try simp only [Act.put, List.getElem_toArray, List.getElem_cons_zero, List.getElem_cons_succ, List.setIfInBounds_toArray, List.set_cons_zero, List.set_cons_succ]
            refine wpAnyH_take (i := 7) (v := ?vv7) rfl (by kernel_rfl) (by kernel_rfl) (by kernel_rfl) (fun _ _ _ h => h) (Or.inl ⟨by rfl, ?hy7⟩) (by assumption) ?rest7
            case hy7 => (intro w hSw; (try dsimp only at hSw); (try simp only [List.getElem_toArray, List.getElem_cons_zero, List.getElem_cons_succ]); go_simp <;> with_reducible rfl)
            try simp only [Act.put, List.getElem_toArray, List.getElem_cons_zero, List.getElem_cons_succ, List.setIfInBounds_toArray, List.set_cons_zero, List.set_cons_succ]
            refine wpAnyH_take (i := 8) (v := ?vv8) rfl (by kernel_rfl) (by kernel_rfl) (by kernel_rfl) (fun _ _ _ h => h) (Or.inl ⟨by rfl, ?hy8⟩) (by assumption) ?rest8
            case hy8 => (intro w hSw; (try dsimp only at hSw); (try simp only [List.getElem_toArray, List.getElem_cons_zero, List.getElem_cons_succ]); go_simp <;> with_reducible rfl)
            try simp only [Act.put, List.getElem_toArray, List.getElem_cons_zero, List.getElem_cons_succ, List.setIfInBounds_toArray, List.set_cons_zero, List.set_cons_succ]
            refine wpAnyH_take (i := 9) (v := undef) rfl (by kernel_rfl) (by kernel_rfl) (by kernel_rfl) (fun _ _ _ h => h) (Or.inr ⟨by rfl, rfl⟩) (by assumption) ?_
            try simp only [Act.put, List.getElem_toArray, List.getElem_cons_zero, List.getElem_cons_succ, List.setIfInBounds_toArray, List.set_cons_zero, List.set_cons_succ]
            refine wpAnyH_take (i := 10) (v := undef) rfl (by kernel_rfl) (by kernel_rfl) (by kernel_rfl) (fun _ _ _ h => h) (Or.inr ⟨by rfl, rfl⟩) (by assumption) ?_
            try simp only [Act.put, List.getElem_toArray, List.getElem_cons_zero, List.getElem_cons_succ, List.setIfInBounds_toArray, List.set_cons_zero, List.set_cons_succ]
            refine wpAnyH_take (i := 11) (v := undef) rfl (by kernel_rfl) (by kernel_rfl) (by kernel_rfl) (fun _ _ _ h => h) (Or.inr ⟨by rfl, rfl⟩) (by assumption) ?_
            try simp only [Act.put, List.getElem_toArray, List.getElem_cons_zero, List.getElem_cons_succ, List.setIfInBounds_toArray, List.set_cons_zero, List.set_cons_succ]
            refine wpAnyH_take (i := 12) (v := undef) rfl (by kernel_rfl) (by kernel_rfl) (by kernel_rfl) (fun _ _ _ h => h) (Or.inr ⟨by rfl, rfl⟩) (by assumption) ?_
            try simp only [Act.put, List.getElem_toArray, List.getElem_cons_zero, List.getElem_cons_succ, List.setIfInBounds_toArray, List.set_cons_zero, List.set_cons_succ]
            refine wpAnyH_take (i := 13) (v := undef) rfl (by kernel_rfl) (by kernel_rfl) (by kernel_rfl) (fun _ _ _ h => h) (Or.inr ⟨by rfl, rfl⟩) (by assumption) ?_
            try simp only [Act.put, List.getElem_toArray, List.getElem_cons_zero, List.getElem_cons_succ, List.setIfInBounds_toArray, List.set_cons_zero, List.set_cons_succ]
            refine wpAnyH_take (i := 14) (v := undef) rfl (by kernel_rfl) (by kernel_rfl) (by kernel_rfl) (fun _ _ _ h => h) (Or.inr ⟨by rfl, rfl⟩) (by assumption) ?_
            try simp only [Act.put, List.getElem_toArray, List.getElem_cons_zero, List.getElem_cons_succ, List.setIfInBounds_toArray, List.set_cons_zero, List.set_cons_succ]
            refine wpAnyH_take (i := 15) (v := undef) rfl (by kernel_rfl) (by kernel_rfl) (by kernel_rfl) (fun _ _ _ h => h) (Or.inr ⟨by rfl, rfl⟩) (by assumption) ?_
            try simp only [Act.put, List.getElem_toArray, List.getElem_cons_zero, List.getElem_cons_succ, List.setIfInBounds_toArray, List.set_cons_zero, List.set_cons_succ]
            refine wpAnyH_take (i := 16) (v := undef) rfl (by kernel_rfl) (by kernel_rfl) (by kernel_rfl) (fun _ _ _ h => h) (Or.inr ⟨by rfl, rfl⟩) (by assumption) ?_
            try simp only [Act.put, List.getElem_toArray, List.getElem_cons_zero, List.getElem_cons_succ, List.setIfInBounds_toArray, List.set_cons_zero, List.set_cons_succ]
            refine wpAnyH_take (i := 17) (v := undef) rfl (by kernel_rfl) (by kernel_rfl) (by kernel_rfl) (fun _ _ _ h => h) (Or.inr ⟨by rfl, rfl⟩) (by assumption) ?_
            try simp only [Act.put, List.getElem_toArray, List.getElem_cons_zero, List.getElem_cons_succ, List.setIfInBounds_toArray, List.set_cons_zero, List.set_cons_succ]
            refine wpAnyH_take (i := 18) (v := undef) rfl (by kernel_rfl) (by kernel_rfl) (by kernel_rfl) (fun _ _ _ h => h) (Or.inr ⟨by rfl, rfl⟩) (by assumption) ?_
            try simp only [Act.put, List.getElem_toArray, List.getElem_cons_zero, List.getElem_cons_succ, List.setIfInBounds_toArray, List.set_cons_zero, List.set_cons_succ]
            refine wpAnyH_take (i := 19) (v := undef) rfl (by kernel_rfl) (by kernel_rfl) (by kernel_rfl) (fun _ _ _ h => h) (Or.inr ⟨by rfl, rfl⟩) (by assumption) ?_
            try simp only [Act.put, List.getElem_toArray, List.getElem_cons_zero, List.getElem_cons_succ, List.setIfInBounds_toArray, List.set_cons_zero, List.set_cons_succ]
            refine wpAnyH_take (i := 20) (v := undef) rfl (by kernel_rfl) (by kernel_rfl) (by kernel_rfl) (fun _ _ _ h => h) (Or.inr ⟨by rfl, rfl⟩) (by assumption) ?_
            try simp only [Act.put, List.getElem_toArray, List.getElem_cons_zero, List.getElem_cons_succ, List.setIfInBounds_toArray, List.set_cons_zero, List.set_cons_succ]
            refine wpAnyH_take (i := 21) (v := ?vv21) rfl (by kernel_rfl) (by kernel_rfl) (by kernel_rfl) (fun _ _ _ h => h) (Or.inl ⟨by rfl, ?hy21⟩) (by assumption) ?rest21
            case hy21 => (intro w hSw; (try dsimp only at hSw); (try simp only [List.getElem_toArray, List.getElem_cons_zero, List.getElem_cons_succ]); go_simp <;> with_reducible rfl)
            try simp only [Act.put, List.getElem_toArray, List.getElem_cons_zero, List.getElem_cons_succ, List.setIfInBounds_toArray, List.set_cons_zero, List.set_cons_succ]
            refine wpAnyH_done (by kernel_rfl) ?_ _
            refine at_exit (W := wr) hB1.2 ?_
            intro W8 hb8
            have R1 : Hid (y.l = up (bestG φ p (L.take (j + 1))) ∧ y.Own 3 W8 ∧ y.In w.heap.size W8.heap.size W8) := Lib.hid (by rw [HNEW.out]; exact ⟨HY.out.1, HY.out.2.1.on hb8, (HY.out.2.2.on hb8).wide (Nat.le_refl _) hb8.size⟩)
            have R2 := HNX.out.trans (hb8.mono HNX.out.size)
            clear s0 hb8 hHeld hHeld1 hB1 hb1 hcl
            go_wp2
            go_roundw
            case rel => exact ⟨j + 1, y, by omega, by go_num, rfl, R1, R2⟩
            case measure => simp [intOf]; omega

        · obtain rfl : j = c := by omega
          have HEND : Hid (PInts l true w (.returned (.tuple #[.slice y.a y.l.length y.c, .bool true])) wr) := Lib.hid (by
            exact ⟨y, rfl, by rw [HY.out.1, HLL.out, HCD.out, List.take_length], HY.out.2.1, HY.out.2.2, (HBWB.out.trans (HB2B.out.mono HBWB.out.size)).trans (hnx.mono (by have := HBWB.out.size; omega))⟩)
          clear hnx
          go_wp2
          go_ret2
          exact HEND.out

theorem budgetValid_any (F : Fld) (k : Int) (w : World) :
    Calls Try.prog 143 #[.agg #[.slice F.o.a F.o.l.length F.o.c, .slice F.t.a F.t.R.length F.t.c, .int .i64 k]] w fun e w' => e = .returned (.bool (decide (0 ≤ k) && decide (k ≤ 9999))) ∧ Below w.heap.size w w' := by
  have x2 := (BoxV.made w F k 60).c2
  have HB := Lib.hid (below_alloc w (Obj.cells #[.slice F.o.a F.o.l.length F.o.c, .slice F.t.a F.t.R.length F.t.c, .int .i64 k] 60))
  by_cases h0 : 0 ≤ k
  · have h0' : k ≥ 0 := h0
    have HE : Hid ((decide (0 ≤ k) && decide (k ≤ 9999)) = decide (k ≤ 9999)) := Lib.hid (by rw [decide_eq_true h0]; rfl)
    go_enter Try.func143, Try.ntmps143
    go_wp2
    go_ret
    exact ⟨by rw [HE.out]; rfl, HB.out⟩
  · have h0' : ¬ k ≥ 0 := h0
    have HE : Hid ((decide (0 ≤ k) && decide (k ≤ 9999)) = false) := Lib.hid (by rw [decide_eq_false h0]; rfl)
    go_enter Try.func143, Try.ntmps143
    go_wp2
    go_ret
    exact ⟨by rw [HE.out]; rfl, HB.out⟩
set_option maxRecDepth 16000 in
set_option maxHeartbeats 1500000 in
theorem budgetAllows_any (F : Fld) (k : Int) (x : Row) (T : List Nat) (w : World) (hF : F.At w) (hx : x.At w) (hf : Able F x T) :
    Calls Try.prog 142 #[.agg #[.slice F.o.a F.o.l.length F.o.c, .slice F.t.a F.t.R.length F.t.c, .int .i64 k], .slice x.a x.l.length x.c] w fun e w' => e = .returned (.bool (decide ((pays F.o.l T).sum ≤ k))) ∧ Below w.heap.size w w' := by
  obtain ⟨wA, hA, hbA, bx, hFA, hszA⟩ := laid_val F k w 60 hF
  obtain ⟨pT, hpT⟩ : ∃ z, z = (pays F.o.l T).sum := ⟨_, rfl⟩
  have CP := Lib.hid (fun W (hW : Below wA.heap.size wA W) => (by
    have := paymentFor_any F x T W (hFA.on hW) ((hx.on hbA).on hW) hf
    rw [← hpT] at this
    exact this : Calls Try.prog 144 #[.agg #[.slice F.o.a F.o.l.length F.o.c, .slice F.t.a F.t.R.length F.t.c], .slice x.a x.l.length x.c] W fun e w' => e = .returned (.int .i64 pT) ∧ Below W.heap.size W w'))
  have HE : Hid (decide ((pays F.o.l T).sum ≤ k) = decide (pT ≤ k)) := Lib.hid (by rw [hpT])
  have HS : Hid (∀ U, Below wA.heap.size wA U → ((U.cell? ⟨w.heap.size, 0, none⟩ = some (.slice F.o.a F.o.l.length F.o.c) ∧ U.cell? ⟨w.heap.size, 1, none⟩ = some (.slice F.t.a F.t.R.length F.t.c) ∧ U.cell? ⟨w.heap.size, 2, none⟩ = some (.int .i64 k)) ∧ Below wA.heap.size wA U)) := Lib.hid fun U hu => ⟨⟨(bx.on hu).c0, (bx.on hu).c1, (bx.on hu).c2⟩, hu⟩
  have s0 := HS.out wA.drew (Below.refl _ _).drew
  have HA := Lib.hid hA
  have HBA := Lib.hid hbA
  clear hF hx hf hA bx hFA hszA hpT hbA
  go_enter Try.func142, Try.ntmps142
  go_wp2_with fail
  rw [← HA.out]
  go_region_held3 (fun U => ((U.cell? ⟨w.heap.size, 0, none⟩ = some (.slice F.o.a F.o.l.length F.o.c) ∧ U.cell? ⟨w.heap.size, 1, none⟩ = some (.slice F.t.a F.t.R.length F.t.c) ∧ U.cell? ⟨w.heap.size, 2, none⟩ = some (.int .i64 k)) ∧ Below wA.heap.size wA U)) (first | exact s0 | exact keep_reg HS.out (by first | assumption | exact And.right (by assumption)) hb1) ((go_at_call 144; refine (show Calls _ _ _ _ _ from CP.out _ (by first | assumption | exact And.right (by assumption))).mono ?_; rintro e u1 ⟨rfl, hb1⟩))
  all_goals
    refine at_exit (W := wA) (by first | assumption | exact And.right (by assumption)) ?_
    intro W8 hb8
    go_wp2
    go_ret
    exact ⟨by rw [HE.out]; rfl, HBA.out.trans (hb8.mono HBA.out.size)⟩

set_option maxRecDepth 16000 in
set_option maxHeartbeats 1500000 in
theorem implBestBudget_any (F : Fld) (u : Int) (k : Int) (w : World) (hF : F.At w)  (b : Bool) (hb0 : b = (worthB F u && (decide (0 ≤ k) && decide (k ≤ 9999)))) (l : List Int) (hl0 : l = if b then up (bestG (gainT F u) (fun T => decide ((pays F.o.l T).sum ≤ k)) (E8.allSets F.o.l.length)) else []) :
    Calls Try.prog 24 #[.agg #[.slice F.o.a F.o.l.length F.o.c, .slice F.t.a F.t.R.length F.t.c], .int .i64 u, .int .i64 k] w (PInts l b w) := by
  obtain ⟨wA, hA, hbA, bx, hFA, hszA⟩ := laid_fld F w 29 hF
  have x0 : wA.cell? ⟨w.heap.size, 0, none⟩ = some (.slice F.o.a F.o.l.length F.o.c) := bx.c0
  have x1 : wA.cell? ⟨w.heap.size, 1, none⟩ = some (.slice F.t.a F.t.R.length F.t.c) := bx.c1
  rw [hA] at x0 x1
  change (w.alloc (Obj.cells #[.slice F.o.a F.o.l.length F.o.c, .slice F.t.a F.t.R.length F.t.c] 29)).cell? _ = _ at x0 x1
  have CB := Lib.hid (callsIn_wide.1 (bestUnderB_in 8 (Nat.le_refl _) F u (.agg #[.slice F.o.a F.o.l.length F.o.c, .slice F.t.a F.t.R.length F.t.c, .int .i64 k]) (decide (0 ≤ k) && decide (k ≤ 9999)) (fun T => decide ((pays F.o.l T).sum ≤ k)) wA hFA
    (fun W _ => budgetValid_any F k W)
    (fun hg _ T hT x W hW hx hxl => by
      have h8 := (good_sizes (worthB_iff.1 hg).1).2.1
      have hs := sets_ok (show F.o.l.length ≤ 8 by omega) hT
      exact budgetAllows_any F k x T W (hFA.on hW) hx ⟨(worthB_iff.1 hg).1, hxl, hs.2.2, by omega⟩) b hb0 l hl0))
  have HA : Hid ((w.alloc (Obj.cells #[.slice F.o.a F.o.l.length F.o.c, .slice F.t.a F.t.R.length F.t.c] 29)) = wA) := Lib.hid hA.symm
  have HBA := Lib.hid hbA
  clear hF hA bx hFA hszA hb0 hl0 hbA 
  go_enter Try.func24, Try.ntmps24
  go_wp2_with fail
  rw [HA.out]
  clear x0 x1
  refine (show Calls _ _ _ _ _ from CB.out).mono ?_
  rintro e W1 ⟨t, rfl, htl, hto, hti, hb1⟩
  have HEND : Hid (PInts l b w (.returned (.tuple #[.slice t.a t.l.length t.c, .bool b])) W1) := Lib.hid ⟨t, rfl, htl, hto, hti.wide HBA.out.size (Nat.le_refl _), HBA.out.trans (hb1.mono HBA.out.size)⟩
  clear htl hto hti hb1
  go_wp2
  go_ret2
  exact HEND.out

theorem bestBudget_pair (F : Fld) (u k : Int) {Q : Prop} (_ : Q) {Q' : Prop} (_ : Q') (_ : F.Small) : ∃ (l : List Int) (b : Bool) (_ : l.length ≤ 1048576),
    (∀ (G : Fld) (W : World), G.At W → G.Like F → Calls Try.prog 23 #[G.val, .int .i64 u, .int .i64 k] W (PInts l b W)) ∧
    (∀ (G : Fld) (W : World), G.At W → G.Like F → Calls Try.prog 24 #[G.val, .int .i64 u, .int .i64 k] W (PInts l b W)) := by
  have hg : ∀ G : Fld, G.Like F → gainT G u = gainT F u := fun G h => funext fun T => gainT_like h u T
  refine ⟨if (worthB F u && (decide (0 ≤ k) && decide (k ≤ 9999))) then up (bestG (gainT F u) (fun T => decide ((pays F.o.l T).sum ≤ k)) (E8.allSets F.o.l.length)) else [], worthB F u && (decide (0 ≤ k) && decide (k ≤ 9999)), ?_, fun G W hG hl => specBestBudget_any G u k W hG _ (by rw [worthB_like hl]) _ (by rw [hg G hl, hl.1]), fun G W hG hl => implBestBudget_any G u k W hG _ (by rw [worthB_like hl]) _ (by rw [hg G hl, hl.1])⟩
  split
  · rename_i h
    rw [Bool.and_eq_true] at h
    have h8 := (good_sizes (worthB_iff.1 h.1).1).2.1
    rw [up_length]
    have := bestG_ok (gainT F u) (fun T => decide ((pays F.o.l T).sum ≤ k)) (n := F.o.l.length) (by omega)
    omega
  · simp

end Go.Proofs.Ytbochmpkjacnnaa
