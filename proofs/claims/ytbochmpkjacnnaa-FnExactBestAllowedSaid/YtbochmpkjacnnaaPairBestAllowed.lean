/- BestAllowed, the model's side, and both sides together. Condition: the arguments read as such. -/
import Derived.Test.YtbochmpkjacnnaaGainAll
import Derived.Test.YtbochmpkjacnnaaBestUnderC
import Derived.Test.YtbochmpkjacnnaaClassRule
namespace Go.Proofs.Ytbochmpkjacnnaa
open Go.RowKit Go.Shelf

theorem unitC : True := trivial

set_option maxRecDepth 32000 in
set_option maxHeartbeats 3000000 in
theorem specBestAllowed_any (F : Fld) (u : Int) (cl lm : Row) (w : World) (hF : F.At w) (hcl : cl.At w) (hlm : lm.At w) (b : Bool) (hb0 : b = (worthB F u && (classB F.o.l.length cl.l lm.l))) (l : List Int) (hl0 : l = if b then up (bestG (gainT F u) (fun T => allowB cl.l lm.l T) (E8.allSets F.o.l.length)) else []) :
    Calls Try.prog 20 #[.agg #[.slice F.o.a F.o.l.length F.o.c, .slice F.t.a F.t.R.length F.t.c], .int .i64 u, .slice cl.a cl.l.length cl.c, .slice lm.a lm.l.length lm.c] w (PInts l b w) := by
  obtain ⟨wA, hA, hb, bx, hFA, hszA⟩ := laid_fld F w 29 hF
  obtain ⟨wB, hB⟩ : ∃ u, u = wA.alloc (.cells #[] 3) := ⟨_, rfl⟩
  have hbB : Below wA.heap.size wA wB := by rw [hB]; exact below_alloc _ _
  have hszB : wB.heap.size = w.heap.size + 1 + 1 := by rw [hB, size_alloc, hszA]
  obtain ⟨y0, hy0v, hy0l, hy0o, hy0i⟩ := row_of_own (l := []) (by have := empty_own wA; rw [← hB, hszA] at this; exact this)
  obtain ⟨v, hv⟩ : ∃ v, v = worthB F u := ⟨_, rfl⟩
  have cg := l8Good_any F u wB (hFA.on hbB)
  rw [← hv] at cg
  have CG := Lib.hid (show Calls Try.prog 37 #[.agg #[.slice F.o.a F.o.l.length F.o.c, .slice F.t.a F.t.R.length F.t.c], .int .i64 u] wB _ from cg)
  obtain ⟨q, hq⟩ : ∃ q, q = (classB F.o.l.length cl.l lm.l) := ⟨_, rfl⟩
  have HCA := Lib.hid (hcl.on (hb.trans (hbB.mono hb.size)))
  have HMA := Lib.hid (hlm.on (hb.trans (hbB.mono hb.size)))
  have CI := Lib.hid (fun W (hW : Below wB.heap.size wB W) => by have := l8Classes_any F cl lm W ((hFA.on hbB).on hW) (HCA.out.on hW) (HMA.out.on hW); rw [← hq] at this; exact this)
  have hbwB := hb.trans (hbB.mono hb.size)
  have HAK : Hid (b = (v && q)) := Lib.hid (by rw [hb0, hv, hq])
  have HFA := Lib.hid hFA
  have HBX : Hid (Box2 wA w.heap.size (.slice F.o.a F.o.l.length F.o.c) (.slice F.t.a F.t.R.length F.t.c) 29) := Lib.hid bx
  have HA := Lib.hid hA
  have HB := Lib.hid hB
  have HL0 := Lib.hid hl0
  have HVW := Lib.hid hv
  have HQB := Lib.hid hq
  have HBWB := Lib.hid hbwB
  have HBB := Lib.hid hbB
  have HY0 : Hid (y0.l = [] ∧ y0.Own 3 wB ∧ y0.In w.heap.size wB.heap.size wB) := Lib.hid ⟨hy0l, hy0o, hy0i.wide (by omega) (Nat.le_refl _)⟩
  have HYV := Lib.hid hy0v
  have HSB := Lib.hid hszB
  have x0 : wB.cell? ⟨w.heap.size, 0, none⟩ = some (.slice F.o.a F.o.l.length F.o.c) := (bx.on hbB).c0
  have x1 : wB.cell? ⟨w.heap.size, 1, none⟩ = some (.slice F.t.a F.t.R.length F.t.c) := (bx.on hbB).c1
  rw [hB, hA] at x0 x1
  change ((w.alloc (Obj.cells #[.slice F.o.a F.o.l.length F.o.c, .slice F.t.a F.t.R.length F.t.c] 29)).alloc (.cells #[] 3)).cell? _ = _ at x0 x1
  have HNO : Hid (∀ W, Below wB.heap.size wB W → b = false → PInts l b w (.returned (.tuple #[.slice (some ⟨w.heap.size + 1, 0, none⟩) 0 0, .bool false])) W) := Lib.hid (fun W hW h => by
    subst h
    have hle : l = [] := hl0
    subst hle
    exact ⟨y0, by rw [hy0v], hy0l, hy0o.on hW, ((hy0i.on hW).wide (by omega) hW.size), hbwB.trans (hW.mono hbwB.size)⟩)
  clear hF hA hB hbB bx hFA cg hb0 hl0 hv hq hy0l hy0o hy0i hbwB hszB hszA hy0v hcl hlm
  go_enter Try.func20, Try.ntmps20
  go_wp2_with fail
  rw [show (w.alloc (Obj.cells #[.slice F.o.a F.o.l.length F.o.c, .slice F.t.a F.t.R.length F.t.c] 29)).alloc (.cells #[] 3) = wB by rw [HB.out, HA.out]; rfl]
  refine (show Calls _ _ _ _ _ from CG.out).mono ?_
  rintro e W1 ⟨rfl, hb1⟩
  have HB1 := Lib.hid hb1
  clear x0 x1
  cases v with
  | false =>
    have HE := Lib.hid (HNO.out W1 hb1 (by rw [HAK.out]; rfl))
    clear hb1
    go_wp2
    go_ret2
    exact HE.out
  | true =>
    clear hb1
    have z0 : W1.cell? ⟨w.heap.size, 0, none⟩ = some (.slice F.o.a F.o.l.length F.o.c) := (HBX.out.on (HBB.out.trans (HB1.out.mono HBB.out.size))).c0
    have z1 : W1.cell? ⟨w.heap.size, 1, none⟩ = some (.slice F.t.a F.t.R.length F.t.c) := (HBX.out.on (HBB.out.trans (HB1.out.mono HBB.out.size))).c1
    have CI1 := Lib.hid (CI.out W1 HB1.out)
    go_wp2_with fail
    clear z0 z1
    refine (show Calls _ _ _ _ _ from CI1.out).mono ?_
    rintro e W ⟨rfl, hbi⟩
    have HB1' := HB1
    have HB1 : Hid (Below wB.heap.size wB W) := Lib.hid (HB1'.out.trans (hbi.mono HB1'.out.size))
    clear hbi HB1' 
    cases q with
    | false =>
      have HE := Lib.hid (HNO.out W HB1.out (by rw [HAK.out]; rfl))
      go_wp2
      go_ret2
      exact HE.out
    | true =>
      obtain rfl : b = true := HAK.out
      have hgood : worthB F u = true := HVW.out.symm
      have hsz := good_sizes (worthB_iff.1 hgood).1
      obtain ⟨N, hN⟩ : ∃ N, N = F.o.l.length := ⟨_, rfl⟩
      have hR8 : N ≤ 8 := by omega
      obtain ⟨φ, hφ⟩ : ∃ φ, φ = gainT F u := ⟨_, rfl⟩
      have hclb : classB F.o.l.length cl.l lm.l = true := HQB.out.symm
      have HCB := Lib.hid hclb
      obtain ⟨p, hp⟩ : ∃ p : List Nat → Bool, p = fun T => allowB cl.l lm.l T := ⟨_, rfl⟩
      clear hclb
      obtain ⟨L, hL⟩ : ∃ L, L = choL N N := ⟨_, rfl⟩
      have HLL : Hid (l = up (bestG φ p L)) := Lib.hid (by rw [HL0.out, if_pos (by first | rfl | trivial), hφ, hL, hN, choL_all, bestG_cons, hp])
      have HGD := Lib.hid hgood
      have HPH := Lib.hid hφ
      have HPP := Lib.hid hp
      have HNN := Lib.hid hN
      have HBA : Hid (Below wA.heap.size wA W) := Lib.hid (HBB.out.trans (HB1.out.mono HBB.out.size))
      have y0c := (HBX.out.on HBA.out).c0
      have y1c := (HBX.out.on HBA.out).c1
      obtain ⟨c, hc⟩ : ∃ c, c = L.length := ⟨_, rfl⟩
      have CC := Lib.hid (by have := l8All_any F W N hN hR8; rw [← hL, ← hc] at this; exact this)
      have hc256 : c ≤ 256 := by rw [hc, hL]; exact (cho_all _ hR8).2
      have hci : (c : Int) ≤ 256 := by omega
      have HLD := Lib.hid hL
      have HCD := Lib.hid hc
      have HR8 := Lib.hid hR8
      clear hgood hL hc hN hφ hp hsz hR8
      go_wp2_with fail
      refine (show Calls _ _ _ _ _ from CC.out).mono ?_
      rintro e W2 ⟨g, cap, Q, rfl, hT, hb2⟩
      have HT := Lib.hid hT
      have HQC : Hid (Q.length = c) := Lib.hid (by rw [hT.len, HCD.out, HLD.out])
      have HB2A : Hid (Below wA.heap.size wA W2) := Lib.hid (HBA.out.trans (hb2.mono HBA.out.size))
      have HB2B : Hid (Below wB.heap.size wB W2) := Lib.hid (HB1.out.trans (hb2.mono HB1.out.size))
      have hcapi : (c : Int) ≤ (cap : Int) := by have := hT.cap; have := HQC.out; omega
      have hszW := HB1.out.size
      have hszb := hb2.size
      have hsb := HSB.out
      clear hT hb2 y0c y1c
      go_wp2
      go_loopw [10, 12] (fun bv iv wr => ∃ (j : Nat) (y : Row), j ≤ c ∧ iv = .int .i64 j ∧ bv = .slice y.a y.l.length y.c ∧ Hid (y.l = up (bestG φ p (L.take j)) ∧ y.Own 3 wr ∧ y.In w.heap.size wr.heap.size wr) ∧ Below W2.heap.size W2 wr) (fun _ iv _ => c - (intOf iv).toNat)
      case atStart => exact ⟨0, y0, Nat.zero_le _, rfl, HYV.out, Lib.hid ⟨by rw [HY0.out.1, List.take_zero]; rfl, HY0.out.2.1.on HB2B.out, (HY0.out.2.2.on HB2B.out).wide (Nat.le_refl _) HB2B.out.size⟩, Below.refl _ _⟩
      case round =>
        obtain ⟨j, y, hj, rfl, rfl, HY, hnx⟩ := hrel
        have HNX := Lib.hid hnx
        by_cases hlt : j < c
        · have hlti : (j : Int) < (c : Int) := by omega
          have hjQ : j < Q.length := by rw [HQC.out]; exact hlt
          have hjL : j < L.length := by rw [← HCD.out]; exact hlt
          obtain ⟨r, hr⟩ : ∃ r, r = Q[j] := ⟨_, rfl⟩
          obtain ⟨T, hTT⟩ : ∃ T, T = L[j] := ⟨_, rfl⟩
          have hrl : r.l = up T := by
            rw [hr, hTT]
            have := HT.out.at hjQ (by rw [← HLD.out]; exact hjL)
            rw [this]; congr 1; simp only [HLD.out]
          have hrm : r ∈ Q := by rw [hr]; exact List.getElem_mem _
          have hcl : wr.cell? ⟨g, j, none⟩ = some (.slice r.a r.l.length r.c) := (hnx.cell (p := ⟨g, j, none⟩) HT.out.lt).trans (by rw [hr]; exact HT.out.cell j hjQ)
          have hok := cho_ok HR8.out (show T ∈ choL N N by rw [hTT, ← HLD.out]; exact List.getElem_mem hjL)
          have HST : Hid (bestG φ p (L.take (j + 1)) = stepG φ p (bestG φ p (L.take j)) T) := Lib.hid (by rw [bestG_step φ p L hjL, hTT])
          have HRR : Hid (∀ u, Below wr.heap.size wr u → r.l = up T ∧ r.Own 3 u ∧ r.In w.heap.size u.heap.size u) := Lib.hid fun u hu => by
            have hW := hnx.trans (hu.mono hnx.size)
            obtain ⟨h1, h2⟩ := HT.out.rows r hrm
            exact ⟨hrl, h2.on hW, (h1.on hW).wide (by omega) hW.size⟩
          have hrlen : r.l.length = T.length := by rw [hrl, up_length]
          have hr8i : (r.l.length : Int) ≤ 8 := by omega
          have hT8 : T.length ≤ 8 := hok.2.1
          have hTlt : ∀ x ∈ T, x < F.o.l.length := by rw [← HNN.out]; exact hok.2.2
          obtain ⟨U, hU⟩ : ∃ U, U = bestG φ p (L.take j) := ⟨_, rfl⟩
          have hUok : U.length ≤ 8 ∧ ∀ x ∈ U, x < F.o.l.length := by
            rcases bestG_mem φ p L j (by rw [← HCD.out]; omega) with h | h
            · rw [hU, h]; exact ⟨by simp, by simp⟩
            · have := cho_ok HR8.out (show U ∈ choL N N by rw [hU, ← HLD.out]; exact h); rw [← HNN.out]; exact this.2
          have hyl : y.l = up U := by rw [hU]; exact HY.out.1
          obtain ⟨cT, hcT⟩ : ∃ z, z = φ T := ⟨_, rfl⟩
          obtain ⟨cU, hcU⟩ : ∃ z, z = φ U := ⟨_, rfl⟩
          have HBAr : Hid (Below wA.heap.size wA wr) := Lib.hid (HB2A.out.trans (hnx.mono HB2A.out.size))
          have C1 := Lib.hid (fun u' (hu : Below wr.heap.size wr u') => (by
            have := l8Gain_any F u r T u' ((show F.At wA from HFA.out).on (HBAr.out.trans (hu.mono HBAr.out.size))) (HRR.out u' hu).2.2.at ⟨HGD.out, hrl, hTlt, by omega⟩
            rw [← HPH.out, ← hcT] at this
            exact this : Calls Try.prog 40 #[.agg #[.slice F.o.a F.o.l.length F.o.c, .slice F.t.a F.t.R.length F.t.c], .int .i64 u, .slice r.a r.l.length r.c] u' fun e w' => e = .returned (.int .i64 cT) ∧ Below u'.heap.size u' w'))
          have C2 := Lib.hid (fun u' (hu : Below wr.heap.size wr u') => (by
            have := l8Gain_any F u y U u' ((show F.At wA from HFA.out).on (HBAr.out.trans (hu.mono HBAr.out.size))) (HY.out.2.2.on hu).at ⟨HGD.out, hyl, hUok.2, by omega⟩
            rw [← HPH.out, ← hcU] at this
            exact this : Calls Try.prog 40 #[.agg #[.slice F.o.a F.o.l.length F.o.c, .slice F.t.a F.t.R.length F.t.c], .int .i64 u, .slice y.a y.l.length y.c] u' fun e w' => e = .returned (.int .i64 cU) ∧ Below u'.heap.size u' w'))
          have HS : Hid (∀ u', Below wr.heap.size wr u' → ((u'.cell? ⟨g, j, none⟩ = some (.slice r.a r.l.length r.c) ∧ u'.cell? ⟨w.heap.size, 0, none⟩ = some (.slice F.o.a F.o.l.length F.o.c) ∧ u'.cell? ⟨w.heap.size, 1, none⟩ = some (.slice F.t.a F.t.R.length F.t.c)) ∧ Below wr.heap.size wr u')) := Lib.hid fun u' hu => by
            have hu2 := HBAr.out.trans (hu.mono HBAr.out.size)
            exact ⟨⟨(hu.cell (p := ⟨g, j, none⟩) (Nat.lt_of_lt_of_le HT.out.lt HNX.out.size)).trans hcl, (HBX.out.on hu2).c0, (HBX.out.on hu2).c1⟩, hu⟩
          have s0 := HS.out wr.drew (Below.refl _ _).drew
          have HSTT : Hid (p T = true → cU < cT → bestG φ p (L.take (j + 1)) = T) := Lib.hid fun hp h => by rw [HST.out]; unfold stepG; rw [if_pos ⟨by rw [← hU, ← hcU, ← hcT]; exact h, hp⟩]
          have HSTU : Hid (¬ (p T = true ∧ cU < cT) → bestG φ p (L.take (j + 1)) = bestG φ p (L.take j)) := Lib.hid fun h => by rw [HST.out]; unfold stepG; rw [if_neg (fun e => h ⟨e.2, by rw [hcU, hcT, hU]; exact e.1⟩)]
          obtain ⟨pT, hpT⟩ : ∃ z, z = allowB cl.l lm.l T := ⟨_, rfl⟩
          have HBBr : Hid (Below wB.heap.size wB wr) := Lib.hid (HB2B.out.trans (hnx.mono HB2B.out.size))
          have CPY := Lib.hid (fun u' (hu : Below wr.heap.size wr u') => (by
            have := l8Allowed_any F.o.l.length cl lm r T u' (HCA.out.on (HBBr.out.trans (hu.mono HBBr.out.size))) (HMA.out.on (HBBr.out.trans (hu.mono HBBr.out.size))) (HRR.out u' hu).2.2.at ⟨HCB.out, hrl, hTlt, by omega⟩
            rw [← hpT] at this
            exact this : Calls Try.prog 46 #[.slice cl.a cl.l.length cl.c, .slice lm.a lm.l.length lm.c, .slice r.a r.l.length r.c] u' fun e w' => e = .returned (.bool pT) ∧ Below u'.heap.size u' w'))
          have HPT : Hid (pT = true → p T = true) := Lib.hid fun h => by rw [HPP.out, ← h, hpT]
          have HPF : Hid (p T = true → pT = true) := Lib.hid fun h => by rw [HPP.out] at h; rw [hpT]; exact h
          clear hrlen hpT
          clear hr hTT hrl hrm hok hU hUok hyl hcT hcU hnx hTlt hjQ hjL
          by_cases hlk : pT = true
          · obtain rfl : pT = true := hlk
            have hlk : true = true := rfl
            by_cases hcc : cU < cT
            · have hcci : cT > cU := hcc
              have HNEW := Lib.hid (HSTT.out (HPT.out hlk) hcc)
              clear hcc

              go_wp2_with fail
              go_region_held3 (fun u' => ((u'.cell? ⟨g, j, none⟩ = some (.slice r.a r.l.length r.c) ∧ u'.cell? ⟨w.heap.size, 0, none⟩ = some (.slice F.o.a F.o.l.length F.o.c) ∧ u'.cell? ⟨w.heap.size, 1, none⟩ = some (.slice F.t.a F.t.R.length F.t.c)) ∧ Below wr.heap.size wr u')) (first | exact s0 | exact keep_reg HS.out (by first | assumption | exact And.right (by assumption)) hb1) (first | (go_at_call 46; refine (show Calls _ _ _ _ _ from CPY.out _ (by first | assumption | exact And.right (by assumption))).mono ?_; rintro e u3 ⟨rfl, hb1⟩) | (go_at_call 40; with_reducible change Calls _ _ #[_, _, .slice r.a _ _] _ _; refine (show Calls _ _ _ _ _ from C1.out _ (by first | assumption | exact And.right (by assumption))).mono ?_; rintro e u1 ⟨rfl, hb1⟩) | (go_at_call 40; with_reducible change Calls _ _ #[_, _, .slice y.a _ _] _ _; refine (show Calls _ _ _ _ _ from C2.out _ (by first | assumption | exact And.right (by assumption))).mono ?_; rintro e u2 ⟨rfl, hb1⟩))
              refine at_exit (W := wr) (by first | assumption | exact And.right (by assumption)) ?_
              intro W8 hb8
              have hc8 : W8.cell? ⟨g, j, none⟩ = some (.slice r.a r.l.length r.c) := (HS.out W8 hb8).1.1
              have HR8' := Lib.hid (HRR.out W8 hb8)
              have R2 := HNX.out.trans (hb8.mono HNX.out.size)
              clear s0 hb8 hcl
              go_wp2
              go_roundw
              case rel => exact ⟨j + 1, r, by omega, by go_num, rfl, Lib.hid (by rw [HNEW.out]; exact HR8'.out), R2⟩
              case measure => simp [intOf]; omega
            · have hcci : ¬ cT > cU := hcc
              have HNEW := Lib.hid (HSTU.out (fun h => hcc h.2))
              clear hcc

              go_wp2_with fail
              go_region_held3 (fun u' => ((u'.cell? ⟨g, j, none⟩ = some (.slice r.a r.l.length r.c) ∧ u'.cell? ⟨w.heap.size, 0, none⟩ = some (.slice F.o.a F.o.l.length F.o.c) ∧ u'.cell? ⟨w.heap.size, 1, none⟩ = some (.slice F.t.a F.t.R.length F.t.c)) ∧ Below wr.heap.size wr u')) (first | exact s0 | exact keep_reg HS.out (by first | assumption | exact And.right (by assumption)) hb1) (first | (go_at_call 46; refine (show Calls _ _ _ _ _ from CPY.out _ (by first | assumption | exact And.right (by assumption))).mono ?_; rintro e u3 ⟨rfl, hb1⟩) | (go_at_call 40; with_reducible change Calls _ _ #[_, _, .slice r.a _ _] _ _; refine (show Calls _ _ _ _ _ from C1.out _ (by first | assumption | exact And.right (by assumption))).mono ?_; rintro e u1 ⟨rfl, hb1⟩) | (go_at_call 40; with_reducible change Calls _ _ #[_, _, .slice y.a _ _] _ _; refine (show Calls _ _ _ _ _ from C2.out _ (by first | assumption | exact And.right (by assumption))).mono ?_; rintro e u2 ⟨rfl, hb1⟩))
              refine at_exit (W := wr) (by first | assumption | exact And.right (by assumption)) ?_
              intro W8 hb8
              have R1 : Hid (y.l = up (bestG φ p (L.take (j + 1))) ∧ y.Own 3 W8 ∧ y.In w.heap.size W8.heap.size W8) := Lib.hid (by rw [HNEW.out]; exact ⟨HY.out.1, HY.out.2.1.on hb8, (HY.out.2.2.on hb8).wide (Nat.le_refl _) hb8.size⟩)
              have R2 := HNX.out.trans (hb8.mono HNX.out.size)
              clear s0 hb8 hcl
              go_wp2
              go_roundw
              case rel => exact ⟨j + 1, y, by omega, by go_num, rfl, R1, R2⟩
              case measure => simp [intOf]; omega
          · have HNEW : Hid (bestG φ p (L.take (j + 1)) = bestG φ p (L.take j)) := Lib.hid (HSTU.out (fun h => hlk (HPF.out h.1)))
            obtain rfl : pT = false := by simpa using hlk
            clear hlk
            go_wp2_with fail
            refine wp_region_held_drew (S := (fun u' => ((u'.cell? ⟨g, j, none⟩ = some (.slice r.a r.l.length r.c) ∧ u'.cell? ⟨w.heap.size, 0, none⟩ = some (.slice F.o.a F.o.l.length F.o.c) ∧ u'.cell? ⟨w.heap.size, 1, none⟩ = some (.slice F.t.a F.t.R.length F.t.c)) ∧ Below wr.heap.size wr u'))) (by kernel_rfl) s0 (fun hHeld => ?_)
            refine wpAnyH_take (i := 0) (v := ?vv0) rfl (by kernel_rfl) (by kernel_rfl) (by kernel_rfl) (fun _ _ _ h => h) (Or.inl ⟨by rfl, ?hy0⟩) (by assumption) ?rest0
            case hy0 => (intro w hSw; (try dsimp only at hSw); (try simp only [List.getElem_toArray, List.getElem_cons_zero]); go_simp <;> with_reducible rfl)
            try simp only [Act.put, List.getElem_toArray, List.getElem_cons_zero, List.setIfInBounds_toArray, List.set_cons_zero, List.set_cons_succ]
            refine wpAnyH_take (i := 1) (v := ?vv1) rfl (by kernel_rfl) (by kernel_rfl) (by kernel_rfl) (fun _ _ _ h => h) (Or.inl ⟨by rfl, ?hy1⟩) (by assumption) ?rest1
            case hy1 => (intro w hSw; (try dsimp only at hSw); (try simp only [List.getElem_toArray, List.getElem_cons_zero, List.getElem_cons_succ]); go_simp <;> with_reducible rfl)
            try simp only [Act.put, List.getElem_toArray, List.getElem_cons_zero, List.getElem_cons_succ, List.setIfInBounds_toArray, List.set_cons_zero, List.set_cons_succ]
            refine wpAnyH_take (i := 2) (v := ?vv2) rfl (by kernel_rfl) (by kernel_rfl) (by kernel_rfl) (fun _ _ _ h => h) (Or.inl ⟨by rfl, ?hy2⟩) (by assumption) ?rest2
            case hy2 => (intro w hSw; (try dsimp only at hSw); (try simp only [List.getElem_toArray, List.getElem_cons_zero, List.getElem_cons_succ]); go_simp <;> with_reducible rfl)
            try simp only [Act.put, List.getElem_toArray, List.getElem_cons_zero, List.getElem_cons_succ, List.setIfInBounds_toArray, List.set_cons_zero, List.set_cons_succ]
            refine wpAnyH_take (i := 3) (v := ?vv3) rfl (by kernel_rfl) (by kernel_rfl) (by kernel_rfl) (fun _ _ _ h => h) (Or.inl ⟨by rfl, ?hy3⟩) (by assumption) ?rest3
            case hy3 => (intro w hSw; (try dsimp only at hSw); (try simp only [List.getElem_toArray, List.getElem_cons_zero, List.getElem_cons_succ]); go_simp <;> with_reducible rfl)
            try simp only [Act.put, List.getElem_toArray, List.getElem_cons_zero, List.getElem_cons_succ, List.setIfInBounds_toArray, List.set_cons_zero, List.set_cons_succ]
            refine wpAnyH_take (i := 4) (v := ?vv4) rfl (by kernel_rfl) (by kernel_rfl) (by kernel_rfl) (fun _ _ _ h => h) (Or.inl ⟨by rfl, ?hy4⟩) (by assumption) ?rest4
            case hy4 => (intro w hSw; (try dsimp only at hSw); (try simp only [List.getElem_toArray, List.getElem_cons_zero, List.getElem_cons_succ]); go_simp <;> with_reducible rfl)
            try simp only [Act.put, List.getElem_toArray, List.getElem_cons_zero, List.getElem_cons_succ, List.setIfInBounds_toArray, List.set_cons_zero, List.set_cons_succ]
            refine wpAnyH_take (i := 5) (v := ?vv5) rfl (by kernel_rfl) (by kernel_rfl) (by kernel_rfl) (fun _ _ _ h => h) (Or.inl ⟨by rfl, ?hy5⟩) (by assumption) ?rest5
            case hy5 => (intro w hSw; (try dsimp only at hSw); (try simp only [List.getElem_toArray, List.getElem_cons_zero, List.getElem_cons_succ]); go_simp <;> with_reducible rfl)
            try simp only [Act.put, List.getElem_toArray, List.getElem_cons_zero, List.getElem_cons_succ, List.setIfInBounds_toArray, List.set_cons_zero, List.set_cons_succ]
            refine wpAnyH_ready (rs := [6]) (by kernel_rfl) (by simp) ?_
            refine AllReadyH.cons rfl (fun K hK => ?_) AllReadyH.nil
            try simp only [List.getElem_toArray, List.getElem_cons_zero, List.getElem_cons_succ]
            go_simp
            go_at_call 46
            refine (show Calls _ _ _ _ _ from CPY.out _ (by first | assumption | exact And.right (by assumption))).mono ?_
            rintro e u1 ⟨rfl, hb1⟩
            have hB1 := keep_reg HS.out (by first | assumption | exact And.right (by assumption)) hb1
            go_wp2_with fail
            refine hK.out _ _ hB1 (fun hHeld1 => ?_)
            clear hK
            try simp only [Act.put, List.getElem_toArray, List.getElem_cons_zero, List.getElem_cons_succ, List.setIfInBounds_toArray, List.set_cons_zero, List.set_cons_succ]
            refine wpAnyH_take (i := 7) (v := ?vv7) rfl (by kernel_rfl) (by kernel_rfl) (by kernel_rfl) (fun _ _ _ h => h) (Or.inl ⟨by rfl, ?hy7⟩) (by assumption) ?rest7
            case hy7 => (intro w hSw; (try dsimp only at hSw); (try simp only [List.getElem_toArray, List.getElem_cons_zero, List.getElem_cons_succ]); go_simp <;> with_reducible rfl)
            try simp only [Act.put, List.getElem_toArray, List.getElem_cons_zero, List.getElem_cons_succ, List.setIfInBounds_toArray, List.set_cons_zero, List.set_cons_succ]
            refine wpAnyH_take (i := 8) (v := undef) rfl (by kernel_rfl) (by kernel_rfl) (by kernel_rfl) (fun _ _ _ h => h) (Or.inr ⟨by rfl, rfl⟩) (by assumption) ?_
            try simp only [Act.put, List.getElem_toArray, List.getElem_cons_zero, List.getElem_cons_succ, List.setIfInBounds_toArray, List.set_cons_zero, List.set_cons_succ]
            refine wpAnyH_take (i := 9) (v := undef) rfl (by kernel_rfl) (by kernel_rfl) (by kernel_rfl) (fun _ _ _ h => h) (Or.inr ⟨by rfl, rfl⟩) (by assumption) ?_
            try simp only [Act.put, List.getElem_toArray, List.getElem_cons_zero, List.getElem_cons_succ, List.setIfInBounds_toArray, List.set_cons_zero, List.set_cons_succ]
            refine wpAnyH_take (i := 10) (v := undef) rfl (by kernel_rfl) (by kernel_rfl) (by kernel_rfl) (fun _ _ _ h => h) (Or.inr ⟨by rfl, rfl⟩) (by assumption) ?_
            try simp only [Act.put, List.getElem_toArray, List.getElem_cons_zero, List.getElem_cons_succ, List.setIfInBounds_toArray, List.set_cons_zero, List.set_cons_succ]
            refine wpAnyH_take (i := 11) (v := undef) rfl (by kernel_rfl) (by kernel_rfl) (by kernel_rfl) (fun _ _ _ h => h) (Or.inr ⟨by rfl, rfl⟩) (by assumption) ?_
            try simp only [Act.put, List.getElem_toArray, List.getElem_cons_zero, List.getElem_cons_succ, List.setIfInBounds_toArray, List.set_cons_zero, List.set_cons_succ]
            refine wpAnyH_take (i := 12) (v := undef) rfl (by kernel_rfl) (by kernel_rfl) (by kernel_rfl) (fun _ _ _ h => h) (Or.inr ⟨by rfl, rfl⟩) (by assumption) ?_
            try simp only [Act.put, List.getElem_toArray, List.getElem_cons_zero, List.getElem_cons_succ, List.setIfInBounds_toArray, List.set_cons_zero, List.set_cons_succ]
            refine wpAnyH_take (i := 13) (v := undef) rfl (by kernel_rfl) (by kernel_rfl) (by kernel_rfl) (fun _ _ _ h => h) (Or.inr ⟨by rfl, rfl⟩) (by assumption) ?_
            try simp only [Act.put, List.getElem_toArray, List.getElem_cons_zero, List.getElem_cons_succ, List.setIfInBounds_toArray, List.set_cons_zero, List.set_cons_succ]
            refine wpAnyH_take (i := 14) (v := undef) rfl (by kernel_rfl) (by kernel_rfl) (by kernel_rfl) (fun _ _ _ h => h) (Or.inr ⟨by rfl, rfl⟩) (by assumption) ?_
            try simp only [Act.put, List.getElem_toArray, List.getElem_cons_zero, List.getElem_cons_succ, List.setIfInBounds_toArray, List.set_cons_zero, List.set_cons_succ]
            refine wpAnyH_take (i := 15) (v := undef) rfl (by kernel_rfl) (by kernel_rfl) (by kernel_rfl) (fun _ _ _ h => h) (Or.inr ⟨by rfl, rfl⟩) (by assumption) ?_
            try simp only [Act.put, List.getElem_toArray, List.getElem_cons_zero, List.getElem_cons_succ, List.setIfInBounds_toArray, List.set_cons_zero, List.set_cons_succ]
            refine wpAnyH_take (i := 16) (v := undef) rfl (by kernel_rfl) (by kernel_rfl) (by kernel_rfl) (fun _ _ _ h => h) (Or.inr ⟨by rfl, rfl⟩) (by assumption) ?_
            try simp only [Act.put, List.getElem_toArray, List.getElem_cons_zero, List.getElem_cons_succ, List.setIfInBounds_toArray, List.set_cons_zero, List.set_cons_succ]
            refine wpAnyH_take (i := 17) (v := undef) rfl (by kernel_rfl) (by kernel_rfl) (by kernel_rfl) (fun _ _ _ h => h) (Or.inr ⟨by rfl, rfl⟩) (by assumption) ?_
            try simp only [Act.put, List.getElem_toArray, List.getElem_cons_zero, List.getElem_cons_succ, List.setIfInBounds_toArray, List.set_cons_zero, List.set_cons_succ]
            refine wpAnyH_take (i := 18) (v := undef) rfl (by kernel_rfl) (by kernel_rfl) (by kernel_rfl) (fun _ _ _ h => h) (Or.inr ⟨by rfl, rfl⟩) (by assumption) ?_
            try simp only [Act.put, List.getElem_toArray, List.getElem_cons_zero, List.getElem_cons_succ, List.setIfInBounds_toArray, List.set_cons_zero, List.set_cons_succ]
            refine wpAnyH_take (i := 19) (v := undef) rfl (by kernel_rfl) (by kernel_rfl) (by kernel_rfl) (fun _ _ _ h => h) (Or.inr ⟨by rfl, rfl⟩) (by assumption) ?_
            try simp only [Act.put, List.getElem_toArray, List.getElem_cons_zero, List.getElem_cons_succ, List.setIfInBounds_toArray, List.set_cons_zero, List.set_cons_succ]
            refine wpAnyH_take (i := 20) (v := ?vv20) rfl (by kernel_rfl) (by kernel_rfl) (by kernel_rfl) (fun _ _ _ h => h) (Or.inl ⟨by rfl, ?hy20⟩) (by assumption) ?rest20
            case hy20 => (intro w hSw; (try dsimp only at hSw); (try simp only [List.getElem_toArray, List.getElem_cons_zero, List.getElem_cons_succ]); go_simp <;> with_reducible rfl)
            try simp only [Act.put, List.getElem_toArray, List.getElem_cons_zero, List.getElem_cons_succ, List.setIfInBounds_toArray, List.set_cons_zero, List.set_cons_succ]
            refine wpAnyH_done (by kernel_rfl) ?_ _
            refine at_exit (W := wr) hB1.2 ?_
            intro W8 hb8
            have R1 : Hid (y.l = up (bestG φ p (L.take (j + 1))) ∧ y.Own 3 W8 ∧ y.In w.heap.size W8.heap.size W8) := Lib.hid (by rw [HNEW.out]; exact ⟨HY.out.1, HY.out.2.1.on hb8, (HY.out.2.2.on hb8).wide (Nat.le_refl _) hb8.size⟩)
            have R2 := HNX.out.trans (hb8.mono HNX.out.size)
            clear s0 hb8 hHeld hHeld1 hB1 hb1 hcl
            go_wp2
            go_roundw
            case rel => exact ⟨j + 1, y, by omega, by go_num, rfl, R1, R2⟩
            case measure => simp [intOf]; omega


        · obtain rfl : j = c := by omega
          have HEND : Hid (PInts l true w (.returned (.tuple #[.slice y.a y.l.length y.c, .bool true])) wr) := Lib.hid (by
            exact ⟨y, rfl, by rw [HY.out.1, HLL.out, HCD.out, List.take_length], HY.out.2.1, HY.out.2.2, (HBWB.out.trans (HB2B.out.mono HBWB.out.size)).trans (hnx.mono (by have := HBWB.out.size; omega))⟩)
          clear hnx
          go_wp2
          go_ret2
          exact HEND.out

set_option maxRecDepth 16000 in
set_option maxHeartbeats 1500000 in
theorem implBestAllowed_any (F : Fld) (u : Int) (cl lm : Row) (w : World) (hF : F.At w) (hcl : cl.At w) (hlm : lm.At w)  (b : Bool) (hb0 : b = (worthB F u && (classB F.o.l.length cl.l lm.l))) (l : List Int) (hl0 : l = if b then up (bestG (gainT F u) (fun T => allowB cl.l lm.l T) (E8.allSets F.o.l.length)) else []) :
    Calls Try.prog 22 #[.agg #[.slice F.o.a F.o.l.length F.o.c, .slice F.t.a F.t.R.length F.t.c], .int .i64 u, .slice cl.a cl.l.length cl.c, .slice lm.a lm.l.length lm.c] w (PInts l b w) := by
  obtain ⟨wA, hA, hbA, bx, hFA, hszA⟩ := laid_fld F w 29 hF
  have x0 : wA.cell? ⟨w.heap.size, 0, none⟩ = some (.slice F.o.a F.o.l.length F.o.c) := bx.c0
  have x1 : wA.cell? ⟨w.heap.size, 1, none⟩ = some (.slice F.t.a F.t.R.length F.t.c) := bx.c1
  rw [hA] at x0 x1
  change (w.alloc (Obj.cells #[.slice F.o.a F.o.l.length F.o.c, .slice F.t.a F.t.R.length F.t.c] 29)).cell? _ = _ at x0 x1
  have CB := Lib.hid (callsIn_wide.1 (bestUnderC_in 8 (Nat.le_refl _) F u (.agg #[.slice F.o.a F.o.l.length F.o.c, .slice F.t.a F.t.R.length F.t.c, .slice cl.a cl.l.length cl.c, .slice lm.a lm.l.length lm.c]) (classB F.o.l.length cl.l lm.l) (fun T => allowB cl.l lm.l T) wA hFA
    (fun W hW => classValid_any F cl lm W (hFA.on hW) ((hcl.on hbA).on hW) ((hlm.on hbA).on hW))
    (fun hg hr T hT x W hW hx hxl => by
      have h8 := (good_sizes (worthB_iff.1 hg).1).2.1
      have hs := sets_ok (show F.o.l.length ≤ 8 by omega) hT
      exact classAllows_any F cl lm x T W ((hcl.on hbA).on hW) ((hlm.on hbA).on hW) hx ⟨hr, hxl, hs.2.2, by omega⟩) b hb0 l hl0))
  have HA : Hid ((w.alloc (Obj.cells #[.slice F.o.a F.o.l.length F.o.c, .slice F.t.a F.t.R.length F.t.c] 29)) = wA) := Lib.hid hA.symm
  have HBA := Lib.hid hbA
  clear hF hcl hlm hA bx hFA hszA hb0 hl0 hbA 
  go_enter Try.func22, Try.ntmps22
  go_wp2_with fail
  rw [HA.out]
  clear x0 x1
  refine (show Calls _ _ _ _ _ from CB.out).mono ?_
  rintro e W1 ⟨t, rfl, htl, hto, hti, hb1⟩
  have HEND : Hid (PInts l b w (.returned (.tuple #[.slice t.a t.l.length t.c, .bool b])) W1) := Lib.hid ⟨t, rfl, htl, hto, hti.wide HBA.out.size (Nat.le_refl _), HBA.out.trans (hb1.mono HBA.out.size)⟩
  clear htl hto hti hb1
  go_wp2
  go_ret2
  exact HEND.out

theorem bestAllowed_pair (F : Fld) (u : Int) (cl lm : Row) {Q : Prop} (_ : Q) (_ : F.Small) (_ : cl.l.length ≤ 1048576) (_ : lm.l.length ≤ 1048576) : ∃ (l : List Int) (b : Bool) (_ : l.length ≤ 1048576),
    (∀ (G : Fld) (c' m' : Row) (W : World), G.At W → c'.At W → m'.At W → G.Like F → c'.l = cl.l → m'.l = lm.l → Calls Try.prog 20 #[G.val, .int .i64 u, .slice c'.a c'.l.length c'.c, .slice m'.a m'.l.length m'.c] W (PInts l b W)) ∧
    (∀ (G : Fld) (c' m' : Row) (W : World), G.At W → c'.At W → m'.At W → G.Like F → c'.l = cl.l → m'.l = lm.l → Calls Try.prog 22 #[G.val, .int .i64 u, .slice c'.a c'.l.length c'.c, .slice m'.a m'.l.length m'.c] W (PInts l b W)) := by
  have hg : ∀ G : Fld, G.Like F → gainT G u = gainT F u := fun G h => funext fun T => gainT_like h u T
  refine ⟨if (worthB F u && (classB F.o.l.length cl.l lm.l)) then up (bestG (gainT F u) (fun T => allowB cl.l lm.l T) (E8.allSets F.o.l.length)) else [], worthB F u && (classB F.o.l.length cl.l lm.l), ?_, fun G c' m' W hG hc hm hl h1 h2 => specBestAllowed_any G u c' m' W hG hc hm _ (by rw [worthB_like hl, hl.1, h1, h2]) _ (by rw [hg G hl, hl.1, h1, h2]), fun G c' m' W hG hc hm hl h1 h2 => implBestAllowed_any G u c' m' W hG hc hm _ (by rw [worthB_like hl, hl.1, h1, h2]) _ (by rw [hg G hl, hl.1, h1, h2])⟩
  split
  · rename_i h
    rw [Bool.and_eq_true] at h
    have h8 := (good_sizes (worthB_iff.1 h.1).1).2.1
    rw [up_length]
    have := bestG_ok (gainT F u) (fun T => allowB cl.l lm.l T) (n := F.o.l.length) (by omega)
    omega
  · simp

end Go.Proofs.Ytbochmpkjacnnaa
