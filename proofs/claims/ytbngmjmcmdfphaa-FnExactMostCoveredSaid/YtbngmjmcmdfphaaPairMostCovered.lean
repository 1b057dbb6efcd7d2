/- Both sides of MostCovered answer alike. Condition: the System reads as such. -/
import Derived.Test.YtbngmjmcmdfphaaMostImpl2
import Derived.Test.YtbngmjmcmdfphaaPairIsSystem
namespace Go.Proofs.Ytbngmjmcmdfphaa
open Go.RowKit Go.Shelf

set_option maxRecDepth 32000 in
set_option maxHeartbeats 3000000 in
theorem specMost_any (S : Sys) (k : Int) (w : World) (hS : S.At w) (l : List Int) (b : Bool) (hb0 : b = askM S k) (hl0 : l = if b then up (mostC S k.toNat) else []) :
    Calls Try.prog 20 #[.agg #[.int .i64 S.n, .slice S.f.t.a S.f.t.R.length S.f.t.c, .slice S.f.o.a S.f.o.l.length S.f.o.c], .int .i64 k] w (PInts l b w) := by
  obtain ⟨wA, hA, hb, bx, hSA, hszA⟩ := laid_sys S w 29 hS
  obtain ⟨wB, hB⟩ : ∃ u, u = wA.alloc (.cells #[] 3) := ⟨_, rfl⟩
  have hbB : Below wA.heap.size wA wB := by rw [hB]; exact below_alloc _ _
  have hszB : wB.heap.size = w.heap.size + 1 + 1 := by rw [hB, size_alloc, hszA]
  obtain ⟨y0, hy0v, hy0l, hy0o, hy0i⟩ := row_of_own (l := []) (by have := empty_own wA; rw [← hB, hszA] at this; exact this)
  obtain ⟨v, hv⟩ : ∃ v, v = S.good := ⟨_, rfl⟩
  have cg := l6Good_any S wB (Sys.At.on hSA hbB)
  rw [← hv] at cg
  have CG := Lib.hid cg
  obtain ⟨q, hq⟩ : ∃ q, q = (decide (0 ≤ k) && decide (k ≤ 8)) := ⟨_, rfl⟩
  have CI := Lib.hid (fun W => by have := l1In_any k 0 8 W; rw [← hq] at this; exact this : ∀ W, Calls Try.prog 42 #[.int .i64 k, .int .i64 0, .int .i64 8] W fun e w' => e = .returned (.bool q) ∧ w' = W)
  have HAK : Hid (askM S k = (v && q)) := Lib.hid (by rw [hv, hq]; rfl)
  have HSA := Lib.hid hSA
  have HBX := Lib.hid bx
  have HA := Lib.hid hA
  have HB := Lib.hid hB
  have HB0 := Lib.hid hb0
  have HL0 := Lib.hid hl0
  have hbwB := hb.trans (hbB.mono hb.size)
  have HBWB := Lib.hid hbwB
  have HBB := Lib.hid hbB
  have HY0 : Hid (y0.l = [] ∧ y0.Own 3 wB ∧ y0.In w.heap.size wB.heap.size wB) := Lib.hid ⟨hy0l, hy0o, hy0i.wide (by omega) (Nat.le_refl _)⟩
  have HYV := Lib.hid hy0v
  have HSB := Lib.hid hszB
  have x0 : wB.cell? ⟨w.heap.size, 0, none⟩ = some (.int .i64 S.n) := (bx.on hbB).c0
  have x1 : wB.cell? ⟨w.heap.size, 1, none⟩ = some (.slice S.f.t.a S.f.t.R.length S.f.t.c) := (bx.on hbB).c1
  have x2 : wB.cell? ⟨w.heap.size, 2, none⟩ = some (.slice S.f.o.a S.f.o.l.length S.f.o.c) := (bx.on hbB).c2
  rw [hB, hA] at x0 x1 x2
  -- an empty answer
  have HNO : Hid (∀ W, Below wB.heap.size wB W → b = false → PInts l b w (.returned (.tuple #[.slice (some ⟨w.heap.size + 1, 0, none⟩) 0 0, .bool false])) W) := Lib.hid (fun W hW h => by
    subst h
    have hle : l = [] := hl0
    subst hle
    exact ⟨y0, by rw [hy0v], hy0l, hy0o.on hW, ((hy0i.on hW).wide (by omega) hW.size), hbwB.trans (hW.mono hbwB.size)⟩)
  clear hS hA hB hbB bx hSA cg hb0 hl0 hv hq hy0l hy0o hy0i hbwB hszB hszA hy0v
  go_enter Try.func20, Try.ntmps20
  go_wp2_with fail
  rw [show (w.alloc (Obj.cells #[.int .i64 S.n, .slice S.f.t.a S.f.t.R.length S.f.t.c, .slice S.f.o.a S.f.o.l.length S.f.o.c] 29)).alloc (.cells #[] 3) = wB by rw [HB.out, HA.out]]
  refine (show Calls _ _ _ _ _ from CG.out).mono ?_
  rintro e W1 ⟨rfl, hb1⟩
  have HB1 := Lib.hid hb1
  clear x0 x1 x2
  cases v with
  | false =>
    have HE := Lib.hid (HNO.out W1 hb1 (by rw [HB0.out, HAK.out]; rfl))
    clear hb1
    go_wp2
    go_ret2
    exact HE.out
  | true =>
    clear hb1
    go_wp2_with fail
    refine (show Calls _ _ _ _ _ from CI.out _).mono ?_
    rintro e W ⟨rfl, rfl⟩
    cases q with
    | false =>
      have HE := Lib.hid (HNO.out W HB1.out (by rw [HB0.out, HAK.out]; rfl))
      go_wp2
      go_ret2
      exact HE.out
    | true =>
      have hbt : b = true := by rw [HB0.out, HAK.out]; rfl
      obtain ⟨hg, hk0, hk8⟩ := askM_iff.1 (HB0.out.symm.trans hbt)
      obtain ⟨kk, hkk⟩ : ∃ kk : Nat, k = kk := ⟨k.toNat, by omega⟩
      subst hkk
      obtain ⟨-, -, -, hN8, -, -, -⟩ := good_n hg
      have hNR : S.f.t.con.length = S.f.t.R.length := con_length S.f.t
      have hR8 : S.f.t.R.length ≤ 8 := by omega
      have hRi : (S.f.t.R.length : Int) ≤ 8 := by omega
      have hk8' : kk ≤ 8 := by omega
      have HLL : Hid (l = up (mostC S kk)) := Lib.hid (by rw [HL0.out, if_pos hbt]; simp)
      have HBT := Lib.hid hbt
      have HGD := Lib.hid hg
      have HNR := Lib.hid hNR
      have HBA : Hid (Below wA.heap.size wA W) := Lib.hid (HBB.out.trans (HB1.out.mono HBB.out.size))
      have y1 := (HBX.out.on HBA.out).c1
      have CC := Lib.hid (l6Choices_any S.f.t.R.length W hR8)
      obtain ⟨L, hL⟩ : ∃ L, L = choL S.f.t.R.length S.f.t.R.length := ⟨_, rfl⟩
      obtain ⟨c, hc⟩ : ∃ c, c = L.length := ⟨_, rfl⟩
      rw [← hL, ← hc] at CC
      have hc256 : c ≤ 256 := by rw [hc, hL]; exact (cho_all _ hR8).2
      have hci : (c : Int) ≤ 256 := by omega
      have HLM : Hid (mostC S kk = mostTo S kk L c) := Lib.hid (by rw [hc, hL, ← hNR, mostTo_all S kk hN8 hk8'])
      have HLD := Lib.hid hL
      have HCD := Lib.hid hc
      clear hbt hg hL hc hNR hN8
      go_wp2_with fail
      refine (show Calls _ _ _ _ _ from CC.out).mono ?_
      rintro e W2 ⟨g, cap, Q, rfl, hT, hb2⟩
      have HT := Lib.hid hT
      have HQC : Hid (Q.length = c) := Lib.hid (by rw [hT.len, HCD.out, HLD.out])
      have HB2A : Hid (Below wA.heap.size wA W2) := Lib.hid (HBA.out.trans (hb2.mono HBA.out.size))
      have HB2B : Hid (Below wB.heap.size wB W2) := Lib.hid (HB1.out.trans (hb2.mono HB1.out.size))
      have hcapi : (c : Int) ≤ (cap : Int) := by have := hT.cap; have := HQC.out; omega
      have hszW := HB1.out.size
      have hszb := hb2.size
      have hsb := HSB.out
      clear hT hb2 y1
      go_wp2
      go_loopw [6, 8] (fun bv iv wr => ∃ (j : Nat) (y : Row), j ≤ c ∧ iv = .int .i64 j ∧ bv = .slice y.a y.l.length y.c ∧ Hid (y.l = up (mostTo S kk L j) ∧ y.Own 3 wr ∧ y.In w.heap.size wr.heap.size wr) ∧ Below W2.heap.size W2 wr) (fun _ iv _ => c - (intOf iv).toNat)
      case atStart => exact ⟨0, y0, Nat.zero_le _, rfl, HYV.out, Lib.hid ⟨by rw [HY0.out.1, mostTo_zero]; rfl, HY0.out.2.1.on HB2B.out, (HY0.out.2.2.on HB2B.out).wide (Nat.le_refl _) HB2B.out.size⟩, Below.refl _ _⟩
      case round =>
        obtain ⟨j, y, hj, rfl, rfl, HY, hnx⟩ := hrel
        have HNX := Lib.hid hnx
        by_cases hlt : j < c
        · have hlti : (j : Int) < (c : Int) := by omega
          have hjQ : j < Q.length := by rw [HQC.out]; exact hlt
          have hjL : j < L.length := by rw [← HCD.out]; exact hlt
          obtain ⟨r, hr⟩ : ∃ r, r = Q[j] := ⟨_, rfl⟩
          obtain ⟨T, hTT⟩ : ∃ T, T = L[j] := ⟨_, rfl⟩
          have hrl : r.l = up T := by
            rw [hr, hTT]
            have := HT.out.at hjQ (by rw [← HLD.out]; exact hjL)
            rw [this]; congr 1; simp only [HLD.out]
          have hrm : r ∈ Q := by rw [hr]; exact List.getElem_mem _
          have hcl : wr.cell? ⟨g, j, none⟩ = some (.slice r.a r.l.length r.c) := (hnx.cell (p := ⟨g, j, none⟩) HT.out.lt).trans (by rw [hr]; exact HT.out.cell j hjQ)
          have hok := cho_ok hR8 (show T ∈ choL S.f.t.R.length S.f.t.R.length by rw [hTT, ← HLD.out]; exact List.getElem_mem hjL)
          have HST : Hid (mostTo S kk L (j + 1) = stepM S kk (mostTo S kk L j) T) := Lib.hid (by rw [mostTo_step S kk L hjL, hTT])
          have HRR : Hid (∀ u, Below wr.heap.size wr u → r.l = up T ∧ r.Own 3 u ∧ r.In w.heap.size u.heap.size u) := Lib.hid fun u hu => by
            have hW := hnx.trans (hu.mono hnx.size)
            obtain ⟨h1, h2⟩ := HT.out.rows r hrm
            exact ⟨hrl, h2.on hW, (h1.on hW).wide (by omega) hW.size⟩
          have hrlen : r.l.length = T.length := by rw [hrl, up_length]
          have hr8i : (r.l.length : Int) ≤ 8 := by omega
          have HRL := Lib.hid hrlen
          by_cases hlk : T.length ≤ kk
          · obtain ⟨U, hU⟩ : ∃ U, U = mostTo S kk L j := ⟨_, rfl⟩
            have hUok : U.length ≤ 8 ∧ ∀ x ∈ U, x < S.f.t.R.length := by
              rcases mostTo_mem S kk L j (by rw [← HCD.out]; omega) with h | h
              · rw [hU, h]; exact ⟨by simp, by simp⟩
              · have := cho_ok hR8 (by rw [← HLD.out]; exact h); rw [hU]; exact this.2
            have hyl : y.l = up U := by rw [hU]; exact HY.out.1
            obtain ⟨cT, hcT⟩ : ∃ z, z = covT S T := ⟨_, rfl⟩
            obtain ⟨cU, hcU⟩ : ∃ z, z = covT S U := ⟨_, rfl⟩
            have HBAr : Hid (Below wA.heap.size wA wr) := Lib.hid (HB2A.out.trans (hnx.mono HB2A.out.size))
            have C1 := Lib.hid (fun u (hu : Below wr.heap.size wr u) => (l6Covered_any S r T u (Sys.At.on (show S.At wA from HSA.out) (HBAr.out.trans (hu.mono HBAr.out.size))) (HRR.out u hu).2.2.at (good_row8 HGD.out) hrl (by rw [HNR.out]; exact hok.2.2) hok.2.1).mono (R' := fun e w' => ∃ a c, e = .returned (.slice a cT c) ∧ Below u.heap.size u w') (fun e w' ⟨t, h1, h2, _, _, h5⟩ => ⟨t.a, t.c, by rw [h1, hcT]; unfold covT; rw [h2], h5⟩))
            have C2 := Lib.hid (fun u (hu : Below wr.heap.size wr u) => (l6Covered_any S y U u (Sys.At.on (show S.At wA from HSA.out) (HBAr.out.trans (hu.mono HBAr.out.size))) (HY.out.2.2.on hu).at (good_row8 HGD.out) hyl (by rw [HNR.out]; exact hUok.2) hUok.1).mono (R' := fun e w' => ∃ a c, e = .returned (.slice a cU c) ∧ Below u.heap.size u w') (fun e w' ⟨t, h1, h2, _, _, h5⟩ => ⟨t.a, t.c, by rw [h1, hcU]; unfold covT; rw [h2], h5⟩))
            have HS : Hid (∀ u, Below wr.heap.size wr u → ((u.cell? ⟨g, j, none⟩ = some (.slice r.a r.l.length r.c) ∧ u.cell? ⟨w.heap.size, 0, none⟩ = some (.int .i64 S.n) ∧ u.cell? ⟨w.heap.size, 1, none⟩ = some (.slice S.f.t.a S.f.t.R.length S.f.t.c) ∧ u.cell? ⟨w.heap.size, 2, none⟩ = some (.slice S.f.o.a S.f.o.l.length S.f.o.c)) ∧ Below wr.heap.size wr u)) := Lib.hid fun u hu => by
              have hu2 := HBAr.out.trans (hu.mono HBAr.out.size)
              exact ⟨⟨(hu.cell (p := ⟨g, j, none⟩) (Nat.lt_of_lt_of_le HT.out.lt HNX.out.size)).trans hcl, (HBX.out.on hu2).c0, (HBX.out.on hu2).c1, (HBX.out.on hu2).c2⟩, hu⟩
            have s0 := HS.out wr.drew (Below.refl _ _).drew
            have hd1 : (r.l.length : Int) ≤ (kk : Int) := by omega
            have HSTT : Hid (cU < cT → mostTo S kk L (j + 1) = T) := Lib.hid fun h => by rw [HST.out]; unfold stepM; rw [if_pos ⟨hlk, by rw [← hU, ← hcU, ← hcT]; exact h⟩]
            have HSTU : Hid (¬ cU < cT → mostTo S kk L (j + 1) = mostTo S kk L j) := Lib.hid fun h => by rw [HST.out]; unfold stepM; rw [if_neg (fun e => h (by rw [hcU, hcT, hU]; exact e.2))]
            clear hr hTT hrl hrm hok hrlen hU hUok hyl hcT hcU hnx hlk
            by_cases hcc : cU < cT
            · have hcci : (cU : Int) < (cT : Int) := by omega
              have HNEW := Lib.hid (HSTT.out hcc)
              clear hcc
              go_wp2_with fail
              have hd2 : decide ((r.l.length : Int) ≤ (kk : Int)) = true := by simpa using hd1
              go_region_held3 (fun u => ((u.cell? ⟨g, j, none⟩ = some (.slice r.a r.l.length r.c) ∧ u.cell? ⟨w.heap.size, 0, none⟩ = some (.int .i64 S.n) ∧ u.cell? ⟨w.heap.size, 1, none⟩ = some (.slice S.f.t.a S.f.t.R.length S.f.t.c) ∧ u.cell? ⟨w.heap.size, 2, none⟩ = some (.slice S.f.o.a S.f.o.l.length S.f.o.c)) ∧ Below wr.heap.size wr u)) (first | exact s0 | exact keep_reg HS.out (by first | assumption | exact And.right (by assumption)) hb1) (first | (go_at_call 43; with_reducible change Calls _ _ #[_, .slice r.a _ _] _ _; refine (show Calls _ _ _ _ _ from C1.out _ (by first | assumption | exact And.right (by assumption))).mono ?_; rintro e u1 ⟨a1, c1, rfl, hb1⟩) | (go_at_call 43; with_reducible change Calls _ _ #[_, .slice y.a _ _] _ _; refine (show Calls _ _ _ _ _ from C2.out _ (by first | assumption | exact And.right (by assumption))).mono ?_; rintro e u1 ⟨a2, c2, rfl, hb1⟩))
              refine at_exit (W := wr) (by first | assumption | exact And.right (by assumption)) ?_
              intro W8 hb8
              have hc8 : W8.cell? ⟨g, j, none⟩ = some (.slice r.a r.l.length r.c) := (HS.out W8 hb8).1.1
              have HR8 := Lib.hid (HRR.out W8 hb8)
              have R2 := HNX.out.trans (hb8.mono HNX.out.size)
              clear s0 hb8 hcl
              go_wp2
              go_roundw
              case rel => exact ⟨j + 1, r, by omega, by go_num, rfl, Lib.hid (by rw [HNEW.out]; exact HR8.out), R2⟩
              case measure => simp [intOf]; omega
            · have hcci : ¬ (cU : Int) < (cT : Int) := by omega
              have HNEW := Lib.hid (HSTU.out hcc)
              clear hcc
              go_wp2_with fail
              have hd2 : decide ((r.l.length : Int) ≤ (kk : Int)) = true := by simpa using hd1
              go_region_held3 (fun u => ((u.cell? ⟨g, j, none⟩ = some (.slice r.a r.l.length r.c) ∧ u.cell? ⟨w.heap.size, 0, none⟩ = some (.int .i64 S.n) ∧ u.cell? ⟨w.heap.size, 1, none⟩ = some (.slice S.f.t.a S.f.t.R.length S.f.t.c) ∧ u.cell? ⟨w.heap.size, 2, none⟩ = some (.slice S.f.o.a S.f.o.l.length S.f.o.c)) ∧ Below wr.heap.size wr u)) (first | exact s0 | exact keep_reg HS.out (by first | assumption | exact And.right (by assumption)) hb1) (first | (go_at_call 43; with_reducible change Calls _ _ #[_, .slice r.a _ _] _ _; refine (show Calls _ _ _ _ _ from C1.out _ (by first | assumption | exact And.right (by assumption))).mono ?_; rintro e u1 ⟨a1, c1, rfl, hb1⟩) | (go_at_call 43; with_reducible change Calls _ _ #[_, .slice y.a _ _] _ _; refine (show Calls _ _ _ _ _ from C2.out _ (by first | assumption | exact And.right (by assumption))).mono ?_; rintro e u1 ⟨a2, c2, rfl, hb1⟩))
              refine at_exit (W := wr) (by first | assumption | exact And.right (by assumption)) ?_
              intro W8 hb8
              have R1 : Hid (y.l = up (mostTo S kk L (j + 1)) ∧ y.Own 3 W8 ∧ y.In w.heap.size W8.heap.size W8) := Lib.hid (by rw [HNEW.out]; exact ⟨HY.out.1, HY.out.2.1.on hb8, (HY.out.2.2.on hb8).wide (Nat.le_refl _) hb8.size⟩)
              have R2 := HNX.out.trans (hb8.mono HNX.out.size)
              clear s0 hb8 hcl
              go_wp2
              go_roundw
              case rel => exact ⟨j + 1, y, by omega, by go_num, rfl, R1, R2⟩
              case measure => simp [intOf]; omega
          · have HNEW : Hid (mostTo S kk L (j + 1) = mostTo S kk L j) := Lib.hid (by rw [HST.out]; unfold stepM; rw [if_neg (fun e => hlk e.1)])
            have hd1 : ¬ (r.l.length : Int) ≤ (kk : Int) := by omega
            have HNLK : Hid (¬ (r.l.length : Int) ≤ (kk : Int)) := Lib.hid hd1
            have hnlk : kk < r.l.length := by omega
            clear hr hTT hrl hrm hok hrlen hlk hnx
            go_wp2
            have hd2 : decide ((r.l.length : Int) ≤ (kk : Int)) = false := decide_eq_false (by have := HNLK.out; omega)
            have hd3 : decide (r.l.length ≤ kk) = false := decide_eq_false (by have := HNLK.out; omega)
            go_quiet (fail)
            have R1 : Hid (y.l = up (mostTo S kk L (j + 1)) ∧ y.Own 3 (wr.drewN nq) ∧ y.In w.heap.size (wr.drewN nq).heap.size (wr.drewN nq)) := Lib.hid (by rw [HNEW.out]; exact ⟨HY.out.1, HY.out.2.1.on (below_draws _ _), HY.out.2.2.on (below_draws _ _)⟩)
            have R2 := HNX.out.trans ((below_draws wr nq).mono HNX.out.size)
            clear hcl
            go_wp2
            go_roundw
            case rel => exact ⟨j + 1, y, by omega, by go_num, rfl, R1, R2⟩
            case measure => simp [intOf]; omega
        · obtain rfl : j = c := by omega
          have HEND : Hid (PInts l b w (.returned (.tuple #[.slice y.a y.l.length y.c, .bool true])) wr) := Lib.hid (by
            rw [HBT.out]
            exact ⟨y, rfl, by rw [HY.out.1, HLL.out, HLM.out], HY.out.2.1, HY.out.2.2, (HBWB.out.trans (HB2B.out.mono HBWB.out.size)).trans (hnx.mono (by have := HBWB.out.size; omega))⟩)
          clear hnx
          go_wp2
          go_ret2
          exact HEND.out

theorem mostCovered_pair (S : Sys) (k : Int) (_ : (Lit.int .i64 k).wf = true) (_ : S.Small) : ∃ (l : List Int) (b : Bool) (_ : l.length ≤ 1048576),
    (∀ (G : Sys) (W : World), G.At W → G.Like S → Calls Try.prog 20 #[.agg #[.int .i64 G.n, .slice G.f.t.a G.f.t.R.length G.f.t.c, .slice G.f.o.a G.f.o.l.length G.f.o.c], .int .i64 k] W (PInts l b W)) ∧
    (∀ (G : Sys) (W : World), G.At W → G.Like S → Calls Try.prog 21 #[.agg #[.int .i64 G.n, .slice G.f.t.a G.f.t.R.length G.f.t.c, .slice G.f.o.a G.f.o.l.length G.f.o.c], .int .i64 k] W (PInts l b W)) := by
  refine ⟨if askM S k = true then up (mostC S k.toNat) else [], askM S k, ?_, fun G W hG hl => specMost_any G k W hG _ _ (askM_like hl k).symm (by rw [mostC_like hl]), fun G W hG hl => implMost_any G k W hG _ _ (askM_like hl k).symm (by rw [mostC_like hl])⟩
  split
  · rename_i h
    obtain ⟨hg, hk0, hk8⟩ := askM_iff.1 h
    obtain ⟨-, -, -, hN8, -, -, -⟩ := good_n hg
    rw [up_length, ← mostTo_all S k.toNat hN8 (by omega)]
    rcases mostTo_mem S k.toNat (choL S.f.t.con.length S.f.t.con.length) _ (Nat.le_refl _) with h | h
    · rw [h]; simp
    · have := (cho_ok hN8 h).2.1; omega
  · simp
end Go.Proofs.Ytbngmjmcmdfphaa
