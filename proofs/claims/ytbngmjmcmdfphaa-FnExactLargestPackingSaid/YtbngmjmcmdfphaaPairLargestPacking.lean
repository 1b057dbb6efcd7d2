/- Both sides of LargestPacking answer alike. Condition: the System reads as such. -/
import Derived.Test.YtbngmjmcmdfphaaPackRange
import Derived.Test.YtbngmjmcmdfphaaPackSpec
import Derived.Test.YtbngmjmcmdfphaaPairIsSystem
namespace Go.Proofs.Ytbngmjmcmdfphaa
open Go.RowKit Go.Shelf

theorem rise_nodup (n : Int) : ∀ (xs : List Int) (lo : Int), rise n lo xs = true → xs.Nodup ∧ ∀ x ∈ xs, lo < x
  | [], lo, _ => by simp
  | x :: r, lo, h => by
    simp only [rise, Bool.and_eq_true, decide_eq_true_eq] at h
    obtain ⟨h1, h2⟩ := rise_nodup n r x h.2
    refine ⟨List.nodup_cons.2 ⟨fun hm => by have := h2 x hm; omega, h1⟩, fun y hy => ?_⟩
    rcases List.mem_cons.1 hy with e | e
    · subst e; omega
    · have := h2 y e; omega
theorem pack_nodup {S : Sys} (h : S.good = true) : ∀ l ∈ S.f.t.con, l.Nodup := by
  obtain ⟨n, _, _, _, _, _, h6⟩ := good_n h
  exact fun l hl => (rise_nodup n l (-1) (h6 l hl)).1

set_option maxRecDepth 32000 in
set_option maxHeartbeats 3000000 in
theorem specPack_any (S : Sys) (w : World) (hS : S.At w) (l : List Int) (b : Bool) (hb0 : b = S.good) (hl0 : l = if b then up (packT (packB S.f.t.con) (choL S.f.t.R.length S.f.t.R.length)) else []) :
    Calls Try.prog 18 #[.agg #[.int .i64 S.n, .slice S.f.t.a S.f.t.R.length S.f.t.c, .slice S.f.o.a S.f.o.l.length S.f.o.c]] w (PInts l b w) := by
  obtain ⟨wA, hA, hb, bx, hSA, hszA⟩ := laid_sys S w 29 hS
  obtain ⟨wB, hB⟩ : ∃ u, u = wA.alloc (.cells #[] 3) := ⟨_, rfl⟩
  have hbB : Below wA.heap.size wA wB := by rw [hB]; exact below_alloc _ _
  have hszB : wB.heap.size = w.heap.size + 1 + 1 := by rw [hB, size_alloc, hszA]
  obtain ⟨y0, hy0v, hy0l, hy0o, hy0i⟩ := row_of_own (l := []) (by have := empty_own wA; rw [← hB, hszA] at this; exact this)
  obtain ⟨v, hv⟩ : ∃ v, v = S.good := ⟨_, rfl⟩
  have cg := l6Good_any S wB (Sys.At.on hSA hbB)
  rw [← hv] at cg
  have CG := Lib.hid cg
  have HV := Lib.hid hv
  have HSA := Lib.hid hSA
  have HBX := Lib.hid bx
  have HA := Lib.hid hA
  have HB := Lib.hid hB
  have HB0 := Lib.hid hb0
  have HL0 := Lib.hid hl0
  have hbwB := hb.trans (hbB.mono hb.size)
  have HBWB := Lib.hid hbwB
  have HBB := Lib.hid hbB
  have HY0 : Hid (y0.l = [] ∧ y0.Own 3 wB ∧ y0.In w.heap.size wB.heap.size wB) := Lib.hid ⟨hy0l, hy0o, hy0i.wide (by omega) (Nat.le_refl _)⟩
  have HYV := Lib.hid hy0v
  have HSB := Lib.hid hszB
  have x0 : wB.cell? ⟨w.heap.size, 0, none⟩ = some (.int .i64 S.n) := (bx.on hbB).c0
  have x1 : wB.cell? ⟨w.heap.size, 1, none⟩ = some (.slice S.f.t.a S.f.t.R.length S.f.t.c) := (bx.on hbB).c1
  have x2 : wB.cell? ⟨w.heap.size, 2, none⟩ = some (.slice S.f.o.a S.f.o.l.length S.f.o.c) := (bx.on hbB).c2
  rw [hB, hA] at x0 x1 x2
  -- an empty answer
  have HNO : Hid (∀ W, Below wB.heap.size wB W → b = false → PInts l b w (.returned (.tuple #[.slice (some ⟨w.heap.size + 1, 0, none⟩) 0 0, .bool false])) W) := Lib.hid (fun W hW h => by
    subst h
    have hle : l = [] := hl0
    subst hle
    exact ⟨y0, by rw [hy0v], hy0l, hy0o.on hW, ((hy0i.on hW).wide (by omega) hW.size), hbwB.trans (hW.mono hbwB.size)⟩)
  clear hS hA hB hbB bx hSA cg hb0 hl0 hv hy0l hy0o hy0i hbwB hszB hszA hy0v
  go_enter Try.func18, Try.ntmps18
  go_wp2_with fail
  rw [show (w.alloc (Obj.cells #[.int .i64 S.n, .slice S.f.t.a S.f.t.R.length S.f.t.c, .slice S.f.o.a S.f.o.l.length S.f.o.c] 29)).alloc (.cells #[] 3) = wB by rw [HB.out, HA.out]]
  refine (show Calls _ _ _ _ _ from CG.out).mono ?_
  rintro e W1 ⟨rfl, hb1⟩
  have HB1 := Lib.hid hb1
  clear x0 x1 x2
  cases v with
  | false =>
    have HE := Lib.hid (HNO.out W1 hb1 (by rw [HB0.out, ← HV.out]))
    clear hb1
    go_wp2
    go_ret2
    exact HE.out
  | true =>
      have hbt : b = true := by rw [HB0.out, ← HV.out]
      have hg : S.good = true := HV.out.symm
      obtain ⟨W, hWW⟩ : ∃ W, W = W1 := ⟨_, rfl⟩
      subst hWW
      clear hb1
      obtain ⟨-, -, -, hN8, -, -, -⟩ := good_n hg
      have hNR : S.f.t.con.length = S.f.t.R.length := con_length S.f.t
      have hR8 : S.f.t.R.length ≤ 8 := by omega
      have hRi : (S.f.t.R.length : Int) ≤ 8 := by omega
      have HLL : Hid (l = up (packT (packB S.f.t.con) (choL S.f.t.R.length S.f.t.R.length))) := Lib.hid (by rw [HL0.out, if_pos hbt])
      have HBT := Lib.hid hbt
      have HGD := Lib.hid hg
      have HNR := Lib.hid hNR
      have HBA : Hid (Below wA.heap.size wA W) := Lib.hid (HBB.out.trans (HB1.out.mono HBB.out.size))
      have y1 := (HBX.out.on HBA.out).c1
      have CC := Lib.hid (l6Choices_any S.f.t.R.length W hR8)
      obtain ⟨L, hL⟩ : ∃ L, L = choL S.f.t.R.length S.f.t.R.length := ⟨_, rfl⟩
      obtain ⟨c, hc⟩ : ∃ c, c = L.length := ⟨_, rfl⟩
      rw [← hL, ← hc] at CC
      have hc256 : c ≤ 256 := by rw [hc, hL]; exact (cho_all _ hR8).2
      have hci : (c : Int) ≤ 256 := by omega
      have HLM : Hid (packT (packB S.f.t.con) (choL S.f.t.R.length S.f.t.R.length) = packT (packB S.f.t.con) (L.take c)) := Lib.hid (by rw [hc, List.take_length, hL])
      obtain ⟨p, hp⟩ : ∃ p, p = packB S.f.t.con := ⟨_, rfl⟩
      have HPP := Lib.hid hp
      rw [← hp] at HLM HLL
      have HLD := Lib.hid hL
      have HCD := Lib.hid hc
      clear hbt hg hL hc hNR hN8 hp
      go_wp2_with fail
      refine (show Calls _ _ _ _ _ from CC.out).mono ?_
      rintro e W2 ⟨g, cap, Q, rfl, hT, hb2⟩
      have HT := Lib.hid hT
      have HQC : Hid (Q.length = c) := Lib.hid (by rw [hT.len, HCD.out, HLD.out])
      have HB2A : Hid (Below wA.heap.size wA W2) := Lib.hid (HBA.out.trans (hb2.mono HBA.out.size))
      have HB2B : Hid (Below wB.heap.size wB W2) := Lib.hid (HB1.out.trans (hb2.mono HB1.out.size))
      have hcapi : (c : Int) ≤ (cap : Int) := by have := hT.cap; have := HQC.out; omega
      have hszW := HB1.out.size
      have hszb := hb2.size
      have hsb := HSB.out
      clear hT hb2 y1
      go_wp2
      go_loopw [4, 6] (fun bv iv wr => ∃ (j : Nat) (y : Row), j ≤ c ∧ iv = .int .i64 j ∧ bv = .slice y.a y.l.length y.c ∧ Hid (y.l = up (packT p (L.take j)) ∧ y.Own 3 wr ∧ y.In w.heap.size wr.heap.size wr) ∧ Below W2.heap.size W2 wr) (fun _ iv _ => c - (intOf iv).toNat)
      case atStart => exact ⟨0, y0, Nat.zero_le _, rfl, HYV.out, Lib.hid ⟨by rw [HY0.out.1]; rfl, HY0.out.2.1.on HB2B.out, (HY0.out.2.2.on HB2B.out).wide (Nat.le_refl _) HB2B.out.size⟩, Below.refl _ _⟩
      case round =>
        obtain ⟨j, y, hj, rfl, rfl, HY, hnx⟩ := hrel
        have HNX := Lib.hid hnx
        by_cases hlt : j < c
        · have hlti : (j : Int) < (c : Int) := by omega
          have hjQ : j < Q.length := by rw [HQC.out]; exact hlt
          have hjL : j < L.length := by rw [← HCD.out]; exact hlt
          obtain ⟨r, hr⟩ : ∃ r, r = Q[j] := ⟨_, rfl⟩
          obtain ⟨T, hTT⟩ : ∃ T, T = L[j] := ⟨_, rfl⟩
          have hrl : r.l = up T := by
            rw [hr, hTT]
            have := HT.out.at hjQ (by rw [← HLD.out]; exact hjL)
            rw [this]; congr 1; simp only [HLD.out]
          have hrm : r ∈ Q := by rw [hr]; exact List.getElem_mem _
          have hcl : wr.cell? ⟨g, j, none⟩ = some (.slice r.a r.l.length r.c) := (hnx.cell (p := ⟨g, j, none⟩) HT.out.lt).trans (by rw [hr]; exact HT.out.cell j hjQ)
          have hok := cho_ok hR8 (show T ∈ choL S.f.t.R.length S.f.t.R.length by rw [hTT, ← HLD.out]; exact List.getElem_mem hjL)
          obtain ⟨U, hU⟩ : ∃ U, U = packT p (L.take j) := ⟨_, rfl⟩
          have hU8 : U.length ≤ 8 := by rw [hU, HLD.out]; exact packT_few hR8 j
          have hyl : y.l = up U := by rw [hU]; exact HY.out.1
          obtain ⟨v, hv⟩ : ∃ v, v = p T := ⟨_, rfl⟩
          have HST : Hid (packT p (L.take (j + 1)) = if U.length < T.length ∧ v = true then T else U) := Lib.hid (by rw [packT_step p L hjL, ← hU, hv]; simp only [hTT])
          have hrlen : r.l.length = T.length := by rw [hrl, up_length]
          have hylen : y.l.length = U.length := by rw [hyl, up_length]
          have HRR : Hid (∀ u, Below wr.heap.size wr u → r.l = up T ∧ r.Own 3 u ∧ r.In w.heap.size u.heap.size u) := Lib.hid fun u hu => by
            have hW := HNX.out.trans (hu.mono HNX.out.size)
            obtain ⟨h1, h2⟩ := HT.out.rows r hrm
            exact ⟨hrl, h2.on hW, (h1.on hW).wide (by omega) hW.size⟩
          have HYU : Hid (∀ u, Below wr.heap.size wr u → y.l = up U ∧ y.Own 3 u ∧ y.In w.heap.size u.heap.size u) := Lib.hid fun u hu => ⟨hyl, HY.out.2.1.on hu, (HY.out.2.2.on hu).wide (Nat.le_refl _) hu.size⟩
          have hr8i : (r.l.length : Int) ≤ 8 := by have := hok.2.1; omega
          have hy8i : (y.l.length : Int) ≤ 8 := by omega
          have FIN : Hid (∀ W8, Below wr.heap.size wr W8 → U.length < T.length ∧ v = true → Hid (r.l = up (packT p (L.take (j + 1))) ∧ r.Own 3 W8 ∧ r.In w.heap.size W8.heap.size W8)) := Lib.hid fun W8 h8 h => Lib.hid (by rw [HST.out, if_pos h]; exact HRR.out W8 h8)
          have FIU : Hid (∀ W8, Below wr.heap.size wr W8 → ¬ (U.length < T.length ∧ v = true) → Hid (y.l = up (packT p (L.take (j + 1))) ∧ y.Own 3 W8 ∧ y.In w.heap.size W8.heap.size W8)) := Lib.hid fun W8 h8 h => Lib.hid (by rw [HST.out, if_neg h]; exact HYU.out W8 h8)
          have HBAr : Hid (Below wA.heap.size wA wr) := Lib.hid (HB2A.out.trans (hnx.mono HB2A.out.size))
          have C1 := Lib.hid (fun u (hu : Below wr.heap.size wr u) => by have := l6Packs_any S r T u (Sys.At.on (show S.At wA from HSA.out) (HBAr.out.trans (hu.mono HBAr.out.size))) (HRR.out u hu).2.2.at (good_row8 HGD.out) (pack_nodup HGD.out) hrl (by rw [HNR.out]; exact hok.2.2) hok.2.1; rw [← HPP.out, ← hv] at this; exact this : ∀ u, Below wr.heap.size wr u → Calls Try.prog 39 #[.agg #[.int .i64 S.n, .slice S.f.t.a S.f.t.R.length S.f.t.c, .slice S.f.o.a S.f.o.l.length S.f.o.c], .slice r.a r.l.length r.c] u fun e w' => e = .returned (.bool v) ∧ Below u.heap.size u w')
          have HS : Hid (∀ u, Below wr.heap.size wr u → ((u.cell? ⟨g, j, none⟩ = some (.slice r.a r.l.length r.c) ∧ u.cell? ⟨w.heap.size, 0, none⟩ = some (.int .i64 S.n) ∧ u.cell? ⟨w.heap.size, 1, none⟩ = some (.slice S.f.t.a S.f.t.R.length S.f.t.c) ∧ u.cell? ⟨w.heap.size, 2, none⟩ = some (.slice S.f.o.a S.f.o.l.length S.f.o.c)) ∧ Below wr.heap.size wr u)) := Lib.hid fun u hu => by
            have hu2 := HBAr.out.trans (hu.mono HBAr.out.size)
            exact ⟨⟨(hu.cell (p := ⟨g, j, none⟩) (Nat.lt_of_lt_of_le HT.out.lt HNX.out.size)).trans hcl, (HBX.out.on hu2).c0, (HBX.out.on hu2).c1, (HBX.out.on hu2).c2⟩, hu⟩
          have s0 := HS.out wr.drew (Below.refl _ _).drew
          have HLT : Hid (r.l.length = T.length ∧ y.l.length = U.length) := Lib.hid ⟨hrlen, hylen⟩
          clear hr hTT hrl hrm hok hrlen hylen hU hU8 hyl hv hnx hjL hjQ
          by_cases hgt : y.l.length < r.l.length
          · have hgti : (y.l.length : Int) < (r.l.length : Int) := by omega
            cases v with
            | false =>
              go_wp2_with fail
              have hd2 : decide ((y.l.length : Int) < (r.l.length : Int)) = true := by simpa using hgti
              first | (go_region_held3 (fun u => ((u.cell? ⟨g, j, none⟩ = some (.slice r.a r.l.length r.c) ∧ u.cell? ⟨w.heap.size, 0, none⟩ = some (.int .i64 S.n) ∧ u.cell? ⟨w.heap.size, 1, none⟩ = some (.slice S.f.t.a S.f.t.R.length S.f.t.c) ∧ u.cell? ⟨w.heap.size, 2, none⟩ = some (.slice S.f.o.a S.f.o.l.length S.f.o.c)) ∧ Below wr.heap.size wr u)) (first | exact s0 | exact keep_reg HS.out (by first | assumption | exact And.right (by assumption)) hb1) ((go_at_call 39; refine (show Calls _ _ _ _ _ from C1.out _ (by first | assumption | exact And.right (by assumption))).mono ?_; rintro e u1 ⟨rfl, hb1⟩))) | fail
              refine at_exit (W := wr) (by first | assumption | exact And.right (by assumption)) ?_
              intro W8 hb8
              have R1 := FIU.out W8 hb8 (fun h => Bool.noConfusion h.2)
              have R2 := HNX.out.trans (hb8.mono HNX.out.size)
              clear s0 hb8 hcl
              go_wp2
              go_roundw
              case rel => exact ⟨j + 1, y, by omega, by go_num, rfl, R1, R2⟩
              case measure => simp [intOf] <;> omega
            | true =>
              go_wp2_with fail
              have hd2 : decide ((y.l.length : Int) < (r.l.length : Int)) = true := by simpa using hgti
              first | (go_region_held3 (fun u => ((u.cell? ⟨g, j, none⟩ = some (.slice r.a r.l.length r.c) ∧ u.cell? ⟨w.heap.size, 0, none⟩ = some (.int .i64 S.n) ∧ u.cell? ⟨w.heap.size, 1, none⟩ = some (.slice S.f.t.a S.f.t.R.length S.f.t.c) ∧ u.cell? ⟨w.heap.size, 2, none⟩ = some (.slice S.f.o.a S.f.o.l.length S.f.o.c)) ∧ Below wr.heap.size wr u)) (first | exact s0 | exact keep_reg HS.out (by first | assumption | exact And.right (by assumption)) hb1) ((go_at_call 39; refine (show Calls _ _ _ _ _ from C1.out _ (by first | assumption | exact And.right (by assumption))).mono ?_; rintro e u1 ⟨rfl, hb1⟩))) | fail
              refine at_exit (W := wr) (by first | assumption | exact And.right (by assumption)) ?_
              intro W8 hb8
              have R1 := FIN.out W8 hb8 ⟨by rw [← HLT.out.1, ← HLT.out.2]; exact hgt, by first | rfl | trivial⟩
              have hc8 : W8.cell? ⟨g, j, none⟩ = some (.slice r.a r.l.length r.c) := (HS.out W8 hb8).1.1
              have R2 := HNX.out.trans (hb8.mono HNX.out.size)
              clear s0 hb8 hcl
              go_wp2
              go_roundw
              case rel => exact ⟨j + 1, r, by omega, by go_num, rfl, R1, R2⟩
              case measure => simp [intOf] <;> omega
          · have hgti : ¬ (y.l.length : Int) < (r.l.length : Int) := by omega
            have FI := Lib.hid (fun d => FIU.out (wr.drewN d) (below_draws wr d) (fun h => hgt (by rw [HLT.out.1, HLT.out.2]; exact h.1)))
            clear s0
            go_wp2
            have hd2 : decide ((y.l.length : Int) < (r.l.length : Int)) = false := decide_eq_false (by omega)
            have hd3 : decide (y.l.length < r.l.length) = false := decide_eq_false (by omega)
            go_quiet (fail)
            have R1 := FI.out nq
            have R2 := HNX.out.trans ((below_draws wr nq).mono HNX.out.size)
            clear hcl
            go_wp2
            go_roundw
            case rel => exact ⟨j + 1, y, by omega, by go_num, rfl, R1, R2⟩
            case measure => simp [intOf] <;> omega
        · obtain rfl : j = c := by omega
          have HEND : Hid (PInts l b w (.returned (.tuple #[.slice y.a y.l.length y.c, .bool true])) wr) := Lib.hid (by
            rw [HBT.out]
            exact ⟨y, rfl, by rw [HY.out.1, HLL.out, HLM.out], HY.out.2.1, HY.out.2.2, (HBWB.out.trans (HB2B.out.mono HBWB.out.size)).trans (hnx.mono (by have := HBWB.out.size; omega))⟩)
          clear hnx
          go_wp2
          go_ret2
          exact HEND.out

theorem implPack_any (S : Sys) (w : World) (hS : S.At w) (l : List Int) (b : Bool) (hb0 : b = S.good) (hl0 : l = if b then up (packT (packB S.f.t.con) (choL S.f.t.R.length S.f.t.R.length)) else []) :
    Calls Try.prog 19 #[.agg #[.int .i64 S.n, .slice S.f.t.a S.f.t.R.length S.f.t.c, .slice S.f.o.a S.f.o.l.length S.f.o.c]] w (PInts l b w) := callsIn_wide.1 (implPack_in 8 (Nat.le_refl _) S w hS l b hb0 hl0)
theorem largestPacking_pair (S : Sys) (_ : S.Small) : ∃ (l : List Int) (b : Bool) (_ : l.length ≤ 1048576),
    (∀ (G : Sys) (W : World), G.At W → G.Like S → Calls Try.prog 18 #[.agg #[.int .i64 G.n, .slice G.f.t.a G.f.t.R.length G.f.t.c, .slice G.f.o.a G.f.o.l.length G.f.o.c]] W (PInts l b W)) ∧
    (∀ (G : Sys) (W : World), G.At W → G.Like S → Calls Try.prog 19 #[.agg #[.int .i64 G.n, .slice G.f.t.a G.f.t.R.length G.f.t.c, .slice G.f.o.a G.f.o.l.length G.f.o.c]] W (PInts l b W)) := by
  have hlk : ∀ G : Sys, G.Like S → (if S.good = true then up (packT (packB S.f.t.con) (choL S.f.t.con.length S.f.t.con.length)) else []) = if G.good = true then up (packT (packB G.f.t.con) (choL G.f.t.R.length G.f.t.R.length)) else [] := fun G h => by rw [h.good, ← con_length G.f.t, h.2.2]
  refine ⟨if S.good = true then up (packT (packB S.f.t.con) (choL S.f.t.con.length S.f.t.con.length)) else [], S.good, ?_, fun G W hG hl => specPack_any G W hG _ _ hl.good.symm (by rw [hlk G hl, hl.good]), fun G W hG hl => implPack_any G W hG _ _ hl.good.symm (by rw [hlk G hl, hl.good])⟩
  split
  · rename_i h
    obtain ⟨-, -, -, hN8, -, -, -⟩ := good_n h
    have := packT_few (p := packB S.f.t.con) hN8 (choL S.f.t.con.length S.f.t.con.length).length
    rw [List.take_length] at this
    rw [up_length]; omega
  · simp
end Go.Proofs.Ytbngmjmcmdfphaa
