/- Whether a choice is a packing, as the model has it. Condition: System and choice read as such. -/
import Derived.Test.YtbngmjmcmdfphaaPlainPack
namespace Go.Proofs.Ytbngmjmcmdfphaa
open Go.RowKit Go.Shelf

set_option maxRecDepth 16000 in
set_option maxHeartbeats 2000000 in
theorem l6Packs_any (S : Sys) (c : Row) (T : List Nat) (w : World) (hS : S.At w) (hc : c.At w) (h8 : ∀ l ∈ S.f.t.con, l.length ≤ 8) (hnd : ∀ l ∈ S.f.t.con, l.Nodup) (hcl : c.l = up T) (hlt : ∀ m ∈ T, m < S.f.t.con.length) (hfew : T.length ≤ 8) :
    Calls Try.prog 39 #[.agg #[.int .i64 S.n, .slice S.f.t.a S.f.t.R.length S.f.t.c, .slice S.f.o.a S.f.o.l.length S.f.o.c], .slice c.a c.l.length c.c] w fun e w' => e = .returned (.bool (packB S.f.t.con T)) ∧ Below w.heap.size w w' := by
  obtain ⟨wA, hA, hb, bx, hSA, hszA⟩ := laid_sys S w 29 hS
  have HCA := Lib.hid (hc.on hb)
  have HTA := Lib.hid hSA.2
  have HBX := Lib.hid bx
  have HA := Lib.hid hA
  have H8 := Lib.hid h8
  have HND := Lib.hid hnd
  have HCL := Lib.hid hcl
  have HLT := Lib.hid (fun m hm => by have := hlt m hm; rw [con_length] at this; exact this : ∀ m ∈ T, m < S.f.t.R.length)
  obtain ⟨n, hn⟩ : ∃ n, n = c.l.length := ⟨_, rfl⟩
  have HTN : Hid (T.length = n) := Lib.hid (by rw [hn, hcl, up_length])
  have hn8 : n ≤ 8 := by have := HTN.out; omega
  have hni : (n : Int) ≤ 8 := by omega
  have hti : (S.f.t.R.length : Int) ≤ 9223372036854775807 := by obtain ⟨⟨q1, q2, _⟩, _⟩ := hS.2; rw [tv_length] at q1; unfold maxLen at q2; omega
  obtain ⟨D, hD⟩ : ∃ D, D = S.f.t.con := ⟨_, rfl⟩
  have HFB : Hid (∀ k, (flatS D (T.take k)).length ≤ 64) := Lib.hid fun k => by
    have h1 := flat_bound h8 (T.take k)
    rw [List.length_take] at h1
    rw [hD]
    have : 8 * min k T.length ≤ 64 := by omega
    omega
  obtain ⟨w0, hw0⟩ : ∃ u, u = wA.alloc (.cells #[] 3) := ⟨_, rfl⟩
  have hb0 : Below wA.heap.size wA w0 := by rw [hw0]; exact below_alloc _ _
  have H0 : Hid (LRow wA.heap.size w0 (.slice (some ⟨w.heap.size + 1, 0, none⟩) 0 0) [] (w.heap.size + 1) 0) := Lib.hid ⟨rfl, by have := empty_own wA; rw [← hw0, hszA] at this; rw [hszA]; exact this⟩
  have HW0 : Hid (w0 = (w.alloc (Obj.cells #[.int .i64 S.n, .slice S.f.t.a S.f.t.R.length S.f.t.c, .slice S.f.o.a S.f.o.l.length S.f.o.c] 29)).alloc (.cells #[] 3)) := Lib.hid (by rw [hw0, hA])
  have HB0 := Lib.hid hb0
  have HDD := Lib.hid hD
  have hwA := hb.size
  rw [← hD]
  rw [← hn]
  clear hS hc hcl hlt h8 hnd bx hSA hA hw0 hb0 hn hD hszA hfew
  go_enter Try.func39, Try.ntmps39
  go_wp2
  go_loopw [5, 6, 7, 8] (fun out iv_ _ _ wr => ∃ k g cap : Nat, k ≤ n ∧ iv_ = .int .i64 k ∧ out = .slice (some ⟨g, 0, none⟩) (putAll (flatS D (T.take k))).length cap ∧ Hid (LRow wA.heap.size wr out (putAll (flatS D (T.take k))) g cap) ∧ Hid (packB D (T.take k) = true) ∧ Below w0.heap.size w0 wr) (fun _ iv_ _ _ _ => n - (intOf iv_).toNat)
  case atStart => exact ⟨0, _, _, Nat.zero_le _, rfl, rfl, Lib.hid (by have := H0.out; rw [HW0.out] at this; exact this), Lib.hid (pack_nil D), by rw [HW0.out]; exact Below.refl _ _⟩
  case round =>
    obtain ⟨k, g, cap, hk, rfl, rfl, HL, HPK, hnx⟩ := hrel
    have HNX := Lib.hid hnx
    have hszr := hnx.size
    have HBA : Hid (Below wA.heap.size wA wr) := Lib.hid (HB0.out.trans (hnx.mono HB0.out.size))
    by_cases hltk : k < n
    · have hlti : (k : Int) < (n : Int) := by omega
      have hkT : k < T.length := by rw [HTN.out]; exact hltk
      obtain ⟨b, o, ha, hcl⟩ := up_cells HCA.out HBA.out HCL.out hkT
      obtain ⟨m, hm⟩ : ∃ m, m = T[k] := ⟨_, rfl⟩
      rw [← hm] at hcl
      have hmR : m < S.f.t.R.length := HLT.out m (by rw [hm]; exact List.getElem_mem _)
      have hmi : (m : Int) < (S.f.t.R.length : Int) := by omega
      obtain ⟨bt, ot, r, hta, hcr, hrat, hrl, hrm⟩ := tab_cells HTA.out HBA.out hmR
      have y1 : wr.cell? ⟨w.heap.size, 1, none⟩ = some (.slice (some ⟨bt, ot, none⟩) S.f.t.R.length S.f.t.c) := by rw [← hta]; exact (HBX.out.on HBA.out).c1
      have hr8 : r.l.length ≤ 8 := H8.out _ (List.mem_map.2 ⟨r, hrm, rfl⟩)
      have hr8i : (r.l.length : Int) ≤ 8 := by omega
      have hgD : D.getD T[k] [] = r.l := by rw [← hm, HDD.out]; exact hrl
      have hrnd : r.l.Nodup := HND.out _ (List.mem_map.2 ⟨r, hrm, rfl⟩)
      obtain ⟨q, hq⟩ : ∃ q, q = (newE (putAll (flatS D (T.take k))) r.l).length := ⟨_, rfl⟩
      have hqy : q ≤ r.l.length := by rw [hq]; exact newE_le _ _
      have HE0 : Hid (r.l.length = 0 → packB D T = false) := Lib.hid fun h => pack_empty hkT (by rw [hgD]; exact List.eq_nil_of_length_eq_zero h)
      have HE1 : Hid (q ≠ r.l.length → packB D T = false) := Lib.hid fun h => pack_old hkT (by rw [hgD, ← hq]; exact h)
      have HE2 : Hid (r.l.length ≠ 0 → q = r.l.length → packB D (T.take (k + 1)) = true) := Lib.hid fun h1 h2 => pack_step hkT HPK.out (by rw [hgD]; intro e; exact h1 (by rw [e]; rfl)) (by rw [hgD]; exact hrnd) (by rw [hgD, ← hq]; exact h2)
      obtain ⟨t, ht, htl, -, hti⟩ := HL.out.row
      have CN := Lib.hid fun d => (by
        have := l6New_any r t (wr.drewN d) (hrat.on (below_draws wr d)) (hti.at.on (below_draws wr d)) (by omega)
        rw [← ht, htl, ← hq] at this
        exact this)
      have HBR := Lib.hid (hb.trans (HBA.out.mono hwA))
      obtain ⟨A, hA⟩ : ∃ A, A = flatS D (T.take k) := ⟨_, rfl⟩
      have hA64 : A.length ≤ 64 := by rw [hA]; exact HFB.out k
      have HST : Hid (flatS D (T.take (k + 1)) = A ++ r.l) := Lib.hid (by rw [flatS_step D T hkT, ← hm, hA, HDD.out, hrl])
      have HRA := Lib.hid hrat
      rw [← hA] at HL CN ⊢
      rw [ha]
      clear hm ha hA hta hrat hrl hrm hnx hgD hrnd hq ht htl hti
      go_wp2_with fail
      go_quiet (fail)
      have HDW : Hid (∀ d, Below wr.heap.size wr (wr.drewN d)) := Lib.hid fun d => below_draws wr d
      by_cases h0 : r.l.length = 0
      · have HE := Lib.hid (HE0.out h0)
        have hee : ((r.l.length : Int) == 0) = true := by rw [h0]; rfl
        have hee2 : (r.l.length : Int) = 0 := by omega
        have HFI : Hid (∀ d, Below w.heap.size w (wr.drewN d)) := Lib.hid fun d => HBR.out.trans ((HDW.out d).mono HBR.out.size)
        go_wp2
        go_ret
        exact ⟨by rw [HE.out]; rfl, HFI.out _⟩
      have hee : ((r.l.length : Int) == 0) = false := by rw [beq_eq_false_iff_ne]; intro e; exact h0 (by omega)
      have hee2 : ¬ ((r.l.length : Int) = 0) := by omega
      obtain ⟨b5, o5, ha5, hb5⟩ : ∃ b5 o5, r.a = some ⟨b5, o5, none⟩ ∧ Hid (∀ W, Below wr.heap.size wr W → ∀ j, (hj : j < r.l.length) → W.cell? ⟨b5, o5 + j, none⟩ = some (.int .i64 r.l[j])) := by
        rcases HRA.out.2.2 with h3 | ⟨b5, o5, h5, hlt5, hc5⟩
        · have := congrArg List.length (iv_nil h3); rw [List.length_nil] at this; omega
        · exact ⟨b5, o5, h5, Lib.hid fun W hW j hj => (hW.cell (p := ⟨b5, o5 + j, none⟩) hlt5).trans (hc5 j _ (iv_at hj))⟩
      rw [ha5] at CN ⊢
      clear ha5
      by_cases h1 : q < r.l.length
      · have HE := Lib.hid (HE1.out (by omega))
        have h1i : (q : Int) < (r.l.length : Int) := by omega
        have HFI : Hid (∀ d, Below w.heap.size w (wr.drewN d)) := Lib.hid fun d => HBR.out.trans ((HDW.out d).mono HBR.out.size)
        clear h0 h1 hqy
        go_wp2_with fail
        refine (show Calls _ _ _ _ _ from CN.out _).mono ?_
        rintro e W5 ⟨rfl, rfl⟩
        go_wp2
        go_ret
        exact ⟨by rw [HE.out]; rfl, HFI.out _⟩
      have HP1 := Lib.hid (HE2.out h0 (by omega))
      have h1i : ¬ (q : Int) < (r.l.length : Int) := by omega
      have h1n : decide (q < r.l.length) = false := decide_eq_false h1
      clear h0 h1 hqy
      go_wp2_with fail
      refine (show Calls _ _ _ _ _ from CN.out _).mono ?_
      rintro e W5 ⟨rfl, rfl⟩
      go_wp2
      clear hee hee2 h1i h1n
      go_loopw [5, 8] (fun out jv w3 => ∃ j g3 cap3 : Nat, j ≤ r.l.length ∧ jv = .int .i64 j ∧ out = .slice (some ⟨g3, 0, none⟩) (putAll (A ++ r.l.take j)).length cap3 ∧ Hid (LRow wA.heap.size w3 out (putAll (A ++ r.l.take j)) g3 cap3) ∧ Below wr.heap.size wr w3) (fun _ jv _ => r.l.length - (intOf jv).toNat)
      case atStart => exact ⟨0, g, cap, Nat.zero_le _, rfl, by rw [List.take_zero, List.append_nil], Lib.hid (by rw [List.take_zero, List.append_nil]; exact HL.out.on (HDW.out _)), HDW.out _⟩
      case round =>
        obtain ⟨j, g3, cap3, hj, rfl, rfl, HL3, hnx3⟩ := hrel
        have HNX3 := Lib.hid hnx3
        have hszr3 := hnx3.size
        by_cases hltj : j < r.l.length
        · have hltji : (j : Int) < (r.l.length : Int) := by omega
          have hc5 := hb5.out _ hnx3 j hltj
          obtain ⟨x, hx⟩ : ∃ x, x = r.l[j] := ⟨_, rfl⟩
          rw [← hx] at hc5
          obtain ⟨L, hL⟩ : ∃ L, L = putAll (A ++ r.l.take j) := ⟨_, rfl⟩
          have hLl : L.length ≤ 1048576 := by
            have := putAll_few (A ++ r.l.take j)
            rw [List.length_append, List.length_take] at this
            rw [hL]; omega
          have hLr : L.Pairwise (· < ·) := by rw [hL]; exact putAll_rises _
          have HSN : Hid (putAll (A ++ r.l.take (j + 1)) = putS L x) := Lib.hid (by rw [putAll_snoc A r.l hltj, hL, hx])
          rw [← hL] at HL3 ⊢
          have CP := Lib.hid (l1PutS_any wA.heap.size g3 cap3 L x wr HL3.out.own hLl hLr (by have := HBA.out.size; omega))
          clear hx hL hLr hnx3 hLl
          go_wp2_with fail
          refine (show Calls _ _ _ _ _ from CP.out).mono ?_
          rintro e W4 ⟨v4, g4, cap4, rfl, hl4, hb4⟩
          have HL4 := Lib.hid hl4
          have hv4 := hl4.val
          subst hv4
          have R2 := HNX3.out.trans (hb4.mono hszr3)
          clear hl4 hb4
          go_wp2
          go_roundw
          case rel => exact ⟨j + 1, g4, cap4, by omega, by go_num, by rw [HSN.out], Lib.hid (by rw [HSN.out]; exact HL4.out), R2⟩
          case measure => simp [intOf]; omega
        · obtain rfl : j = r.l.length := by omega
          rw [List.take_length, ← HST.out] at HL3 ⊢
          have R2 := HNX.out.trans (hnx3.mono hszr)
          clear hnx3
          go_wp2
          go_roundw
          case rel => exact ⟨k + 1, g3, cap3, by omega, by go_num, rfl, HL3, HP1, R2⟩
          case measure => simp [intOf]; omega
    · obtain rfl : k = n := by omega
      have hfull : T.take k = T := List.take_of_length_le (by rw [HTN.out]; exact Nat.le_refl _)
      rw [hfull] at HPK
      have HFI := Lib.hid (hb.trans (HBA.out.mono hwA))
      clear hnx
      go_wp2
      go_ret
      exact ⟨by rw [HPK.out]; rfl, HFI.out⟩
end Go.Proofs.Ytbngmjmcmdfphaa
