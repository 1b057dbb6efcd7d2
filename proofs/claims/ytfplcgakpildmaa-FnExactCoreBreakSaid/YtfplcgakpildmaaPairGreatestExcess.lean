/- Both sides of GreatestExcess answer alike. Condition: the Field and the shares read as such. -/
import Derived.Test.YtfplcgakpildmaaGreatestSpec
namespace Go.Proofs.Ytfplcgakpildmaa
open Go.RowKit Go.Shelf

def exE (F : Fld) (p : List Int) : List Int := (excessL F p).drop 1
theorem exE_len (F : Fld) (p : List Int) : (exE F p).length = 2 ^ F.t.R.length - 1 := by unfold exE; rw [List.length_drop, excessL_len]
theorem exE_at (F : Fld) (p : List Int) {k : Nat} (h : k + 1 < 2 ^ F.t.R.length) : (exE F p)[k]'(by rw [exE_len]; omega) = excess F p (k + 1) := by
  unfold exE
  rw [List.getElem_drop]
  have := excessL_at F p (c := 1 + k) (by omega)
  rw [this, Nat.add_comm]
theorem maxOf_one (x : Int) : Lib.maxOf [x] = x := by simp [Lib.maxOf]
theorem maxOf_step {l : List Int} {k : Nat} (h1 : 1 ≤ k) (hk : k < l.length) : Lib.maxOf (l.take (k + 1)) = max (Lib.maxOf (l.take k)) l[k] := by
  unfold Lib.maxOf
  have e : (l.take (k + 1)).headD 0 = (l.take k).headD 0 := by
    cases l with
    | nil => simp
    | cons x r =>
      obtain ⟨j, rfl⟩ : ∃ j, k = j + 1 := ⟨k - 1, by omega⟩
      simp
  rw [e, List.take_succ_eq_append_getElem hk, List.foldl_append]
  rfl
/-- Whether GreatestExcess is asked well. -/
def greatB (F : Fld) (p : List Int) : Bool := sharesB F p && decide (0 < p.length)
def GreatIs (F : Fld) (p : List Int) (v : Int) (b : Bool) : Prop := (greatB F p = false ∧ v = 0 ∧ b = false) ∨ (greatB F p = true ∧ v = Lib.maxOf (exE F p) ∧ b = true)
theorem excess_like {F G : Fld} (h : G.Like F) (p : List Int) : excessL G p = excessL F p := by
  have e := like_len9 h
  have e2 : ∀ c, costC G c = costC F c := fun c => by
    have : parT G c = parT F c := by funext T; unfold parT; rw [h.1, h.2, e]
    unfold costC; rw [this, h.1]
  unfold excessL
  rw [e]
  exact List.map_congr_left fun c _ => by unfold excess; rw [e, e2]
theorem greatIs_like {F G : Fld} {p : List Int} {v : Int} {b : Bool} (h : GreatIs F p v b) (hl : G.Like F) : GreatIs G p v b := by
  unfold GreatIs greatB exE at *; rw [sharesB_like hl, excess_like hl]; exact h
theorem greatIs_some (F : Fld) (p : List Int) : ∃ (v : Int) (b : Bool), GreatIs F p v b := by
  cases h : greatB F p with
  | false => exact ⟨0, false, .inl ⟨h, rfl, rfl⟩⟩
  | true => exact ⟨_, true, .inr ⟨h, rfl, rfl⟩⟩
theorem greatB_iff {F : Fld} {p : List Int} : greatB F p = true ↔ sharesB F p = true ∧ 0 < p.length := by unfold greatB; simp

theorem bits_one9 : ∀ m < 8, 1 ≤ m → bitsTo (0 + 1) m = [0] := by decide

set_option maxRecDepth 8000 in
set_option maxHeartbeats 1500000 in
theorem implGreat_any (F : Fld) (s : Row) (w : World) (hF : F.At w) (hs : s.At w) (v : Int) (b : Bool) (hv : GreatIs F s.l v b) :
    Calls Try.prog 25 #[.agg #[.slice F.o.a F.o.l.length F.o.c, .slice F.t.a F.t.R.length F.t.c], .slice s.a s.l.length s.c] w (PInt v b w) := by
  obtain ⟨wA, hA, hbA, bx, hFA, hszA⟩ := laid_fld F w 29 hF
  have HBX : Hid (Box2 wA w.heap.size (.slice F.o.a F.o.l.length F.o.c) (.slice F.t.a F.t.R.length F.t.c) 29) := Lib.hid bx
  have HA : Hid (wA = w.alloc (Obj.cells #[.slice F.o.a F.o.l.length F.o.c, .slice F.t.a F.t.R.length F.t.c] 29)) := Lib.hid hA
  have HBA := Lib.hid hbA
  have x0 := HBX.out.c0
  have x1 := HBX.out.c1
  rw [HA.out] at x0 x1
  have hsi : (s.l.length : Int) ≤ 9223372036854775807 := by obtain ⟨q1, q2, _⟩ := hs; rw [iv_length] at q1; unfold maxLen at q2; omega
  have HVV := Lib.hid hv
  have HSH := Lib.hid (fun (h : sharesB F s.l = true) => sharesB_iff.1 h)
  have HE0 : Hid (greatB F s.l = false → v = 0 ∧ b = false) := Lib.hid (fun h0 => by
    rcases HVV.out with h | h
    · exact h.2
    · rw [h0] at h; exact absurd h.1 (by simp))
  have HE1 : Hid (greatB F s.l = true → v = Lib.maxOf (exE F s.l) ∧ b = true) := Lib.hid (fun h0 => by
    rcases HVV.out with h | h
    · rw [h0] at h; exact absurd h.1 (by simp)
    · exact h.2)
  obtain ⟨q, hq⟩ : ∃ q, q = sharesB F s.l := ⟨_, rfl⟩
  have HQ := Lib.hid hq
  show Calls _ _ _ w fun e w' => e = .returned (.tuple #[.int .i64 v, .bool b]) ∧ Below w.heap.size w w'
  cases q with
  | false =>
    have CT := Lib.hid (excessesOf_any F s wA hFA (hs.on hbA) [] false (.inl ⟨hq.symm, rfl, rfl⟩))
    obtain ⟨rfl, rfl⟩ := HE0.out (by unfold greatB; rw [← hq]; rfl)
    clear hF hs hA hbA bx hFA hszA hq hv
    go_enter Try.func25, Try.ntmps25
    go_wp2_with fail
    rw [← HA.out]
    refine (show Calls _ _ _ _ _ from CT.out).mono ?_
    rintro e W1 ⟨t, rfl, htl, -, -, hb1⟩
    have HBW1 := Lib.hid (HBA.out.trans (hb1.mono HBA.out.size))
    clear htl hb1 x0 x1
    go_wp2
    go_ret2
    exact ⟨rfl, HBW1.out⟩
  | true =>
    have CT := Lib.hid (excessesOf_any F s wA hFA (hs.on hbA) _ true (.inr ⟨hq.symm, rfl, rfl⟩))
    obtain ⟨hg, hpl, -⟩ := sharesB_iff.1 hq.symm
    have hm7 := (good_sizes hg).2.2
    by_cases h0 : s.l.length = 0
    · obtain ⟨rfl, rfl⟩ := HE0.out (by unfold greatB; rw [h0]; simp)
      have he : ((s.l.length : Int) == 0) = true := by rw [h0]; rfl
      clear hF hs hA hbA bx hFA hszA hq hv hg hpl hm7 h0
      go_enter Try.func25, Try.ntmps25
      go_wp2_with fail
      rw [← HA.out]
      refine (show Calls _ _ _ _ _ from CT.out).mono ?_
      rintro e W1 ⟨t, rfl, htl, -, -, hb1⟩
      have HBW1 := Lib.hid (HBA.out.trans (hb1.mono HBA.out.size))
      clear htl hb1 x0 x1
      go_wp2
      go_ret2
      exact ⟨rfl, HBW1.out⟩
    · obtain ⟨rfl, rfl⟩ := HE1.out (by rw [greatB_iff]; exact ⟨hq.symm, by omega⟩)
      have he : ((s.l.length : Int) == 0) = false := beq_false_of_ne (by omega)
      obtain ⟨N, hN⟩ : ∃ N, N = 2 ^ F.t.R.length := ⟨_, rfl⟩
      have hN7 : N ≤ 128 := by rw [hN]; exact pow_le128 hm7
      have hN2 : 2 ≤ N := by rw [hN]; have := Nat.pow_le_pow_right (show 0 < 2 by omega) (show 1 ≤ F.t.R.length by omega); simpa using this
      have HLN : Hid ((excessL F s.l).length = N) := Lib.hid (by rw [excessL_len, hN])
      have HEN : Hid ((exE F s.l).length = N - 1) := Lib.hid (by rw [exE_len, hN])
      have hNi : (N : Int) ≤ 128 := by omega
      have hNi2 : 2 ≤ (N : Int) := by omega
      have hNi1 : (1 : Int) ≤ (N : Int) := by omega
      clear hF hs hA hbA bx hFA hszA hq hv hg hpl hm7 h0 hN
      go_enter Try.func25, Try.ntmps25
      go_wp2_with fail
      rw [← HA.out]
      refine (show Calls _ _ _ _ _ from CT.out).mono ?_
      rintro e W1 ⟨t, rfl, htl, -, hti, hb1⟩
      have HBW1 := Lib.hid (HBA.out.trans (hb1.mono HBA.out.size))
      have htn : t.l.length = N := by rw [htl]; exact HLN.out
      obtain ⟨q1, q2, q3⟩ := hti
      rw [iv_length, htn] at q1
      obtain ⟨tb, to_, hta, htc⟩ : ∃ b o, t.a = some ⟨b, o, none⟩ ∧ ∀ j, j < (exE F s.l).length → W1.cell? ⟨b, o + 1 + j, none⟩ = some (.int .i64 ((exE F s.l).getD j 0)) := by
        rcases q3 with h3 | ⟨b, o, e, _, _, h6, h7⟩
        · have := congrArg List.length (iv_nil h3); rw [List.length_nil, htn] at this; omega
        · refine ⟨b, o, e, fun j hj => ?_⟩
          have hj2 : j + 1 < t.l.length := by rw [htn]; rw [HEN.out] at hj; omega
          have h8 := h7 (j + 1) _ (iv_at hj2)
          rw [show o + 1 + j = o + (j + 1) by omega, h8, getD_at hj]
          simp only [htl, exE, List.getElem_drop, Nat.add_comm]
      have CM := Try.slices_Max_int tb (to_ + 1) (N - 1) (t.c - 1) (exE F s.l) W1 (by omega) (by rw [HEN.out]; exact Nat.le_refl _) (by omega) htc
      rw [List.take_of_length_le (by rw [HEN.out]; exact Nat.le_refl _)] at CM
      obtain ⟨z, hz⟩ : ∃ z, z = Lib.maxOf (exE F s.l) := ⟨_, rfl⟩
      rw [← hz] at CM
      have CM1 := Lib.hid CM
      have HZ := Lib.hid hz
      have hc1 : ¬ (t.c = 1) := by omega
      have hcN : (N : Int) ≤ (t.c : Int) := by omega
      have hcn : N ≤ t.c := q1
      rw [htn, hta]
      clear htl hb1 htn q1 q2 q3 hta htc CM hz x0 x1
      go_wp2_with fail
      refine (show Calls _ _ _ _ _ from CM1.out).mono ?_
      rintro e W2 ⟨rfl, rfl⟩
      go_wp2
      go_ret2
      exact ⟨by rw [← HZ.out]; rfl, HBW1.out⟩

set_option maxRecDepth 16000 in
set_option maxHeartbeats 2000000 in
theorem specGreat_any (F : Fld) (s : Row) (w : World) (hF : F.At w) (hs : s.At w) (v : Int) (b : Bool) (hv : GreatIs F s.l v b) :
    Calls Try.prog 24 #[.agg #[.slice F.o.a F.o.l.length F.o.c, .slice F.t.a F.t.R.length F.t.c], .slice s.a s.l.length s.c] w (PInt v b w) := by
  obtain ⟨wA, hA, hbA, bx, hFA, hszA⟩ := laid_fld F w 29 hF
  have HFA := Lib.hid hFA
  have HSA := Lib.hid (hs.on hbA)
  have HBX : Hid (Box2 wA w.heap.size (.slice F.o.a F.o.l.length F.o.c) (.slice F.t.a F.t.R.length F.t.c) 29) := Lib.hid bx
  have HA : Hid (wA = w.alloc (Obj.cells #[.slice F.o.a F.o.l.length F.o.c, .slice F.t.a F.t.R.length F.t.c] 29)) := Lib.hid hA
  have HBA := Lib.hid hbA
  have CT := l9Shares_any F s wA hFA (hs.on hbA)
  have x0 := HBX.out.c0
  have x1 := HBX.out.c1
  rw [HA.out] at x0 x1
  have hsi : (s.l.length : Int) ≤ 9223372036854775807 := by obtain ⟨q1, q2, _⟩ := hs; rw [iv_length] at q1; unfold maxLen at q2; omega
  have HVV := Lib.hid hv
  have HE0 : Hid (greatB F s.l = false → v = 0 ∧ b = false) := Lib.hid (fun h0 => by
    rcases HVV.out with h | h
    · exact h.2
    · rw [h0] at h; exact absurd h.1 (by simp))
  have HE1 : Hid (greatB F s.l = true → v = Lib.maxOf (exE F s.l) ∧ b = true) := Lib.hid (fun h0 => by
    rcases HVV.out with h | h
    · rw [h0] at h; exact absurd h.1 (by simp)
    · exact h.2)
  obtain ⟨q, hq⟩ : ∃ q, q = sharesB F s.l := ⟨_, rfl⟩
  rw [← hq] at CT
  have CT1 := Lib.hid CT
  have HQ := Lib.hid hq
  show Calls _ _ _ w fun e w' => e = .returned (.tuple #[.int .i64 v, .bool b]) ∧ Below w.heap.size w w'
  clear hF hs hA hbA bx hFA hszA CT hq hv
  go_enter Try.func24, Try.ntmps24
  go_wp2_with fail
  rw [← HA.out]
  refine (show Calls _ _ _ _ _ from CT1.out).mono ?_
  rintro e W1 ⟨rfl, hb1⟩
  have HB1 := Lib.hid hb1
  have HBW1 := Lib.hid (HBA.out.trans (hb1.mono HBA.out.size))
  clear hb1 x0 x1
  cases q with
  | false =>
    obtain ⟨rfl, rfl⟩ := HE0.out (by unfold greatB; rw [← HQ.out]; rfl)
    go_wp2
    go_ret2
    exact ⟨rfl, HBW1.out⟩
  | true =>
    by_cases h0 : s.l.length = 0
    · obtain ⟨rfl, rfl⟩ := HE0.out (by unfold greatB; rw [h0]; simp)
      have he : ((s.l.length : Int) == 0) = true := by rw [h0]; rfl
      clear h0
      go_wp2
      go_ret2
      exact ⟨rfl, HBW1.out⟩
    · have HL := Lib.hid (HE1.out (by rw [greatB_iff]; exact ⟨HQ.out.symm, by omega⟩))
      have he : ((s.l.length : Int) == 0) = false := beq_false_of_ne (by omega)
      obtain ⟨hg, hpl, hpb⟩ := sharesB_iff.1 HQ.out.symm
      have hm7 := (good_sizes hg).2.2
      obtain ⟨m, hm⟩ : ∃ m, m = F.t.R.length := ⟨_, rfl⟩
      obtain ⟨N, hN⟩ : ∃ N, N = 2 ^ m := ⟨_, rfl⟩
      have hN7 : N ≤ 128 := by rw [hN]; exact pow_le128 (by omega)
      have hN2 : 2 ≤ N := by rw [hN]; have := Nat.pow_le_pow_right (show 0 < 2 by omega) (show 1 ≤ m by omega); simpa using this
      have HEN : Hid ((exE F s.l).length = N - 1) := Lib.hid (by rw [exE_len, hN, hm])
      have HG := Lib.hid hg
      have HPB := Lib.hid hpb
      have HM := Lib.hid hm
      have HN := Lib.hid hN
      have HPL := Lib.hid hpl
      have CC := Lib.hid (l9Table_any F W1 (HFA.out.on HB1.out) hg)
      have y0 := (HBX.out.on HB1.out).c0
      have y1 := (HBX.out.on HB1.out).c1
      have hmi : (m : Int) ≤ 7 := by omega
      have hNi : (N : Int) ≤ 128 := by omega
      have hNi2 : (1 : Int) < (N : Int) := by omega
      have hs0 : 0 < s.l.length := by omega
      have hs0i : (0 : Int) < (s.l.length : Int) := by omega
      clear hg hpl hpb hm7 hm hN h0
      go_wp2_with fail
      refine (show Calls _ _ _ _ _ from CC.out).mono ?_
      rintro e W2 ⟨t, rfl, htl, -, hti, hb2⟩
      have htn : t.l.length = N := by rw [htl, costs_len, HN.out, HM.out]
      have HB2 := Lib.hid (HB1.out.trans (hb2.mono HB1.out.size))
      have HBW2 := Lib.hid (HBA.out.trans (HB2.out.mono HBA.out.size))
      obtain ⟨tb, to_, hta, htb, htc⟩ : ∃ b o, t.a = some ⟨b, o, none⟩ ∧ b < W2.heap.size ∧ ∀ j, j < N → W2.cell? ⟨b, o + j, none⟩ = some (.int .i64 (costC F j)) := by
        rcases hti.2.2 with h3 | ⟨b, o, e, _, _, h6, h7⟩
        · have := congrArg List.length (iv_nil h3); rw [List.length_nil, htn] at this; omega
        · exact ⟨b, o, e, h6, fun j hj => by rw [h7 j _ (iv_at (by rw [htn]; exact hj)), ← getD_at (by rw [htn]; exact hj), htl, costs_at F (by rw [← HM.out, ← HN.out]; exact hj)]⟩
      have HTC := Lib.hid (fun u (hu : Below W2.heap.size W2 u) j (hj : j < N) => (hu.cell (p := ⟨tb, to_ + j, none⟩) htb).trans (htc j hj))
      obtain ⟨sb, so, hsa, hsb0⟩ : ∃ b o, s.a = some ⟨b, o, none⟩ ∧ W2.cell? ⟨b, o, none⟩ = some (.int .i64 (s.l.getD 0 0)) := by
        rcases (HSA.out.on HB2.out).2.2 with h3 | ⟨b, o, e, h6, h7⟩
        · have := congrArg List.length (iv_nil h3); rw [List.length_nil] at this; omega
        · exact ⟨b, o, e, by have := h7 0 _ (iv_at hs0); rw [Nat.add_zero] at this; rw [this, getD_at hs0]⟩
      obtain ⟨x0, hx0⟩ : ∃ x, x = s.l.getD 0 0 := ⟨_, rfl⟩
      rw [← hx0] at hsb0
      obtain ⟨c1, hc1⟩ : ∃ x, x = costC F 1 := ⟨_, rfl⟩
      have ht1 := htc 1 (by omega)
      rw [← hc1] at ht1
      have hx0b : -1400 ≤ x0 ∧ x0 ≤ 1400 := by rw [hx0, getD_at hs0]; exact HPB.out _ (List.getElem_mem hs0)
      have hc1b := costC_bound HG.out 1
      rw [← hc1] at hc1b
      have hx1' := hx0b.1
      have hx2' := hx0b.2
      have hc1' := hc1b.1
      have hc2' := hc1b.2
      have H0 : Hid (x0 - c1 = Lib.maxOf ((exE F s.l).take 1)) := Lib.hid (by
        have h1 : 0 < (exE F s.l).length := by rw [HEN.out]; omega
        have h2 : (exE F s.l)[0] = x0 - c1 := by
          rw [exE_at F s.l (k := 0) (by rw [← HM.out, ← HN.out]; omega), hc1, hx0]
          unfold excess
          have h3 : bitsTo (0 + 1) F.t.R.length = [0] := by
            have hm1 : 1 ≤ F.t.R.length := by rw [← HPL.out]; exact hs0
            exact bits_one9 _ (by have := (good_sizes HG.out).2.2; omega) hm1
          rw [h3]; simp [subS]
        rw [show (exE F s.l).take 1 = [(exE F s.l)[0]] by rw [show 1 = 0 + 1 from rfl, List.take_succ_eq_append_getElem h1]; rfl, maxOf_one, h2])
      have hszw2 := HBW2.out.size
      have hbx2 := HBX.out.on HB2.out
      have y0' := hbx2.c0
      have y1' : W2.cell? ⟨w.heap.size, 1, none⟩ = some (.slice F.t.a m F.t.c) := by rw [HM.out]; exact hbx2.c1
      have HBX2 := Lib.hid hbx2
      have HSA2 := Lib.hid hsa
      rw [htn, hta, hsa]
      clear htl hti hb2 htn hta htb htc hsa hx0 hc1 hx0b hc1b hbx2 y0 y1
      go_wp2
      go_quiet (fail)
      have HBD : Hid (Below W2.heap.size W2 (W2.drewN nq)) := Lib.hid (below_draws W2 nq)
      clear hsb0 ht1 y0' y1'
      go_wp2
      go_loopw [7, 8] (fun mv cv wr => ∃ c : Nat, 2 ≤ c ∧ c ≤ N ∧ cv = .int .i64 c ∧ mv = .int .i64 (Lib.maxOf ((exE F s.l).take (c - 1))) ∧ Below W2.heap.size W2 wr) (fun _ cv _ => N - (intOf cv).toNat)
      case atStart => exact ⟨2, Nat.le_refl _, hN2, rfl, by rw [H0.out], HBD.out⟩
      case round =>
        obtain ⟨c, hc2, hcN, rfl, rfl, hnx⟩ := hrel
        obtain ⟨mx, hmx⟩ : ∃ z, z = Lib.maxOf ((exE F s.l).take (c - 1)) := ⟨_, rfl⟩
        rw [← hmx]
        have HMX := Lib.hid hmx
        clear hmx
        by_cases hlt : c < N
        · have hlti : (c : Int) < (N : Int) := by omega
          have hcm : c < 2 ^ F.t.R.length := by rw [← HM.out, ← HN.out]; exact hlt
          obtain ⟨r, hr⟩ : ∃ z, z = subS s.l (bitsTo c m) := ⟨_, rfl⟩
          obtain ⟨y, hy⟩ : ∃ z, z = costC F c := ⟨_, rfl⟩
          have HST : Hid (Lib.maxOf ((exE F s.l).take (c + 1 - 1)) = max mx (r - y)) := Lib.hid (by
            have h1 : c - 1 < (exE F s.l).length := by rw [HEN.out]; omega
            have h2 := maxOf_step (l := exE F s.l) (k := c - 1) (by omega) h1
            have h3 := exE_at F s.l (k := c - 1) (by omega)
            rw [show c + 1 - 1 = c - 1 + 1 by omega, h2, ← HMX.out]
            rw [h3, show c - 1 + 1 = c by omega, hr, hy, HM.out]; rfl)
          have hrb : -9800 ≤ r ∧ r ≤ 9800 := by
            have h3 := subS_between HPB.out (bitsTo c m)
            have h4 := bitsTo_len c m
            rw [← hr] at h3; omega
          have hyb := costC_bound HG.out c
          rw [← hy] at hyb
          have hyr : IntKind.i64.wrap (r - y) = r - y := by rw [IntKind.wrap_i64]; omega
          have C1 := Lib.hid (fun u => l2Bits_any m c u (by have := (good_sizes HG.out).2.2; have := HM.out; omega) (by omega))
          have C2 := Lib.hid (fun u (hu : Below W2.heap.size W2 u) (z : Row) (hz : z.At u) (hzl : z.l = up (bitsT m c)) => by
            have := (l7Room_any s z (bitsTo c m) u ((HSA.out.on HB2.out).on hu) hz hzl (fun j hj => by rw [HPL.out, ← HM.out]; exact bits_lt hj) (by have := bitsTo_len c m; have := (good_sizes HG.out).2.2; have := HM.out; omega) HPB.out).mono (fun e w' (h : e = _ ∧ w' = u) => (⟨h.1, by rw [h.2]; exact Below.refl _ _⟩ : e = .returned (.int .i64 (subS s.l (bitsTo c m))) ∧ Below u.heap.size u w'))
            rw [← hr, HSA2.out] at this; exact this)
          have C3 := Lib.hid (fun u => (mostR_any mx (r - y) u).mono (fun e w' (h : e = _ ∧ w' = u) => (⟨h.1, by rw [h.2]; exact Below.refl _ _⟩ : e = .returned (.int .i64 (max mx (r - y))) ∧ Below u.heap.size u w')))
          have hszr := hnx.size
          have HNX := Lib.hid hnx
          have HS : Hid (∀ u, Below W2.heap.size W2 u → ((u.cell? ⟨w.heap.size, 1, none⟩ = some (.slice F.t.a m F.t.c) ∧ u.cell? ⟨tb, to_ + c, none⟩ = some (.int .i64 y)) ∧ Below W2.heap.size W2 u)) := Lib.hid fun u hu => ⟨⟨by rw [HM.out]; exact (HBX2.out.on hu).c1, by rw [hy]; exact HTC.out u hu c hlt⟩, hu⟩
          have s0 := HS.out wr.drew hnx.drew
          have hnd : Below W2.heap.size W2 wr.drew := hnx.drew
          have hszd : W2.heap.size ≤ wr.drew.heap.size := hszr
          clear hr hy hrb hyb hnx hcm
          go_wp2_with fail
          go_region_held3 (fun u => ((u.cell? ⟨w.heap.size, 1, none⟩ = some (.slice F.t.a m F.t.c) ∧ u.cell? ⟨tb, to_ + c, none⟩ = some (.int .i64 y)) ∧ Below W2.heap.size W2 u)) (first | exact s0 | exact HS.out _ (by assumption)) (first | (go_at_call 52; refine (show Calls _ _ _ _ _ from C1.out _).mono ?_; rintro e u1 ⟨z, rfl, hzl, -, hzi, hb1⟩; have HZL := Lib.hid hzl; have HZI := Lib.hid hzi; have hB1 : Below W2.heap.size W2 u1 := hnd.trans (hb1.mono hszd); clear hzl hzi hb1) | (go_at_call 51; refine (show Calls _ _ _ _ _ from C2.out _ hB1 z HZI.out.at HZL.out).mono ?_; rintro e u2 ⟨rfl, hb2⟩; have hB2 : Below W2.heap.size W2 u2 := hB1.trans (hb2.mono hB1.size); clear hb2) | (go_at_call 50; refine (show Calls _ _ _ _ _ from C3.out _).mono ?_; rintro e u3 ⟨rfl, hb3⟩; have hB3 : Below W2.heap.size W2 u3 := hB2.trans (hb3.mono hB2.size); clear hb3))
          refine at_exit (W := W2) hB3 ?_
          intro W8 hb8
          clear hB1 hB2 hB3 s0
          go_wp2
          go_roundw
          case rel => exact ⟨c + 1, by omega, by omega, by go_num, by rw [HST.out], hb8⟩
          case measure => simp [intOf]; omega
        · obtain rfl : c = N := by omega
          have HZ : Hid (v = mx ∧ b = true) := Lib.hid ⟨by rw [HL.out.1, HMX.out, List.take_of_length_le (by rw [HEN.out]; exact Nat.le_refl _)], HL.out.2⟩
          have HBW3 := Lib.hid (HBW2.out.trans (hnx.mono hszw2))
          clear hnx
          go_wp2
          go_ret2
          exact ⟨by rw [HZ.out.1, HZ.out.2]; rfl, HBW3.out⟩

theorem great_pair (F : Fld) (s : Row) (_ : F.Small) (_ : s.l.length ≤ 1048576) : ∃ (v : Int) (b : Bool),
    (∀ (G : Fld) (t : Row) (W : World), G.At W → t.At W → G.Like F → t.l = s.l → Calls Try.prog 24 #[G.val, .slice t.a t.l.length t.c] W (PInt v b W)) ∧
    (∀ (G : Fld) (t : Row) (W : World), G.At W → t.At W → G.Like F → t.l = s.l → Calls Try.prog 25 #[G.val, .slice t.a t.l.length t.c] W (PInt v b W)) := by
  obtain ⟨v, b, h⟩ := greatIs_some F s.l
  exact ⟨v, b, fun G t W hG ht hk hs => specGreat_any G t W hG ht v b (by rw [hs]; exact greatIs_like h hk), fun G t W hG ht hk hs => implGreat_any G t W hG ht v b (by rw [hs]; exact greatIs_like h hk)⟩
end Go.Proofs.Ytfplcgakpildmaa
