/- Both sides of CostOfClients answer alike. Condition: the Field and the list read as such. -/
import Derived.Test.YtfplcgakpildmaaPairCostTable
import Derived.Test.YtfplcgakpildmaaPlainMask
namespace Go.Proofs.Ytfplcgakpildmaa
open Go.RowKit

theorem sorted_same : ∀ {A B : List Nat}, A.Pairwise (· < ·) → B.Pairwise (· < ·) → (∀ x, x ∈ A ↔ x ∈ B) → A = B
  | [], [], _, _, _ => rfl
  | [], b :: B, _, _, h => absurd ((h b).2 List.mem_cons_self) (by simp)
  | a :: A, [], _, _, h => absurd ((h a).1 List.mem_cons_self) (by simp)
  | a :: A, b :: B, hA, hB, h => by
    rw [List.pairwise_cons] at hA hB
    have hab : a = b := by
      rcases List.mem_cons.1 ((h a).1 List.mem_cons_self) with e | h1
      · exact e
      · rcases List.mem_cons.1 ((h b).2 List.mem_cons_self) with e | h2
        · exact e.symm
        · have := hA.1 b h2; have := hB.1 a h1; omega
    subst hab
    congr 1
    refine sorted_same hA.2 hB.2 fun x => ?_
    have := h x
    simp only [List.mem_cons] at this
    constructor
    · intro hx
      rcases this.1 (.inr hx) with e | h1
      · have := hA.1 x hx; omega
      · exact h1
    · intro hx
      rcases this.2 (.inr hx) with e | h1
      · have := hB.1 x hx; omega
      · exact h1
theorem rise_pair (n : Int) : ∀ (T : List Nat) (lo : Int), rise n lo (up T) = true → T.Pairwise (· < ·)
  | [], _, _ => List.Pairwise.nil
  | t :: T, lo, h => by
    simp only [up, List.map_cons, rise, Bool.and_eq_true, decide_eq_true_eq] at h
    rw [List.pairwise_cons]
    refine ⟨fun x hx => ?_, rise_pair n T _ h.2⟩
    have := rise_bounds n _ _ h.2 (x : Int) (List.mem_map.2 ⟨x, hx, rfl⟩)
    omega
theorem mask_bits {T : List Nat} {m : Nat} (h : setB m (up T) = true) (hm : ∀ j ∈ T, j < m) : T = bitsTo (mask T) m := by
  refine sorted_same (rise_pair _ T _ h) (List.Pairwise.filter _ List.pairwise_lt_range) fun x => ?_
  unfold bitsTo
  rw [List.mem_filter, List.mem_range, mask_bit]
  simp only [decide_eq_true_eq]
  exact ⟨fun hx => ⟨hm x hx, hx⟩, fun hx => hx.2⟩

/-- Whether CostOfClients is asked well. -/
def clientsB (F : Fld) (s : Row) : Bool := F.good && setB F.t.R.length s.l
def CostIs (F : Fld) (s : Row) (v : Int) (b : Bool) : Prop :=
  (clientsB F s = false ∧ v = 0 ∧ b = false) ∨ (clientsB F s = true ∧ (∃ T, s.l = up T ∧ v = costC F (mask T)) ∧ b = true)
theorem like_len {F G : Fld} (h : G.Like F) : G.t.R.length = F.t.R.length := by have := congrArg List.length h.2; rw [con_length, con_length] at this; exact this
theorem costC_like {F G : Fld} (h : G.Like F) (c : Nat) : costC G c = costC F c := by
  have : parT G c = parT F c := by funext T; unfold parT; rw [h.1, h.2, like_len h]
  unfold costC; rw [this, h.1]
theorem costIs_like {F G : Fld} {s t : Row} {v : Int} {b : Bool} (h : CostIs F s v b) (hl : G.Like F) (hs : t.l = s.l) : CostIs G t v b := by
  have e : clientsB G t = clientsB F s := by unfold clientsB; rw [hl.good, like_len hl, hs]
  rcases h with ⟨h1, h2, h3⟩ | ⟨h1, ⟨T, h2, h3⟩, h4⟩
  · exact .inl ⟨by rw [e]; exact h1, h2, h3⟩
  · exact .inr ⟨by rw [e]; exact h1, ⟨T, by rw [hs, h2], by rw [h3, costC_like hl]⟩, h4⟩
theorem costIs_some (F : Fld) (s : Row) : ∃ (v : Int) (b : Bool), CostIs F s v b := by
  cases h : clientsB F s with
  | false => exact ⟨0, false, .inl ⟨h, rfl, rfl⟩⟩
  | true =>
    have h' := h
    unfold clientsB at h'
    rw [Bool.and_eq_true] at h'
    obtain ⟨T, hT, _⟩ := set_nat h'.2
    exact ⟨_, true, .inr ⟨h, ⟨T, hT, rfl⟩, rfl⟩⟩
theorem up_same9 {T U : List Nat} (h : up T = up U) : T = U := (List.map_inj_right (fun x y h => by omega)).1 h

set_option maxRecDepth 8000 in
set_option maxHeartbeats 1500000 in
theorem implCostOf_any (F : Fld) (s : Row) (w : World) (hF : F.At w) (hs : s.At w) (v : Int) (b : Bool) (hv : CostIs F s v b) :
    Calls Try.prog 14 #[.agg #[.slice F.o.a F.o.l.length F.o.c, .slice F.t.a F.t.R.length F.t.c], .slice s.a s.l.length s.c] w (PInt v b w) := by
  obtain ⟨wA, hA, hbA, bx, hFA, hszA⟩ := laid_fld F w 29 hF
  have HFA := Lib.hid hFA
  have HSA := Lib.hid (hs.on hbA)
  have HBX : Hid (Box2 wA w.heap.size (.slice F.o.a F.o.l.length F.o.c) (.slice F.t.a F.t.R.length F.t.c) 29) := Lib.hid bx
  have HA : Hid (wA = w.alloc (Obj.cells #[.slice F.o.a F.o.l.length F.o.c, .slice F.t.a F.t.R.length F.t.c] 29)) := Lib.hid hA
  have CT := implIsField_any F wA hFA
  obtain ⟨g, hg⟩ : ∃ g, g = F.good := ⟨_, rfl⟩
  rw [← hg] at CT
  have CT1 := Lib.hid CT
  have HG := Lib.hid hg
  have HBA := Lib.hid hbA
  have x0 := HBX.out.c0
  have x1 := HBX.out.c1
  rw [HA.out] at x0 x1
  have HVV := Lib.hid hv
  have hmi : (F.t.R.length : Int) ≤ 9223372036854775807 := by obtain ⟨q1, q2, _⟩ := hF.2.1; rw [tv_length] at q1; unfold maxLen at q2; omega
  have HE0 : Hid (clientsB F s = false → v = 0 ∧ b = false) := Lib.hid (fun h0 => by
    rcases HVV.out with h | h
    · exact h.2
    · rw [h0] at h; exact absurd h.1 (by simp))
  show Calls _ _ _ w fun e w' => e = .returned (.tuple #[.int .i64 v, .bool b]) ∧ Below w.heap.size w w'
  clear hF hs hA hbA bx hFA hszA CT hg hv
  go_enter Try.func14, Try.ntmps14
  go_wp2_with fail
  rw [← HA.out]
  refine (show Calls _ _ #[.agg #[.slice F.o.a F.o.l.length F.o.c, .slice F.t.a F.t.R.length F.t.c]] _ _ from CT1.out).mono ?_
  rintro e W1 ⟨rfl, hb1⟩
  have HB1 := Lib.hid hb1
  have HBW1 := Lib.hid (HBA.out.trans (hb1.mono HBA.out.size))
  clear hb1 x0 x1
  have y0 := (HBX.out.on HB1.out).c0
  have y1 := (HBX.out.on HB1.out).c1
  cases g with
  | false =>
    obtain ⟨rfl, rfl⟩ := HE0.out (by unfold clientsB; rw [← HG.out]; rfl)
    clear y0 y1
    go_wp2
    go_ret2
    exact ⟨rfl, HBW1.out⟩
  | true =>
    obtain ⟨q, hq⟩ : ∃ q, q = setB F.t.R.length s.l := ⟨_, rfl⟩
    have CS := ascends_any s F.t.R.length W1 (HSA.out.on HB1.out) hmi
    rw [← hq] at CS
    have CS1 := Lib.hid CS
    have HQ := Lib.hid hq
    clear CS hq
    go_wp2_with fail
    refine (show Calls _ _ _ _ _ from CS1.out).mono ?_
    rintro e W2 ⟨rfl, rfl⟩
    cases q with
    | false =>
      obtain ⟨rfl, rfl⟩ := HE0.out (by unfold clientsB; rw [← HG.out, ← HQ.out]; rfl)
      clear y0 y1
      go_wp2
      go_ret2
      exact ⟨rfl, HBW1.out⟩
    | true =>
      obtain ⟨T, hT, hTb⟩ := set_nat HQ.out.symm
      have hm7 := (good_sizes HG.out.symm).2.2
      obtain ⟨k, hk⟩ : ∃ k, k = mask T := ⟨_, rfl⟩
      have hkm : k < 2 ^ F.t.R.length := by rw [hk]; exact mask_lt hTb
      have CC := Lib.hid (costsOf_any F W2 (HFA.out.on HB1.out) HG.out.symm)
      have CP := Lib.hid (fun u (hu : Below W2.heap.size W2 u) => by have := placeOf_any s T u ((HSA.out.on HB1.out).on hu) hT (fun j hj => by have := hTb j hj; omega); rw [← hk] at this; exact this)
      have HL : Hid (v = costC F k ∧ b = true) := Lib.hid (by
        rcases HVV.out with h | ⟨_, ⟨T', h2, h3⟩, h4⟩
        · have h1 : clientsB F s = true := by unfold clientsB; rw [← HG.out, ← HQ.out]; rfl
          rw [h1] at h; exact absurd h.1 (by simp)
        · have e1 : T' = T := up_same9 (h2.symm.trans hT)
          subst e1
          exact ⟨by rw [h3, hk], h4⟩)
      obtain ⟨z, hz⟩ : ∃ z, z = costC F k := ⟨_, rfl⟩
      have hcn := costs_len F
      have hca := costs_at F hkm
      rw [← hz] at hca
      have HZ : Hid (v = z ∧ b = true) := Lib.hid (by rw [hz]; exact HL.out)
      have hp := pow_le128 hm7
      clear hT hTb hk hm7 hz
      go_wp2_with fail
      refine (show Calls _ _ _ _ _ from CC.out).mono ?_
      rintro e W3 ⟨t, rfl, htl, hto, hti, hb3⟩
      have CP1 := Lib.hid (CP.out W3 hb3)
      have HBW3 := Lib.hid (HBW1.out.trans (hb3.mono HBW1.out.size))
      have htn : k < t.l.length := by rw [htl, hcn]; exact hkm
      have htm : t.l.length ≤ 128 := by rw [htl, hcn]; exact hp
      obtain ⟨tb, to_, hta, htc⟩ : ∃ b o, t.a = some ⟨b, o, none⟩ ∧ W3.cell? ⟨b, o + k, none⟩ = some (.int .i64 z) := by
        rcases hti.2.2 with h3 | ⟨b, o, e, _, _, h6, h7⟩
        · have := congrArg List.length (iv_nil h3); rw [List.length_nil] at this; omega
        · exact ⟨b, o, e, by rw [h7 k _ (iv_at htn), ← getD_at htn, htl, hca]⟩
      obtain ⟨tn, htn'⟩ : ∃ n, n = t.l.length := ⟨_, rfl⟩
      rw [hta, ← htn']
      have hki : (k : Int) < (tn : Int) := by omega
      have htni : (tn : Int) ≤ 128 := by omega
      clear htl hto hti hb3 htn htm hta htn' hca hcn hkm hp y0 y1
      go_wp2_with fail
      refine (show Calls _ _ _ _ _ from CP1.out).mono ?_
      rintro e W4 ⟨rfl, rfl⟩
      go_wp2
      go_ret2
      exact ⟨by rw [HZ.out.1, HZ.out.2]; rfl, HBW3.out⟩

set_option maxHeartbeats 1000000 in
theorem l9Clients_any (F : Fld) (s : Row) (w : World) (hF : F.At w) (hs : s.At w) :
    Calls Try.prog 35 #[.agg #[.slice F.o.a F.o.l.length F.o.c, .slice F.t.a F.t.R.length F.t.c], .slice s.a s.l.length s.c] w fun e w' => e = .returned (.bool (setB F.t.R.length s.l)) ∧ Below w.heap.size w w' := by
  obtain ⟨wA, hA, hbA, bx, hFA, hszA⟩ := laid_fld F w 29 hF
  have hmi : (F.t.R.length : Int) ≤ 9223372036854775807 := by obtain ⟨q1, q2, _⟩ := hF.2.1; rw [tv_length] at q1; unfold maxLen at q2; omega
  have CR := Lib.hid (rising_any s F.t.R.length wA (hs.on hbA) hmi)
  have HBX : Hid (Box2 wA w.heap.size (.slice F.o.a F.o.l.length F.o.c) (.slice F.t.a F.t.R.length F.t.c) 29) := Lib.hid bx
  have HA : Hid (wA = w.alloc (Obj.cells #[.slice F.o.a F.o.l.length F.o.c, .slice F.t.a F.t.R.length F.t.c] 29)) := Lib.hid hA
  have x1 := HBX.out.c1
  rw [HA.out] at x1
  have HBA := Lib.hid hbA
  clear hF hs hA hbA bx hFA hszA
  go_enter Try.func35, Try.ntmps35
  go_wp2_with fail
  rw [← HA.out]
  refine (show Calls _ _ _ _ _ from CR.out).mono ?_
  rintro e W ⟨rfl, d, rfl⟩
  go_wp2
  go_ret
  exact ⟨rfl, HBA.out.trans ((below_draws _ _).mono HBA.out.size)⟩

set_option maxRecDepth 8000 in
set_option maxHeartbeats 1500000 in
theorem specCostOf_any (F : Fld) (s : Row) (w : World) (hF : F.At w) (hs : s.At w) (v : Int) (b : Bool) (hv : CostIs F s v b) :
    Calls Try.prog 11 #[.agg #[.slice F.o.a F.o.l.length F.o.c, .slice F.t.a F.t.R.length F.t.c], .slice s.a s.l.length s.c] w (PInt v b w) := by
  obtain ⟨wA, hA, hbA, bx, hFA, hszA⟩ := laid_fld F w 29 hF
  have HFA := Lib.hid hFA
  have HSA := Lib.hid (hs.on hbA)
  have HBX : Hid (Box2 wA w.heap.size (.slice F.o.a F.o.l.length F.o.c) (.slice F.t.a F.t.R.length F.t.c) 29) := Lib.hid bx
  have HA : Hid (wA = w.alloc (Obj.cells #[.slice F.o.a F.o.l.length F.o.c, .slice F.t.a F.t.R.length F.t.c] 29)) := Lib.hid hA
  have CT := l2Good_any F wA hFA
  obtain ⟨g, hg⟩ : ∃ g, g = F.good := ⟨_, rfl⟩
  rw [← hg] at CT
  have CT1 := Lib.hid CT
  have HG := Lib.hid hg
  have HBA := Lib.hid hbA
  have x0 := HBX.out.c0
  have x1 := HBX.out.c1
  rw [HA.out] at x0 x1
  have HVV := Lib.hid hv
  have HE0 : Hid (clientsB F s = false → v = 0 ∧ b = false) := Lib.hid (fun h0 => by
    rcases HVV.out with h | h
    · exact h.2
    · rw [h0] at h; exact absurd h.1 (by simp))
  show Calls _ _ _ w fun e w' => e = .returned (.tuple #[.int .i64 v, .bool b]) ∧ Below w.heap.size w w'
  clear hF hs hA hbA bx hFA hszA CT hg hv
  go_enter Try.func11, Try.ntmps11
  go_wp2_with fail
  rw [← HA.out]
  refine (show Calls _ _ #[.agg #[.slice F.o.a F.o.l.length F.o.c, .slice F.t.a F.t.R.length F.t.c]] _ _ from CT1.out).mono ?_
  rintro e W1 ⟨rfl, hb1⟩
  have HB1 := Lib.hid hb1
  have HBW1 := Lib.hid (HBA.out.trans (hb1.mono HBA.out.size))
  clear hb1 x0 x1
  have y0 := (HBX.out.on HB1.out).c0
  have y1 := (HBX.out.on HB1.out).c1
  cases g with
  | false =>
    obtain ⟨rfl, rfl⟩ := HE0.out (by unfold clientsB; rw [← HG.out]; rfl)
    clear y0 y1
    go_wp2
    go_ret2
    exact ⟨rfl, HBW1.out⟩
  | true =>
    obtain ⟨q, hq⟩ : ∃ q, q = setB F.t.R.length s.l := ⟨_, rfl⟩
    have CS := l9Clients_any F s W1 (HFA.out.on HB1.out) (HSA.out.on HB1.out)
    rw [← hq] at CS
    have CS1 := Lib.hid CS
    have HQ := Lib.hid hq
    clear CS hq
    go_wp2_with fail
    refine (show Calls _ _ _ _ _ from CS1.out).mono ?_
    rintro e W2 ⟨rfl, hb2⟩
    have HB2 := Lib.hid (HB1.out.trans (hb2.mono HB1.out.size))
    have HBW2 := Lib.hid (HBA.out.trans (HB2.out.mono HBA.out.size))
    clear hb2 y0 y1
    have y0 := (HBX.out.on HB2.out).c0
    have y1 := (HBX.out.on HB2.out).c1
    cases q with
    | false =>
      obtain ⟨rfl, rfl⟩ := HE0.out (by unfold clientsB; rw [← HG.out, ← HQ.out]; rfl)
      clear y0 y1
      go_wp2
      go_ret2
      exact ⟨rfl, HBW2.out⟩
    | true =>
      obtain ⟨T, hT, hTb⟩ := set_nat HQ.out.symm
      have hTT := mask_bits (by rw [← hT]; exact HQ.out.symm) hTb
      have CC := Lib.hid (l9Cost_any F s (mask T) W2 (HFA.out.on HB2.out) HG.out.symm (HSA.out.on HB2.out) (by rw [← hTT]; exact hT) (mask_lt hTb))
      have HL : Hid (v = costC F (mask T) ∧ b = true) := Lib.hid (by
        rcases HVV.out with h | ⟨_, ⟨T', h2, h3⟩, h4⟩
        · have h1 : clientsB F s = true := by unfold clientsB; rw [← HG.out, ← HQ.out]; rfl
          rw [h1] at h; exact absurd h.1 (by simp)
        · have e1 : T' = T := up_same9 (h2.symm.trans hT)
          subst e1
          exact ⟨h3, h4⟩)
      clear hT hTb hTT
      go_wp2_with fail
      refine (show Calls _ _ _ _ _ from CC.out).mono ?_
      rintro e W3 ⟨rfl, hb3⟩
      have HBW3 := Lib.hid (HBW2.out.trans (hb3.mono HBW2.out.size))
      clear hb3 y0 y1
      go_wp2
      go_ret2
      exact ⟨by rw [HL.out.1, HL.out.2]; rfl, HBW3.out⟩

theorem costOf_pair (F : Fld) (s : Row) (_ : F.Small) (_ : s.l.length ≤ 1048576) : ∃ (v : Int) (b : Bool),
    (∀ (G : Fld) (t : Row) (W : World), G.At W → t.At W → G.Like F → t.l = s.l → Calls Try.prog 11 #[G.val, .slice t.a t.l.length t.c] W (PInt v b W)) ∧
    (∀ (G : Fld) (t : Row) (W : World), G.At W → t.At W → G.Like F → t.l = s.l → Calls Try.prog 14 #[G.val, .slice t.a t.l.length t.c] W (PInt v b W)) := by
  obtain ⟨v, b, h⟩ := costIs_some F s
  exact ⟨v, b, fun G t W hG ht hk hs => specCostOf_any G t W hG ht v b (costIs_like h hk hs), fun G t W hG ht hk hs => implCostOf_any G t W hG ht v b (costIs_like h hk hs)⟩
end Go.Proofs.Ytfplcgakpildmaa
