/- Both sides of IsCoreShare answer alike. Condition: the Field and the shares read as such. -/
import Derived.Test.YtfplcgakpildmaaPairGreatestExcess
namespace Go.Proofs.Ytfplcgakpildmaa
open Go.RowKit Go.Shelf

/-- Whether a set with a code below c has a greatest sum than its cost. -/
def overTo (F : Fld) (p : List Int) : Nat → Bool
  | 0 => false
  | c + 1 => overTo F p c || decide (0 < excess F p c)
theorem excess_zero (F : Fld) (p : List Int) : excess F p 0 = 0 := by unfold excess costC; rw [bitsTo_zero, subS_nil]; simp
theorem overTo_one (F : Fld) (p : List Int) : overTo F p 1 = false := by simp [overTo, excess_zero]
theorem max_over (F : Fld) (p : List Int) : ∀ k, k < (excessL F p).length → 0 ≤ Lib.maxOf ((excessL F p).take (k + 1)) ∧ (overTo F p (k + 1) = false ↔ Lib.maxOf ((excessL F p).take (k + 1)) = 0)
  | 0, h => by
    have h2 : (excessL F p)[0] = 0 := by rw [excessL_at F p (by rw [← excessL_len F p]; exact h), excess_zero]
    rw [show (excessL F p).take (0 + 1) = [(excessL F p)[0]] by rw [List.take_succ_eq_append_getElem h]; rfl, maxOf_one, h2, overTo_one]
    simp
  | k + 1, h => by
    have ih := max_over F p k (by omega)
    have h2 := excessL_at F p (c := k + 1) (by rw [← excessL_len F p]; exact h)
    rw [maxOf_step (by omega) h, h2]
    refine ⟨by omega, ?_⟩
    rw [overTo]
    by_cases h0 : 0 < excess F p (k + 1)
    · rw [decide_eq_true h0, Bool.or_true]
      constructor
      · intro h; cases h
      · intro h; omega
    · rw [decide_eq_false h0, Bool.or_false, ih.2]; omega
/-- Whether shares are core shares. -/
def coreB (F : Fld) (p : List Int) : Bool := (excess F p (2 ^ F.t.R.length - 1) == 0) && !overTo F p (2 ^ F.t.R.length)
theorem overTo_like {F G : Fld} (h : G.Like F) (p : List Int) : ∀ c, c ≤ 2 ^ F.t.R.length → overTo G p c = overTo F p c
  | 0, _ => rfl
  | c + 1, hc => by
    have e : excess G p c = excess F p c := by
      have h1 := excess_like h p
      have h2 := excessL_at F p (c := c) (by omega)
      have h3 := excessL_at G p (c := c) (by rw [like_len9 h]; omega)
      rw [← h2, ← h3]; simp only [h1]
    rw [overTo, overTo, overTo_like h p c (by omega), e]
theorem coreB_like {F G : Fld} (h : G.Like F) (p : List Int) : coreB G p = coreB F p := by
  have hp : 0 < 2 ^ F.t.R.length := Nat.pos_of_ne_zero (by simp)
  have e : excess G p (2 ^ F.t.R.length - 1) = excess F p (2 ^ F.t.R.length - 1) := by
    have h1 := excess_like h p
    have h2 := excessL_at F p (c := 2 ^ F.t.R.length - 1) (by omega)
    have h3 := excessL_at G p (c := 2 ^ F.t.R.length - 1) (by rw [like_len9 h]; omega)
    rw [← h2, ← h3]; simp only [h1]
  unfold coreB
  rw [like_len9 h, overTo_like h p _ (Nat.le_refl _), e]
def CoreIs (F : Fld) (p : List Int) (v b : Bool) : Prop := (sharesB F p = false ∧ v = false ∧ b = false) ∨ (sharesB F p = true ∧ v = coreB F p ∧ b = true)
theorem coreIs_like {F G : Fld} {p : List Int} {v b : Bool} (h : CoreIs F p v b) (hl : G.Like F) : CoreIs G p v b := by
  unfold CoreIs at *; rw [sharesB_like hl, coreB_like hl]; exact h
theorem coreIs_some (F : Fld) (p : List Int) : ∃ v b, CoreIs F p v b := by
  cases h : sharesB F p with
  | false => exact ⟨false, false, .inl ⟨h, rfl, rfl⟩⟩
  | true => exact ⟨_, true, .inr ⟨h, rfl, rfl⟩⟩
theorem bits_full : ∀ m < 8, bitsTo (2 ^ m - 1) m = List.range m := by decide
theorem subS_range (p : List Int) : ∀ k, k ≤ p.length → subS p (List.range k) = (p.take k).sum
  | 0, _ => by simp [subS]
  | k + 1, h => by
    rw [List.range_succ, subS_snoc, subS_range p k (by omega), List.take_succ_eq_append_getElem (by omega), List.sum_append, getD_at (by omega)]
    simp
theorem subS_full {p : List Int} {m : Nat} (hm : m < 8) (hp : p.length = m) : subS p (bitsTo (2 ^ m - 1) m) = p.sum := by
  rw [bits_full m hm, subS_range p m (by omega), List.take_of_length_le (by omega)]

set_option maxRecDepth 8000 in
set_option maxHeartbeats 1500000 in
theorem implCore_any (F : Fld) (s : Row) (w : World) (hF : F.At w) (hs : s.At w) (v b : Bool) (hv : CoreIs F s.l v b) :
    Calls Try.prog 23 #[.agg #[.slice F.o.a F.o.l.length F.o.c, .slice F.t.a F.t.R.length F.t.c], .slice s.a s.l.length s.c] w (PBool2 v b w) := by
  obtain ⟨wA, hA, hbA, bx, hFA, hszA⟩ := laid_fld F w 29 hF
  have HBX : Hid (Box2 wA w.heap.size (.slice F.o.a F.o.l.length F.o.c) (.slice F.t.a F.t.R.length F.t.c) 29) := Lib.hid bx
  have HA : Hid (wA = w.alloc (Obj.cells #[.slice F.o.a F.o.l.length F.o.c, .slice F.t.a F.t.R.length F.t.c] 29)) := Lib.hid hA
  have HBA := Lib.hid hbA
  have x0 := HBX.out.c0
  have x1 := HBX.out.c1
  rw [HA.out] at x0 x1
  have hsi : (s.l.length : Int) ≤ 9223372036854775807 := by obtain ⟨q1, q2, _⟩ := hs; rw [iv_length] at q1; unfold maxLen at q2; omega
  show Calls _ _ _ w fun e w' => e = .returned (.tuple #[.bool v, .bool b]) ∧ Below w.heap.size w w'
  rcases hv with ⟨hq, rfl, rfl⟩ | ⟨hq, hvv, rfl⟩
  · have CT := Lib.hid (excessesOf_any F s wA hFA (hs.on hbA) [] false (.inl ⟨hq, rfl, rfl⟩))
    clear hF hs hA hbA bx hFA hszA hq
    go_enter Try.func23, Try.ntmps23
    go_wp2_with fail
    rw [← HA.out]
    refine (show Calls _ _ _ _ _ from CT.out).mono ?_
    rintro e W1 ⟨t, rfl, htl, -, -, hb1⟩
    have HBW1 := Lib.hid (HBA.out.trans (hb1.mono HBA.out.size))
    clear htl hb1 x0 x1
    go_wp2
    go_ret2
    exact ⟨rfl, HBW1.out⟩
  · have CT := Lib.hid (excessesOf_any F s wA hFA (hs.on hbA) _ true (.inr ⟨hq, rfl, rfl⟩))
    obtain ⟨hg, hpl, -⟩ := sharesB_iff.1 hq
    have hm7 := (good_sizes hg).2.2
    obtain ⟨N, hN⟩ : ∃ N, N = 2 ^ F.t.R.length := ⟨_, rfl⟩
    have hN7 : N ≤ 128 := by rw [hN]; exact pow_le128 hm7
    have hN0 : 0 < N := by rw [hN]; exact Nat.pos_of_ne_zero (by simp)
    obtain ⟨M, hM⟩ : ∃ M, M = N - 1 := ⟨_, rfl⟩
    obtain ⟨x, hx⟩ : ∃ x, x = excess F s.l M := ⟨_, rfl⟩
    obtain ⟨z, hz⟩ : ∃ z, z = Lib.maxOf (excessL F s.l) := ⟨_, rfl⟩
    have HLN : Hid ((excessL F s.l).length = N) := Lib.hid (by rw [excessL_len, hN])
    have HVX : Hid (v = ((x == 0) && (z == 0))) := Lib.hid (by
      have h1 := (max_over F s.l M (by rw [HLN.out]; omega)).2
      rw [show M + 1 = N by omega, List.take_of_length_le (by rw [HLN.out]; exact Nat.le_refl _), ← hz] at h1
      rw [hvv, coreB, ← hN, ← hM, ← hx]
      congr 1
      cases ho : overTo F s.l N with
      | false => rw [h1.1 ho]; rfl
      | true =>
        have h2 : ¬ z = 0 := fun h => by rw [h1.2 h] at ho; cases ho
        exact (beq_false_of_ne h2).symm)
    have hw1 : IntKind.i64.wrap ((N : Int) - 1) = (M : Int) := by rw [show (N : Int) - 1 = (M : Int) by omega]; exact IntWalk.i64_in _ (by omega)
    have hji : (N : Int) - 1 = (M : Int) := by omega
    have hMN : (M : Int) < (N : Int) := by omega
    have hNi : (N : Int) ≤ 128 := by omega
    have HXM : Hid ((excessL F s.l).getD M 0 = x) := Lib.hid (by rw [getD_at (by rw [HLN.out]; omega), excessL_at F s.l (by rw [← hN]; omega), hx])
    clear hF hs hA hbA bx hFA hszA hq hg hpl hm7 hN hx hvv
    go_enter Try.func23, Try.ntmps23
    go_wp2_with fail
    rw [← HA.out]
    refine (show Calls _ _ _ _ _ from CT.out).mono ?_
    rintro e W1 ⟨t, rfl, htl, -, hti, hb1⟩
    have HBW1 := Lib.hid (HBA.out.trans (hb1.mono HBA.out.size))
    have htn : t.l.length = N := by rw [htl]; exact HLN.out
    obtain ⟨q1, q2, q3⟩ := hti
    rw [iv_length, htn] at q1
    obtain ⟨tb, to_, hta, htc⟩ : ∃ b o, t.a = some ⟨b, o, none⟩ ∧ ∀ j, j < (excessL F s.l).length → W1.cell? ⟨b, o + j, none⟩ = some (.int .i64 ((excessL F s.l).getD j 0)) := by
      rcases q3 with h3 | ⟨b, o, e, _, _, h6, h7⟩
      · have := congrArg List.length (iv_nil h3); rw [List.length_nil, htn] at this; omega
      · refine ⟨b, o, e, fun j hj => ?_⟩
        have hj2 : j < t.l.length := by rw [htn]; rw [HLN.out] at hj; exact hj
        rw [h7 j _ (iv_at hj2), getD_at hj]
        simp only [htl]
    have CM := Try.slices_Max_int tb to_ N t.c (excessL F s.l) W1 (by omega) (by rw [HLN.out]; exact Nat.le_refl _) (by omega) htc
    rw [List.take_of_length_le (by rw [HLN.out]; exact Nat.le_refl _), ← hz] at CM
    have CM1 := Lib.hid CM
    have hcl : W1.cell? ⟨tb, to_ + M, none⟩ = some (.int .i64 x) := by have := htc M (by rw [HLN.out]; omega); rw [HXM.out] at this; exact this
    have HM := Lib.hid hM
    rw [htn, hta]
    clear htl hb1 htn q1 q2 q3 hta htc CM hz x0 x1 hM
    by_cases hx0 : x = 0
    · have he : (x == 0) = true := by rw [hx0]; rfl
      have HX := Lib.hid he
      clear hx0
      go_wp2_with fail
      refine (show Calls _ _ _ _ _ from CM1.out).mono ?_
      rintro e W2 ⟨rfl, rfl⟩
      go_wp2
      go_ret2
      exact ⟨by rw [HVX.out, HX.out, Bool.true_and]; rfl, HBW1.out⟩
    · have he : (x == 0) = false := beq_false_of_ne hx0
      have HX := Lib.hid he
      clear hx0
      go_wp2
      go_ret2
      exact ⟨by rw [HVX.out, HX.out, Bool.false_and]; rfl, HBW1.out⟩
end Go.Proofs.Ytfplcgakpildmaa

namespace Go.Proofs.Ytfplcgakpildmaa
open Go.RowKit

theorem sum_step9 {l : List Int} {k : Nat} (h : k < l.length) : (l.take (k + 1)).sum = (l.take k).sum + l[k] := by
  rw [List.take_succ_eq_append_getElem h, List.sum_append]; simp
theorem take_between {l : List Int} (hl : ∀ x ∈ l, -1400 ≤ x ∧ x ≤ 1400) : ∀ k, k ≤ l.length → -(1400 * (k : Int)) ≤ (l.take k).sum ∧ (l.take k).sum ≤ 1400 * (k : Int)
  | 0, _ => by simp
  | k + 1, h => by
    have ih := take_between hl k (by omega)
    have hx := hl _ (List.getElem_mem (show k < l.length by omega))
    rw [sum_step9 (by omega)]
    omega

set_option maxHeartbeats 600000 in
theorem l3SumS_any (r : Row) (w : World) (hr : r.At w) (hb : ∀ x ∈ r.l, -1400 ≤ x ∧ x ≤ 1400) (hn : r.l.length ≤ 7) :
    Calls Try.prog 46 #[.slice r.a r.l.length r.c] w fun e w' => e = .returned (.int .i64 r.l.sum) ∧ w' = w := by
  obtain ⟨a, c, l⟩ := r
  obtain ⟨h1, h2, h3⟩ := hr
  simp only at h1 h2 h3 hb hn ⊢
  have hni : (l.length : Int) ≤ 7 := by omega
  have HR := Lib.hid h3
  have HB := Lib.hid hb
  clear h3 hb
  go_enter Try.func46, Try.ntmps46
  go_wp2
  go_loopw [3, 4] (fun sv i wr => ∃ k : Nat, k ≤ l.length ∧ i = .int .i64 k ∧ sv = .int .i64 (l.take k).sum ∧ w = wr) (fun _ i _ => l.length - (intOf i).toNat)
  case atStart => exact ⟨0, Nat.zero_le _, rfl, by simp, rfl⟩
  case round =>
    obtain ⟨k, hk, rfl, rfl, rfl⟩ := hrel
    by_cases hlt : k < l.length
    · have hlti : (k : Int) < (l.length : Int) := by omega
      rcases HR.out with h3 | ⟨b, o, rfl, hbb, hcell⟩
      · have h3' := congrArg List.length (iv_nil h3); rw [List.length_nil] at h3'; omega
      obtain ⟨x, hx⟩ : ∃ x, x = l[k] := ⟨_, rfl⟩
      have hcl : w.cell? ⟨b, o + k, none⟩ = some (.int .i64 x) := by rw [hx]; exact hcell k _ (iv_at hlt)
      have hx2 := HB.out x (by rw [hx]; exact List.getElem_mem hlt)
      obtain ⟨y, hy⟩ : ∃ y, y = (l.take k).sum := ⟨_, rfl⟩
      have hy2 := take_between HB.out k hk
      rw [← hy] at hy2 ⊢
      have HS : Hid ((l.take (k + 1)).sum = y + x) := Lib.hid (by rw [sum_step9 hlt, hy, hx])
      have e1 : -9800 ≤ y := by omega
      have e2 : y ≤ 9800 := by omega
      have e3 := hx2.1
      have e4 := hx2.2
      clear hx hcell hy hx2 hy2
      go_wp2
      go_roundw
      case rel => exact ⟨k + 1, by omega, by go_num, by rw [HS.out], by first | rfl | trivial⟩
      case measure => simp [intOf]; omega
    · obtain rfl : k = l.length := by omega
      go_wp2
      go_ret
      exact ⟨by rw [List.take_length]; rfl, rfl⟩

theorem over_step (F : Fld) (p : List Int) (c : Nat) (x : Int) (h : excess F p c = x) : overTo F p (c + 1) = (overTo F p c || decide (0 < x)) := by rw [← h]; rfl

set_option maxRecDepth 32000 in
set_option maxHeartbeats 3000000 in
theorem l9Over_any (F : Fld) (s : Row) (w : World) (hF : F.At w) (hs : s.At w) (hq : sharesB F s.l = true) :
    Calls Try.prog 47 #[.agg #[.slice F.o.a F.o.l.length F.o.c, .slice F.t.a F.t.R.length F.t.c], .slice s.a s.l.length s.c] w fun e w' => ∃ t : Row, e = .returned (.slice t.a t.l.length t.c) ∧ decide (t.l.length = 0) = !overTo F s.l (2 ^ F.t.R.length) ∧ Below w.heap.size w w' := by
  obtain ⟨wA, hA, hbA, bx, hFA, hszA⟩ := laid_fld F w 29 hF
  have HB0 := Lib.hid (below_alloc wA (.cells #[] 3))
  have HBX : Hid (Box2 wA w.heap.size (.slice F.o.a F.o.l.length F.o.c) (.slice F.t.a F.t.R.length F.t.c) 29) := Lib.hid bx
  have HA : Hid (wA = w.alloc (Obj.cells #[.slice F.o.a F.o.l.length F.o.c, .slice F.t.a F.t.R.length F.t.c] 29)) := Lib.hid hA
  have HBA := Lib.hid hbA
  have x0 := (HBX.out.on HB0.out).c0
  have x1 := (HBX.out.on HB0.out).c1
  rw [HA.out] at x0 x1
  have HSZ := Lib.hid hszA
  obtain ⟨hg, hpl, hpb⟩ := sharesB_iff.1 hq
  have hm7 := (good_sizes hg).2.2
  obtain ⟨m, hm⟩ : ∃ m, m = F.t.R.length := ⟨_, rfl⟩
  obtain ⟨N, hN⟩ : ∃ N, N = 2 ^ m := ⟨_, rfl⟩
  have hN7 : N ≤ 128 := by rw [hN]; exact pow_le128 (by omega)
  have hN1 : 1 ≤ N := by rw [hN]; exact Nat.pos_of_ne_zero (by simp)
  have HG := Lib.hid hg
  have HPB := Lib.hid hpb
  have HPL := Lib.hid hpl
  have HM := Lib.hid hm
  have HN := Lib.hid hN
  have hmi : (m : Int) ≤ 7 := by omega
  have hNi : (N : Int) ≤ 128 := by omega
  obtain ⟨w1, hw1⟩ : ∃ u, u = wA.alloc (.cells #[] 3) := ⟨_, rfl⟩
  have HW1 : Hid (w1 = (w.alloc (Obj.cells #[.slice F.o.a F.o.l.length F.o.c, .slice F.t.a F.t.R.length F.t.c] 29)).alloc (.cells #[] 3)) := Lib.hid (by rw [hw1, HA.out])
  rw [← hw1] at HB0
  have HBW1 := Lib.hid (HBA.out.trans (HB0.out.mono HBA.out.size))
  have CC := Lib.hid (l9Table_any F w1 (hFA.on HB0.out) hg)
  have HSW := Lib.hid ((hs.on hbA).on HB0.out)
  have HBX1 := Lib.hid (HBX.out.on HB0.out)
  clear hF hs hA hbA bx hFA hszA hq hg hpl hpb hm7 hm hN hw1
  go_enter Try.func47, Try.ntmps47
  go_wp2_with fail
  rw [← HW1.out]
  refine (show Calls _ _ _ _ _ from CC.out).mono ?_
  rintro e W2 ⟨t, rfl, htl, -, hti, hb2⟩
  have htn : t.l.length = N := by rw [htl, costs_len, HN.out, HM.out]
  have HB2 := Lib.hid hb2
  have HBW2 := Lib.hid (HBW1.out.trans (hb2.mono HBW1.out.size))
  obtain ⟨tb, to_, hta, htb, htc⟩ : ∃ b o, t.a = some ⟨b, o, none⟩ ∧ b < W2.heap.size ∧ ∀ j, j < N → W2.cell? ⟨b, o + j, none⟩ = some (.int .i64 (costC F j)) := by
    rcases hti.2.2 with h3 | ⟨b, o, e, _, _, h6, h7⟩
    · have := congrArg List.length (iv_nil h3); rw [List.length_nil, htn] at this; omega
    · exact ⟨b, o, e, h6, fun j hj => by rw [h7 j _ (iv_at (by rw [htn]; exact hj)), ← getD_at (by rw [htn]; exact hj), htl, costs_at F (by rw [← HM.out, ← HN.out]; exact hj)]⟩
  have HTC := Lib.hid (fun u (hu : Below W2.heap.size W2 u) j (hj : j < N) => (hu.cell (p := ⟨tb, to_ + j, none⟩) htb).trans (htc j hj))
  have HSA := Lib.hid (HSW.out.on hb2)
  have HBX2 := Lib.hid (HBX1.out.on hb2)
  have HE0 : Hid (decide ((0 : Nat) = 0) = !overTo F s.l 1) := Lib.hid (by rw [overTo_one]; rfl)
  have hszW := HBW2.out.size
  rw [htn, hta]
  clear htl hti hb2 htn hta htb htc x0 x1
  go_wp2
  go_loopw [5, 7, 8] (fun bv cv sv wr => ∃ (c : Nat) (B : Row) (U : List Nat), 1 ≤ c ∧ c ≤ N ∧ cv = .int .i64 c ∧ bv = .slice B.a B.l.length B.c ∧ Hid (B.l = up U ∧ U.length ≤ 7 ∧ B.At wr) ∧ Hid (decide (B.l.length = 0) = !overTo F s.l c) ∧ Below W2.heap.size W2 wr) (fun _ cv _ _ => N - (intOf cv).toNat)
  case atStart => exact ⟨1, ⟨_, 0, []⟩, [], Nat.le_refl _, hN1, rfl, rfl, Lib.hid ⟨rfl, by simp, ⟨Nat.le_refl _, Nat.zero_le _, .inl rfl⟩⟩, HE0, Below.refl _ _⟩
  case round =>
    obtain ⟨c, B, U, hc1, hcN, rfl, rfl, HBL, HBE, hnx⟩ := hrel
    by_cases hlt : c < N
    · have hlti : (c : Int) < (N : Int) := by omega
      have hcm : c < 2 ^ F.t.R.length := by rw [← HM.out, ← HN.out]; exact hlt
      obtain ⟨r, hr⟩ : ∃ z, z = subS s.l (bitsTo c m) := ⟨_, rfl⟩
      obtain ⟨y, hy⟩ : ∃ z, z = costC F c := ⟨_, rfl⟩
      have HST : Hid (overTo F s.l (c + 1) = (overTo F s.l c || decide (0 < r - y))) := Lib.hid (over_step F s.l c (r - y) (by rw [hr, hy, HM.out]; rfl))
      have C1 := Lib.hid (l2Bits_any m c wr (by have := (good_sizes HG.out).2.2; have := HM.out; omega) (by omega))
      have y1 : wr.cell? ⟨w.heap.size, 1, none⟩ = some (.slice F.t.a m F.t.c) := by rw [HM.out]; exact (HBX2.out.on hnx).c1
      have HNX := Lib.hid hnx
      have hyc := HTC.out
      have HYC : Hid (∀ u, Below W2.heap.size W2 u → u.cell? ⟨tb, to_ + c, none⟩ = some (.int .i64 y)) := Lib.hid fun u hu => by rw [hy]; exact hyc u hu c hlt
      have HR := Lib.hid hr
      clear hy hnx hcm hyc hr
      go_wp2_with fail
      refine (show Calls _ _ _ _ _ from C1.out).mono ?_
      rintro e V ⟨z, rfl, hzl, -, hzi, hb1⟩
      have hbV := HNX.out.trans (hb1.mono HNX.out.size)
      have HBV := Lib.hid hbV
      have HZL := Lib.hid hzl
      have HZI := Lib.hid hzi.at
      have HBV1 : Hid (B.At V) := Lib.hid (HBL.out.2.2.on hb1)
      have C2 := Lib.hid (fun u (hu : Below V.heap.size V u) => by
        have := (l7Room_any s z (bitsTo c m) u ((HSA.out.on HBV.out).on hu) (HZI.out.on hu) HZL.out (fun j hj => by rw [HPL.out, ← HM.out]; exact bits_lt hj) (by have := bitsTo_len c m; have := (good_sizes HG.out).2.2; have := HM.out; omega) HPB.out).mono (fun e w' (h : e = _ ∧ w' = u) => (⟨h.1, by rw [h.2]; exact Below.refl _ _⟩ : e = .returned (.int .i64 (subS s.l (bitsTo c m))) ∧ Below u.heap.size u w'))
        rw [← HR.out] at this; exact this)
      obtain ⟨bf, hbf⟩ : ∃ x, x = beforeT (bitsT m c) U := ⟨_, rfl⟩
      have C3 := Lib.hid (fun u (hu : Below V.heap.size V u) => by
        have := (l2Before_any z B (bitsT m c) U u (HZI.out.on hu) (HBV1.out.on hu) HZL.out HBL.out.1 (by have hle := bitsTo_len c m; have h1 := (good_sizes HG.out).2.2; have h2 := HM.out; exact Nat.le_trans hle (by omega)) HBL.out.2.1).mono (fun e w' (h : e = _ ∧ DrewTo u w') => (⟨h.1, h.2.below⟩ : e = .returned (.bool (beforeT (bitsT m c) U)) ∧ Below u.heap.size u w'))
        rw [← hbf] at this; exact this)
      have HZN : Hid (z.l.length ≠ 0 ∧ z.l = up (bitsT m c) ∧ (bitsT m c).length ≤ 7) := Lib.hid ⟨by
        rw [HZL.out, up_length]; intro h0
        have := bits_some (k := c) (m := m) (by rw [← HN.out]; exact hlt) (List.length_eq_zero_iff.1 h0)
        omega, HZL.out, by have hle := bitsTo_len c m; have h1 := (good_sizes HG.out).2.2; have h2 := HM.out; exact Nat.le_trans hle (by omega)⟩
      have HS : Hid (∀ u, Below V.heap.size V u → (u.cell? ⟨tb, to_ + c, none⟩ = some (.int .i64 y) ∧ Below V.heap.size V u)) := Lib.hid fun u hu => ⟨HYC.out u (HBV.out.trans (hu.mono HBV.out.size)), hu⟩
      have s0 := HS.out V.drew (Below.refl _ _).drew
      clear hbf hzl hzi hb1 hbV y1
      by_cases hry : y < r
      · have HOV : Hid (overTo F s.l (c + 1) = true) := Lib.hid (by rw [HST.out, decide_eq_true (show 0 < r - y by omega), Bool.or_true])
        have hd : decide (y < r) = true := decide_eq_true hry
        clear hry
        have FIN : Hid (∀ u, Below V.heap.size V u → (Hid (z.l = up (bitsT m c) ∧ (bitsT m c).length ≤ 7 ∧ z.At u) ∧ Hid (decide (z.l.length = 0) = !overTo F s.l (c + 1)) ∧ Below W2.heap.size W2 u)) := Lib.hid fun u hu => ⟨Lib.hid ⟨HZN.out.2.1, HZN.out.2.2, HZI.out.on hu⟩, Lib.hid (by rw [HOV.out, decide_eq_false HZN.out.1]; rfl), HBV.out.trans (hu.mono HBV.out.size)⟩
        by_cases hB0 : B.l.length = 0
        · have he : ((B.l.length : Int) == 0) = true := by rw [hB0]; rfl
          clear hB0
          go_wp2_with fail
          refine wp_region_held_drew (S := fun u => u.cell? ⟨tb, to_ + c, none⟩ = some (.int .i64 y) ∧ Below V.heap.size V u) (by kernel_rfl) s0 (fun hHeld => ?_)
          refine wpAnyH_take (i := 0) (v := ?vvB0) rfl (by kernel_rfl) (by kernel_rfl) (by kernel_rfl) (fun _ _ _ h => h) (Or.inl ⟨by rfl, ?hyB0⟩) (by assumption) ?restB0
          case hyB0 => (intro w hSw; (try dsimp only at hSw); (try simp only [List.getElem_toArray, List.getElem_cons_zero]); go_simp <;> with_reducible rfl)
          try simp only [Act.put, List.getElem_toArray, List.getElem_cons_zero, List.setIfInBounds_toArray, List.set_cons_zero, List.set_cons_succ]
          refine wpAnyH_take (i := 1) (v := ?vvB1) rfl (by kernel_rfl) (by kernel_rfl) (by kernel_rfl) (fun _ _ _ h => h) (Or.inl ⟨by rfl, ?hyB1⟩) (by assumption) ?restB1
          case hyB1 => (intro w hSw; (try dsimp only at hSw); (try simp only [List.getElem_toArray, List.getElem_cons_zero, List.getElem_cons_succ]); go_simp <;> with_reducible rfl)
          try simp only [Act.put, List.getElem_toArray, List.getElem_cons_zero, List.getElem_cons_succ, List.setIfInBounds_toArray, List.set_cons_zero, List.set_cons_succ]
          refine wpAnyH_take (i := 3) (v := ?vvB3) rfl (by kernel_rfl) (by kernel_rfl) (by kernel_rfl) (fun _ _ _ h => h) (Or.inl ⟨by rfl, ?hyB3⟩) (by assumption) ?restB3
          case hyB3 => (intro w hSw; (try dsimp only at hSw); (try simp only [List.getElem_toArray, List.getElem_cons_zero, List.getElem_cons_succ]); go_simp <;> with_reducible rfl)
          try simp only [Act.put, List.getElem_toArray, List.getElem_cons_zero, List.getElem_cons_succ, List.setIfInBounds_toArray, List.set_cons_zero, List.set_cons_succ]
          refine wpAnyH_take (i := 4) (v := ?vvB4) rfl (by kernel_rfl) (by kernel_rfl) (by kernel_rfl) (fun _ _ _ h => h) (Or.inl ⟨by rfl, ?hyB4⟩) (by assumption) ?restB4
          case hyB4 => (intro w hSw; (try dsimp only at hSw); (try simp only [List.getElem_toArray, List.getElem_cons_zero, List.getElem_cons_succ]); go_simp <;> with_reducible rfl)
          try simp only [Act.put, List.getElem_toArray, List.getElem_cons_zero, List.getElem_cons_succ, List.setIfInBounds_toArray, List.set_cons_zero, List.set_cons_succ]
          refine wpAnyH_take (i := 5) (v := ?vvB5) rfl (by kernel_rfl) (by kernel_rfl) (by kernel_rfl) (fun _ _ _ h => h) (Or.inl ⟨by rfl, ?hyB5⟩) (by assumption) ?restB5
          case hyB5 => (intro w hSw; (try dsimp only at hSw); (try simp only [List.getElem_toArray, List.getElem_cons_zero, List.getElem_cons_succ]); go_simp <;> with_reducible rfl)
          try simp only [Act.put, List.getElem_toArray, List.getElem_cons_zero, List.getElem_cons_succ, List.setIfInBounds_toArray, List.set_cons_zero, List.set_cons_succ]
          refine wpAnyH_take (i := 6) (v := ?vvB6) rfl (by kernel_rfl) (by kernel_rfl) (by kernel_rfl) (fun _ _ _ h => h) (Or.inl ⟨by rfl, ?hyB6⟩) (by assumption) ?restB6
          case hyB6 => (intro w hSw; (try dsimp only at hSw); (try simp only [List.getElem_toArray, List.getElem_cons_zero, List.getElem_cons_succ]); go_simp <;> with_reducible rfl)
          try simp only [Act.put, List.getElem_toArray, List.getElem_cons_zero, List.getElem_cons_succ, List.setIfInBounds_toArray, List.set_cons_zero, List.set_cons_succ]
          refine wpAnyH_ready (rs := [2]) (by kernel_rfl) (by simp) ?_
          refine AllReadyH.cons rfl (fun K hK => ?_) AllReadyH.nil
          try simp only [List.getElem_toArray, List.getElem_cons_zero, List.getElem_cons_succ]
          go_simp
          go_at_call 51
          refine (show Calls _ _ _ _ _ from C2.out _ (by first | assumption | exact And.right (by assumption))).mono ?_
          rintro e u1 ⟨rfl, hb1⟩
          have hB1 := keep_reg HS.out (by first | assumption | exact And.right (by assumption)) hb1
          go_wp2_with fail
          refine hK.out _ _ hB1 (fun hHeld1 => ?_)
          clear hK
          try simp only [Act.put, List.getElem_toArray, List.getElem_cons_zero, List.getElem_cons_succ, List.setIfInBounds_toArray, List.set_cons_zero, List.set_cons_succ]
          refine wpAnyH_take (i := 7) (v := ?vvB7) rfl (by kernel_rfl) (by kernel_rfl) (by kernel_rfl) (fun _ _ _ h => h) (Or.inl ⟨by rfl, ?hyB7⟩) (by assumption) ?restB7
          case hyB7 => (intro w hSw; (try dsimp only at hSw); (try simp only [List.getElem_toArray, List.getElem_cons_zero, List.getElem_cons_succ]); go_simp <;> with_reducible rfl)
          try simp only [Act.put, List.getElem_toArray, List.getElem_cons_zero, List.getElem_cons_succ, List.setIfInBounds_toArray, List.set_cons_zero, List.set_cons_succ]
          refine wpAnyH_take (i := 8) (v := ?vvB8) rfl (by kernel_rfl) (by kernel_rfl) (by kernel_rfl) (fun _ _ _ h => h) (Or.inl ⟨by rfl, ?hyB8⟩) (by assumption) ?restB8
          case hyB8 => (intro w hSw; (try dsimp only at hSw); (try simp only [List.getElem_toArray, List.getElem_cons_zero, List.getElem_cons_succ]); go_simp <;> with_reducible rfl)
          try simp only [Act.put, List.getElem_toArray, List.getElem_cons_zero, List.getElem_cons_succ, List.setIfInBounds_toArray, List.set_cons_zero, List.set_cons_succ]
          refine wpAnyH_take (i := 9) (v := ?vvB9) rfl (by kernel_rfl) (by kernel_rfl) (by kernel_rfl) (fun _ _ _ h => h) (Or.inl ⟨by rfl, ?hyB9⟩) (by assumption) ?restB9
          case hyB9 => (intro w hSw; (try dsimp only at hSw); (try simp only [List.getElem_toArray, List.getElem_cons_zero, List.getElem_cons_succ]); go_simp <;> with_reducible rfl)
          try simp only [Act.put, List.getElem_toArray, List.getElem_cons_zero, List.getElem_cons_succ, List.setIfInBounds_toArray, List.set_cons_zero, List.set_cons_succ]
          refine wpAnyH_take (i := 10) (v := ?vvB10) rfl (by kernel_rfl) (by kernel_rfl) (by kernel_rfl) (fun _ _ _ h => h) (Or.inl ⟨by rfl, ?hyB10⟩) (by assumption) ?restB10
          case hyB10 => (intro w hSw; (try dsimp only at hSw); (try simp only [List.getElem_toArray, List.getElem_cons_zero, List.getElem_cons_succ]); go_simp <;> with_reducible rfl)
          try simp only [Act.put, List.getElem_toArray, List.getElem_cons_zero, List.getElem_cons_succ, List.setIfInBounds_toArray, List.set_cons_zero, List.set_cons_succ]
          refine wpAnyH_take (i := 11) (v := ?vvB11) rfl (by kernel_rfl) (by kernel_rfl) (by kernel_rfl) (fun _ _ _ h => h) (Or.inl ⟨by rfl, ?hyB11⟩) (by assumption) ?restB11
          case hyB11 => (intro w hSw; (try dsimp only at hSw); (try simp only [List.getElem_toArray, List.getElem_cons_zero, List.getElem_cons_succ]); go_simp <;> with_reducible rfl)
          try simp only [Act.put, List.getElem_toArray, List.getElem_cons_zero, List.getElem_cons_succ, List.setIfInBounds_toArray, List.set_cons_zero, List.set_cons_succ]
          refine wpAnyH_take (i := 12) (v := ?vvB12) rfl (by kernel_rfl) (by kernel_rfl) (by kernel_rfl) (fun _ _ _ h => h) (Or.inl ⟨by rfl, ?hyB12⟩) (by assumption) ?restB12
          case hyB12 => (intro w hSw; (try dsimp only at hSw); (try simp only [List.getElem_toArray, List.getElem_cons_zero, List.getElem_cons_succ]); go_simp <;> with_reducible rfl)
          try simp only [Act.put, List.getElem_toArray, List.getElem_cons_zero, List.getElem_cons_succ, List.setIfInBounds_toArray, List.set_cons_zero, List.set_cons_succ]
          refine wpAnyH_take (i := 13) (v := undef) rfl (by kernel_rfl) (by kernel_rfl) (by kernel_rfl) (fun _ _ _ h => h) (Or.inr ⟨by rfl, rfl⟩) (by assumption) ?_
          try simp only [Act.put, List.getElem_toArray, List.getElem_cons_zero, List.getElem_cons_succ, List.setIfInBounds_toArray, List.set_cons_zero, List.set_cons_succ]
          refine wpAnyH_take (i := 14) (v := undef) rfl (by kernel_rfl) (by kernel_rfl) (by kernel_rfl) (fun _ _ _ h => h) (Or.inr ⟨by rfl, rfl⟩) (by assumption) ?_
          try simp only [Act.put, List.getElem_toArray, List.getElem_cons_zero, List.getElem_cons_succ, List.setIfInBounds_toArray, List.set_cons_zero, List.set_cons_succ]
          refine wpAnyH_take (i := 15) (v := undef) rfl (by kernel_rfl) (by kernel_rfl) (by kernel_rfl) (fun _ _ _ h => h) (Or.inr ⟨by rfl, rfl⟩) (by assumption) ?_
          try simp only [Act.put, List.getElem_toArray, List.getElem_cons_zero, List.getElem_cons_succ, List.setIfInBounds_toArray, List.set_cons_zero, List.set_cons_succ]
          refine wpAnyH_take (i := 16) (v := ?vvB16) rfl (by kernel_rfl) (by kernel_rfl) (by kernel_rfl) (fun _ _ _ h => h) (Or.inl ⟨by rfl, ?hyB16⟩) (by assumption) ?restB16
          case hyB16 => (intro w hSw; (try dsimp only at hSw); (try simp only [List.getElem_toArray, List.getElem_cons_zero, List.getElem_cons_succ]); go_simp <;> with_reducible rfl)
          try simp only [Act.put, List.getElem_toArray, List.getElem_cons_zero, List.getElem_cons_succ, List.setIfInBounds_toArray, List.set_cons_zero, List.set_cons_succ]
          refine wpAnyH_take (i := 17) (v := ?vvB17) rfl (by kernel_rfl) (by kernel_rfl) (by kernel_rfl) (fun _ _ _ h => h) (Or.inl ⟨by rfl, ?hyB17⟩) (by assumption) ?restB17
          case hyB17 => (intro w hSw; (try dsimp only at hSw); (try simp only [List.getElem_toArray, List.getElem_cons_zero, List.getElem_cons_succ]); go_simp <;> with_reducible rfl)
          try simp only [Act.put, List.getElem_toArray, List.getElem_cons_zero, List.getElem_cons_succ, List.setIfInBounds_toArray, List.set_cons_zero, List.set_cons_succ]
          refine wpAnyH_done (by kernel_rfl) ?_ _
          refine at_exit (W := V) (by first | assumption | exact And.right (by assumption)) ?_
          intro W8 hb8
          have HF8 := Lib.hid (FIN.out W8 hb8)
          clear s0 hb8 hHeld hHeld1 hB1 hb1
          go_wp2
          go_roundw
          case rel => exact ⟨c + 1, z, bitsT m c, by omega, by omega, by go_num, rfl, HF8.out.1, HF8.out.2.1, HF8.out.2.2⟩
          case measure => simp [intOf]; omega
        · have he : ((B.l.length : Int) == 0) = false := beq_false_of_ne (by omega)
          have HBN := Lib.hid hB0
          clear hB0
          go_wp2_with fail
          refine wp_region_held_drew (S := fun u => u.cell? ⟨tb, to_ + c, none⟩ = some (.int .i64 y) ∧ Below V.heap.size V u) (by kernel_rfl) s0 (fun hHeld => ?_)
          refine wpAnyH_take (i := 0) (v := ?vvC0) rfl (by kernel_rfl) (by kernel_rfl) (by kernel_rfl) (fun _ _ _ h => h) (Or.inl ⟨by rfl, ?hyC0⟩) (by assumption) ?restC0
          case hyC0 => (intro w hSw; (try dsimp only at hSw); (try simp only [List.getElem_toArray, List.getElem_cons_zero]); go_simp <;> with_reducible rfl)
          try simp only [Act.put, List.getElem_toArray, List.getElem_cons_zero, List.setIfInBounds_toArray, List.set_cons_zero, List.set_cons_succ]
          refine wpAnyH_take (i := 1) (v := ?vvC1) rfl (by kernel_rfl) (by kernel_rfl) (by kernel_rfl) (fun _ _ _ h => h) (Or.inl ⟨by rfl, ?hyC1⟩) (by assumption) ?restC1
          case hyC1 => (intro w hSw; (try dsimp only at hSw); (try simp only [List.getElem_toArray, List.getElem_cons_zero, List.getElem_cons_succ]); go_simp <;> with_reducible rfl)
          try simp only [Act.put, List.getElem_toArray, List.getElem_cons_zero, List.getElem_cons_succ, List.setIfInBounds_toArray, List.set_cons_zero, List.set_cons_succ]
          refine wpAnyH_take (i := 3) (v := ?vvC3) rfl (by kernel_rfl) (by kernel_rfl) (by kernel_rfl) (fun _ _ _ h => h) (Or.inl ⟨by rfl, ?hyC3⟩) (by assumption) ?restC3
          case hyC3 => (intro w hSw; (try dsimp only at hSw); (try simp only [List.getElem_toArray, List.getElem_cons_zero, List.getElem_cons_succ]); go_simp <;> with_reducible rfl)
          try simp only [Act.put, List.getElem_toArray, List.getElem_cons_zero, List.getElem_cons_succ, List.setIfInBounds_toArray, List.set_cons_zero, List.set_cons_succ]
          refine wpAnyH_take (i := 4) (v := ?vvC4) rfl (by kernel_rfl) (by kernel_rfl) (by kernel_rfl) (fun _ _ _ h => h) (Or.inl ⟨by rfl, ?hyC4⟩) (by assumption) ?restC4
          case hyC4 => (intro w hSw; (try dsimp only at hSw); (try simp only [List.getElem_toArray, List.getElem_cons_zero, List.getElem_cons_succ]); go_simp <;> with_reducible rfl)
          try simp only [Act.put, List.getElem_toArray, List.getElem_cons_zero, List.getElem_cons_succ, List.setIfInBounds_toArray, List.set_cons_zero, List.set_cons_succ]
          refine wpAnyH_take (i := 5) (v := ?vvC5) rfl (by kernel_rfl) (by kernel_rfl) (by kernel_rfl) (fun _ _ _ h => h) (Or.inl ⟨by rfl, ?hyC5⟩) (by assumption) ?restC5
          case hyC5 => (intro w hSw; (try dsimp only at hSw); (try simp only [List.getElem_toArray, List.getElem_cons_zero, List.getElem_cons_succ]); go_simp <;> with_reducible rfl)
          try simp only [Act.put, List.getElem_toArray, List.getElem_cons_zero, List.getElem_cons_succ, List.setIfInBounds_toArray, List.set_cons_zero, List.set_cons_succ]
          refine wpAnyH_take (i := 6) (v := ?vvC6) rfl (by kernel_rfl) (by kernel_rfl) (by kernel_rfl) (fun _ _ _ h => h) (Or.inl ⟨by rfl, ?hyC6⟩) (by assumption) ?restC6
          case hyC6 => (intro w hSw; (try dsimp only at hSw); (try simp only [List.getElem_toArray, List.getElem_cons_zero, List.getElem_cons_succ]); go_simp <;> with_reducible rfl)
          try simp only [Act.put, List.getElem_toArray, List.getElem_cons_zero, List.getElem_cons_succ, List.setIfInBounds_toArray, List.set_cons_zero, List.set_cons_succ]
          refine wpAnyH_ready (rs := [2]) (by kernel_rfl) (by simp) ?_
          refine AllReadyH.cons rfl (fun K hK => ?_) AllReadyH.nil
          try simp only [List.getElem_toArray, List.getElem_cons_zero, List.getElem_cons_succ]
          go_simp
          go_at_call 51
          refine (show Calls _ _ _ _ _ from C2.out _ (by first | assumption | exact And.right (by assumption))).mono ?_
          rintro e u1 ⟨rfl, hb1⟩
          have hB1 := keep_reg HS.out (by first | assumption | exact And.right (by assumption)) hb1
          go_wp2_with fail
          refine hK.out _ _ hB1 (fun hHeld1 => ?_)
          clear hK
          try simp only [Act.put, List.getElem_toArray, List.getElem_cons_zero, List.getElem_cons_succ, List.setIfInBounds_toArray, List.set_cons_zero, List.set_cons_succ]
          refine wpAnyH_take (i := 7) (v := ?vvC7) rfl (by kernel_rfl) (by kernel_rfl) (by kernel_rfl) (fun _ _ _ h => h) (Or.inl ⟨by rfl, ?hyC7⟩) (by assumption) ?restC7
          case hyC7 => (intro w hSw; (try dsimp only at hSw); (try simp only [List.getElem_toArray, List.getElem_cons_zero, List.getElem_cons_succ]); go_simp <;> with_reducible rfl)
          try simp only [Act.put, List.getElem_toArray, List.getElem_cons_zero, List.getElem_cons_succ, List.setIfInBounds_toArray, List.set_cons_zero, List.set_cons_succ]
          refine wpAnyH_take (i := 8) (v := ?vvC8) rfl (by kernel_rfl) (by kernel_rfl) (by kernel_rfl) (fun _ _ _ h => h) (Or.inl ⟨by rfl, ?hyC8⟩) (by assumption) ?restC8
          case hyC8 => (intro w hSw; (try dsimp only at hSw); (try simp only [List.getElem_toArray, List.getElem_cons_zero, List.getElem_cons_succ]); go_simp <;> with_reducible rfl)
          try simp only [Act.put, List.getElem_toArray, List.getElem_cons_zero, List.getElem_cons_succ, List.setIfInBounds_toArray, List.set_cons_zero, List.set_cons_succ]
          refine wpAnyH_take (i := 9) (v := ?vvC9) rfl (by kernel_rfl) (by kernel_rfl) (by kernel_rfl) (fun _ _ _ h => h) (Or.inl ⟨by rfl, ?hyC9⟩) (by assumption) ?restC9
          case hyC9 => (intro w hSw; (try dsimp only at hSw); (try simp only [List.getElem_toArray, List.getElem_cons_zero, List.getElem_cons_succ]); go_simp <;> with_reducible rfl)
          try simp only [Act.put, List.getElem_toArray, List.getElem_cons_zero, List.getElem_cons_succ, List.setIfInBounds_toArray, List.set_cons_zero, List.set_cons_succ]
          refine wpAnyH_take (i := 10) (v := ?vvC10) rfl (by kernel_rfl) (by kernel_rfl) (by kernel_rfl) (fun _ _ _ h => h) (Or.inl ⟨by rfl, ?hyC10⟩) (by assumption) ?restC10
          case hyC10 => (intro w hSw; (try dsimp only at hSw); (try simp only [List.getElem_toArray, List.getElem_cons_zero, List.getElem_cons_succ]); go_simp <;> with_reducible rfl)
          try simp only [Act.put, List.getElem_toArray, List.getElem_cons_zero, List.getElem_cons_succ, List.setIfInBounds_toArray, List.set_cons_zero, List.set_cons_succ]
          refine wpAnyH_take (i := 11) (v := ?vvC11) rfl (by kernel_rfl) (by kernel_rfl) (by kernel_rfl) (fun _ _ _ h => h) (Or.inl ⟨by rfl, ?hyC11⟩) (by assumption) ?restC11
          case hyC11 => (intro w hSw; (try dsimp only at hSw); (try simp only [List.getElem_toArray, List.getElem_cons_zero, List.getElem_cons_succ]); go_simp <;> with_reducible rfl)
          try simp only [Act.put, List.getElem_toArray, List.getElem_cons_zero, List.getElem_cons_succ, List.setIfInBounds_toArray, List.set_cons_zero, List.set_cons_succ]
          refine wpAnyH_take (i := 12) (v := ?vvC12) rfl (by kernel_rfl) (by kernel_rfl) (by kernel_rfl) (fun _ _ _ h => h) (Or.inl ⟨by rfl, ?hyC12⟩) (by assumption) ?restC12
          case hyC12 => (intro w hSw; (try dsimp only at hSw); (try simp only [List.getElem_toArray, List.getElem_cons_zero, List.getElem_cons_succ]); go_simp <;> with_reducible rfl)
          try simp only [Act.put, List.getElem_toArray, List.getElem_cons_zero, List.getElem_cons_succ, List.setIfInBounds_toArray, List.set_cons_zero, List.set_cons_succ]
          refine wpAnyH_take (i := 13) (v := ?vvC13) rfl (by kernel_rfl) (by kernel_rfl) (by kernel_rfl) (fun _ _ _ h => h) (Or.inl ⟨by rfl, ?hyC13⟩) (by assumption) ?restC13
          case hyC13 => (intro w hSw; (try dsimp only at hSw); (try simp only [List.getElem_toArray, List.getElem_cons_zero, List.getElem_cons_succ]); go_simp <;> with_reducible rfl)
          try simp only [Act.put, List.getElem_toArray, List.getElem_cons_zero, List.getElem_cons_succ, List.setIfInBounds_toArray, List.set_cons_zero, List.set_cons_succ]
          refine wpAnyH_take (i := 14) (v := ?vvC14) rfl (by kernel_rfl) (by kernel_rfl) (by kernel_rfl) (fun _ _ _ h => h) (Or.inl ⟨by rfl, ?hyC14⟩) (by assumption) ?restC14
          case hyC14 => (intro w hSw; (try dsimp only at hSw); (try simp only [List.getElem_toArray, List.getElem_cons_zero, List.getElem_cons_succ]); go_simp <;> with_reducible rfl)
          try simp only [Act.put, List.getElem_toArray, List.getElem_cons_zero, List.getElem_cons_succ, List.setIfInBounds_toArray, List.set_cons_zero, List.set_cons_succ]
          refine wpAnyH_ready (rs := [15]) (by kernel_rfl) (by simp) ?_
          refine AllReadyH.cons rfl (fun K hK => ?_) AllReadyH.nil
          try simp only [List.getElem_toArray, List.getElem_cons_zero, List.getElem_cons_succ]
          go_simp
          go_at_call 72
          refine (show Calls _ _ _ _ _ from C3.out _ (by first | assumption | exact And.right (by assumption))).mono ?_
          rintro e u2 ⟨rfl, hb2⟩
          have hB2 := keep_reg HS.out (by first | assumption | exact And.right (by assumption)) hb2
          go_wp2_with fail
          refine hK.out _ _ hB2 (fun hHeld2 => ?_)
          clear hK
          try simp only [Act.put, List.getElem_toArray, List.getElem_cons_zero, List.getElem_cons_succ, List.setIfInBounds_toArray, List.set_cons_zero, List.set_cons_succ]
          refine wpAnyH_take (i := 16) (v := ?vvC16) rfl (by kernel_rfl) (by kernel_rfl) (by kernel_rfl) (fun _ _ _ h => h) (Or.inl ⟨by rfl, ?hyC16⟩) (by assumption) ?restC16
          case hyC16 => (intro w hSw; (try dsimp only at hSw); (try simp only [List.getElem_toArray, List.getElem_cons_zero, List.getElem_cons_succ]); go_simp <;> with_reducible rfl)
          try simp only [Act.put, List.getElem_toArray, List.getElem_cons_zero, List.getElem_cons_succ, List.setIfInBounds_toArray, List.set_cons_zero, List.set_cons_succ]
          refine wpAnyH_take (i := 17) (v := ?vvC17) rfl (by kernel_rfl) (by kernel_rfl) (by kernel_rfl) (fun _ _ _ h => h) (Or.inl ⟨by rfl, ?hyC17⟩) (by assumption) ?restC17
          case hyC17 => (intro w hSw; (try dsimp only at hSw); (try simp only [List.getElem_toArray, List.getElem_cons_zero, List.getElem_cons_succ]); go_simp <;> with_reducible rfl)
          try simp only [Act.put, List.getElem_toArray, List.getElem_cons_zero, List.getElem_cons_succ, List.setIfInBounds_toArray, List.set_cons_zero, List.set_cons_succ]
          refine wpAnyH_done (by kernel_rfl) ?_ _
          refine at_exit (W := V) (by first | assumption | exact And.right (by assumption)) ?_
          intro W8 hb8
          have HF8 := Lib.hid (FIN.out W8 hb8)
          have HG8 : Hid (Hid (B.l = up U ∧ U.length ≤ 7 ∧ B.At W8) ∧ Hid (decide (B.l.length = 0) = !overTo F s.l (c + 1))) := Lib.hid ⟨Lib.hid ⟨HBL.out.1, HBL.out.2.1, HBV1.out.on hb8⟩, Lib.hid (by rw [HOV.out, decide_eq_false HBN.out]; rfl)⟩
          clear s0 hb8 hHeld hHeld1 hHeld2 hB1 hb1 hB2 hb2
          cases bf with
          | true =>
            go_wp2
            go_roundw
            case rel => exact ⟨c + 1, z, bitsT m c, by omega, by omega, by go_num, rfl, HF8.out.1, HF8.out.2.1, HF8.out.2.2⟩
            case measure => simp [intOf]; omega
          | false =>
            go_wp2
            go_roundw
            case rel => exact ⟨c + 1, B, U, by omega, by omega, by go_num, rfl, HG8.out.1, HG8.out.2, HF8.out.2.2⟩
            case measure => simp [intOf]; omega
      · have HOV : Hid (overTo F s.l (c + 1) = overTo F s.l c) := Lib.hid (by rw [HST.out, decide_eq_false (show ¬ 0 < r - y by omega), Bool.or_false])
        have hd : decide (y < r) = false := decide_eq_false hry
        clear hry
        go_wp2_with fail
        refine wp_region_held_drew (S := fun u => u.cell? ⟨tb, to_ + c, none⟩ = some (.int .i64 y) ∧ Below V.heap.size V u) (by kernel_rfl) s0 (fun hHeld => ?_)
        refine wpAnyH_take (i := 0) (v := ?vvA0) rfl (by kernel_rfl) (by kernel_rfl) (by kernel_rfl) (fun _ _ _ h => h) (Or.inl ⟨by rfl, ?hyA0⟩) (by assumption) ?restA0
        case hyA0 => (intro w hSw; (try dsimp only at hSw); (try simp only [List.getElem_toArray, List.getElem_cons_zero]); go_simp <;> with_reducible rfl)
        try simp only [Act.put, List.getElem_toArray, List.getElem_cons_zero, List.setIfInBounds_toArray, List.set_cons_zero, List.set_cons_succ]
        refine wpAnyH_take (i := 1) (v := ?vvA1) rfl (by kernel_rfl) (by kernel_rfl) (by kernel_rfl) (fun _ _ _ h => h) (Or.inl ⟨by rfl, ?hyA1⟩) (by assumption) ?restA1
        case hyA1 => (intro w hSw; (try dsimp only at hSw); (try simp only [List.getElem_toArray, List.getElem_cons_zero, List.getElem_cons_succ]); go_simp <;> with_reducible rfl)
        try simp only [Act.put, List.getElem_toArray, List.getElem_cons_zero, List.getElem_cons_succ, List.setIfInBounds_toArray, List.set_cons_zero, List.set_cons_succ]
        refine wpAnyH_take (i := 3) (v := ?vvA3) rfl (by kernel_rfl) (by kernel_rfl) (by kernel_rfl) (fun _ _ _ h => h) (Or.inl ⟨by rfl, ?hyA3⟩) (by assumption) ?restA3
        case hyA3 => (intro w hSw; (try dsimp only at hSw); (try simp only [List.getElem_toArray, List.getElem_cons_zero, List.getElem_cons_succ]); go_simp <;> with_reducible rfl)
        try simp only [Act.put, List.getElem_toArray, List.getElem_cons_zero, List.getElem_cons_succ, List.setIfInBounds_toArray, List.set_cons_zero, List.set_cons_succ]
        refine wpAnyH_take (i := 4) (v := ?vvA4) rfl (by kernel_rfl) (by kernel_rfl) (by kernel_rfl) (fun _ _ _ h => h) (Or.inl ⟨by rfl, ?hyA4⟩) (by assumption) ?restA4
        case hyA4 => (intro w hSw; (try dsimp only at hSw); (try simp only [List.getElem_toArray, List.getElem_cons_zero, List.getElem_cons_succ]); go_simp <;> with_reducible rfl)
        try simp only [Act.put, List.getElem_toArray, List.getElem_cons_zero, List.getElem_cons_succ, List.setIfInBounds_toArray, List.set_cons_zero, List.set_cons_succ]
        refine wpAnyH_take (i := 5) (v := ?vvA5) rfl (by kernel_rfl) (by kernel_rfl) (by kernel_rfl) (fun _ _ _ h => h) (Or.inl ⟨by rfl, ?hyA5⟩) (by assumption) ?restA5
        case hyA5 => (intro w hSw; (try dsimp only at hSw); (try simp only [List.getElem_toArray, List.getElem_cons_zero, List.getElem_cons_succ]); go_simp <;> with_reducible rfl)
        try simp only [Act.put, List.getElem_toArray, List.getElem_cons_zero, List.getElem_cons_succ, List.setIfInBounds_toArray, List.set_cons_zero, List.set_cons_succ]
        refine wpAnyH_take (i := 6) (v := ?vvA6) rfl (by kernel_rfl) (by kernel_rfl) (by kernel_rfl) (fun _ _ _ h => h) (Or.inl ⟨by rfl, ?hyA6⟩) (by assumption) ?restA6
        case hyA6 => (intro w hSw; (try dsimp only at hSw); (try simp only [List.getElem_toArray, List.getElem_cons_zero, List.getElem_cons_succ]); go_simp <;> with_reducible rfl)
        try simp only [Act.put, List.getElem_toArray, List.getElem_cons_zero, List.getElem_cons_succ, List.setIfInBounds_toArray, List.set_cons_zero, List.set_cons_succ]
        refine wpAnyH_ready (rs := [2]) (by kernel_rfl) (by simp) ?_
        refine AllReadyH.cons rfl (fun K hK => ?_) AllReadyH.nil
        try simp only [List.getElem_toArray, List.getElem_cons_zero, List.getElem_cons_succ]
        go_simp
        go_at_call 51
        refine (show Calls _ _ _ _ _ from C2.out _ (by first | assumption | exact And.right (by assumption))).mono ?_
        rintro e u1 ⟨rfl, hb1⟩
        have hB1 := keep_reg HS.out (by first | assumption | exact And.right (by assumption)) hb1
        go_wp2_with fail
        refine hK.out _ _ hB1 (fun hHeld1 => ?_)
        clear hK
        try simp only [Act.put, List.getElem_toArray, List.getElem_cons_zero, List.getElem_cons_succ, List.setIfInBounds_toArray, List.set_cons_zero, List.set_cons_succ]
        refine wpAnyH_take (i := 7) (v := ?vvA7) rfl (by kernel_rfl) (by kernel_rfl) (by kernel_rfl) (fun _ _ _ h => h) (Or.inl ⟨by rfl, ?hyA7⟩) (by assumption) ?restA7
        case hyA7 => (intro w hSw; (try dsimp only at hSw); (try simp only [List.getElem_toArray, List.getElem_cons_zero, List.getElem_cons_succ]); go_simp <;> with_reducible rfl)
        try simp only [Act.put, List.getElem_toArray, List.getElem_cons_zero, List.getElem_cons_succ, List.setIfInBounds_toArray, List.set_cons_zero, List.set_cons_succ]
        refine wpAnyH_take (i := 8) (v := ?vvA8) rfl (by kernel_rfl) (by kernel_rfl) (by kernel_rfl) (fun _ _ _ h => h) (Or.inl ⟨by rfl, ?hyA8⟩) (by assumption) ?restA8
        case hyA8 => (intro w hSw; (try dsimp only at hSw); (try simp only [List.getElem_toArray, List.getElem_cons_zero, List.getElem_cons_succ]); go_simp <;> with_reducible rfl)
        try simp only [Act.put, List.getElem_toArray, List.getElem_cons_zero, List.getElem_cons_succ, List.setIfInBounds_toArray, List.set_cons_zero, List.set_cons_succ]
        refine wpAnyH_take (i := 9) (v := undef) rfl (by kernel_rfl) (by kernel_rfl) (by kernel_rfl) (fun _ _ _ h => h) (Or.inr ⟨by rfl, rfl⟩) (by assumption) ?_
        try simp only [Act.put, List.getElem_toArray, List.getElem_cons_zero, List.getElem_cons_succ, List.setIfInBounds_toArray, List.set_cons_zero, List.set_cons_succ]
        refine wpAnyH_take (i := 10) (v := undef) rfl (by kernel_rfl) (by kernel_rfl) (by kernel_rfl) (fun _ _ _ h => h) (Or.inr ⟨by rfl, rfl⟩) (by assumption) ?_
        try simp only [Act.put, List.getElem_toArray, List.getElem_cons_zero, List.getElem_cons_succ, List.setIfInBounds_toArray, List.set_cons_zero, List.set_cons_succ]
        refine wpAnyH_take (i := 11) (v := undef) rfl (by kernel_rfl) (by kernel_rfl) (by kernel_rfl) (fun _ _ _ h => h) (Or.inr ⟨by rfl, rfl⟩) (by assumption) ?_
        try simp only [Act.put, List.getElem_toArray, List.getElem_cons_zero, List.getElem_cons_succ, List.setIfInBounds_toArray, List.set_cons_zero, List.set_cons_succ]
        refine wpAnyH_take (i := 12) (v := undef) rfl (by kernel_rfl) (by kernel_rfl) (by kernel_rfl) (fun _ _ _ h => h) (Or.inr ⟨by rfl, rfl⟩) (by assumption) ?_
        try simp only [Act.put, List.getElem_toArray, List.getElem_cons_zero, List.getElem_cons_succ, List.setIfInBounds_toArray, List.set_cons_zero, List.set_cons_succ]
        refine wpAnyH_take (i := 13) (v := undef) rfl (by kernel_rfl) (by kernel_rfl) (by kernel_rfl) (fun _ _ _ h => h) (Or.inr ⟨by rfl, rfl⟩) (by assumption) ?_
        try simp only [Act.put, List.getElem_toArray, List.getElem_cons_zero, List.getElem_cons_succ, List.setIfInBounds_toArray, List.set_cons_zero, List.set_cons_succ]
        refine wpAnyH_take (i := 14) (v := undef) rfl (by kernel_rfl) (by kernel_rfl) (by kernel_rfl) (fun _ _ _ h => h) (Or.inr ⟨by rfl, rfl⟩) (by assumption) ?_
        try simp only [Act.put, List.getElem_toArray, List.getElem_cons_zero, List.getElem_cons_succ, List.setIfInBounds_toArray, List.set_cons_zero, List.set_cons_succ]
        refine wpAnyH_take (i := 15) (v := undef) rfl (by kernel_rfl) (by kernel_rfl) (by kernel_rfl) (fun _ _ _ h => h) (Or.inr ⟨by rfl, rfl⟩) (by assumption) ?_
        try simp only [Act.put, List.getElem_toArray, List.getElem_cons_zero, List.getElem_cons_succ, List.setIfInBounds_toArray, List.set_cons_zero, List.set_cons_succ]
        refine wpAnyH_take (i := 16) (v := undef) rfl (by kernel_rfl) (by kernel_rfl) (by kernel_rfl) (fun _ _ _ h => h) (Or.inr ⟨by rfl, rfl⟩) (by assumption) ?_
        try simp only [Act.put, List.getElem_toArray, List.getElem_cons_zero, List.getElem_cons_succ, List.setIfInBounds_toArray, List.set_cons_zero, List.set_cons_succ]
        refine wpAnyH_take (i := 17) (v := ?vvA17) rfl (by kernel_rfl) (by kernel_rfl) (by kernel_rfl) (fun _ _ _ h => h) (Or.inl ⟨by rfl, ?hyA17⟩) (by assumption) ?restA17
        case hyA17 => (intro w hSw; (try dsimp only at hSw); (try simp only [List.getElem_toArray, List.getElem_cons_zero, List.getElem_cons_succ]); go_simp <;> with_reducible rfl)
        try simp only [Act.put, List.getElem_toArray, List.getElem_cons_zero, List.getElem_cons_succ, List.setIfInBounds_toArray, List.set_cons_zero, List.set_cons_succ]
        refine wpAnyH_done (by kernel_rfl) ?_ _
        refine at_exit (W := V) (by first | assumption | exact And.right (by assumption)) ?_
        intro W8 hb8
        have HG8 : Hid (Hid (B.l = up U ∧ U.length ≤ 7 ∧ B.At W8) ∧ Hid (decide (B.l.length = 0) = !overTo F s.l (c + 1)) ∧ Below W2.heap.size W2 W8) := Lib.hid ⟨Lib.hid ⟨HBL.out.1, HBL.out.2.1, HBV1.out.on hb8⟩, Lib.hid (by rw [HOV.out]; exact HBE.out), HBV.out.trans (hb8.mono HBV.out.size)⟩
        clear s0 hb8 hHeld hHeld1 hB1 hb1
        go_wp2
        go_roundw
        case rel => exact ⟨c + 1, B, U, by omega, by omega, by go_num, rfl, HG8.out.1, HG8.out.2.1, HG8.out.2.2⟩
        case measure => simp [intOf]; omega
    · obtain rfl : c = N := by omega
      have HEND : Hid (Below w.heap.size w wr ∧ decide (B.l.length = 0) = !overTo F s.l (2 ^ F.t.R.length)) := Lib.hid ⟨HBW2.out.trans (hnx.mono hszW), by rw [HBE.out, HN.out, HM.out]⟩
      clear hnx
      go_wp2
      go_ret
      exact ⟨B, rfl, HEND.out.2, HEND.out.1⟩
end Go.Proofs.Ytfplcgakpildmaa

namespace Go.Proofs.Ytfplcgakpildmaa
open Go.RowKit

set_option maxRecDepth 32000 in
set_option maxHeartbeats 2000000 in
theorem specCore_any (F : Fld) (s : Row) (w : World) (hF : F.At w) (hs : s.At w) (v b : Bool) (hv : CoreIs F s.l v b) :
    Calls Try.prog 22 #[.agg #[.slice F.o.a F.o.l.length F.o.c, .slice F.t.a F.t.R.length F.t.c], .slice s.a s.l.length s.c] w (PBool2 v b w) := by
  obtain ⟨wA, hA, hbA, bx, hFA, hszA⟩ := laid_fld F w 29 hF
  have HFA := Lib.hid hFA
  have HSA := Lib.hid (hs.on hbA)
  have HBX : Hid (Box2 wA w.heap.size (.slice F.o.a F.o.l.length F.o.c) (.slice F.t.a F.t.R.length F.t.c) 29) := Lib.hid bx
  have HA : Hid (wA = w.alloc (Obj.cells #[.slice F.o.a F.o.l.length F.o.c, .slice F.t.a F.t.R.length F.t.c] 29)) := Lib.hid hA
  have HBA := Lib.hid hbA
  have CT := l9Shares_any F s wA hFA (hs.on hbA)
  have x0 := HBX.out.c0
  have x1 := HBX.out.c1
  rw [HA.out] at x0 x1
  have HSZ := Lib.hid hszA
  show Calls _ _ _ w fun e w' => e = .returned (.tuple #[.bool v, .bool b]) ∧ Below w.heap.size w w'
  rcases hv with ⟨hq, rfl, rfl⟩ | ⟨hq, hvv, rfl⟩
  · rw [hq] at CT
    have CT1 := Lib.hid CT
    clear hF hs hA hbA bx hFA hszA CT hq
    go_enter Try.func22, Try.ntmps22
    go_wp2_with fail
    rw [← HA.out]
    refine (show Calls _ _ _ _ _ from CT1.out).mono ?_
    rintro e W1 ⟨rfl, hb1⟩
    have HBW1 := Lib.hid (HBA.out.trans (hb1.mono HBA.out.size))
    clear hb1 x0 x1
    go_wp2
    go_ret2
    exact ⟨rfl, HBW1.out⟩
  · rw [hq] at CT
    have CT1 := Lib.hid CT
    obtain ⟨hg, hpl, hpb⟩ := sharesB_iff.1 hq
    have hm7 := (good_sizes hg).2.2
    obtain ⟨N, hN⟩ : ∃ N, N = 2 ^ F.t.R.length := ⟨_, rfl⟩
    have hN7 : N ≤ 128 := by rw [hN]; exact pow_le128 hm7
    have hN0 : 0 < N := by rw [hN]; exact Nat.pos_of_ne_zero (by simp)
    obtain ⟨M, hM⟩ : ∃ M, M = N - 1 := ⟨_, rfl⟩
    obtain ⟨x, hx⟩ : ∃ x, x = s.l.sum := ⟨_, rfl⟩
    obtain ⟨y, hy⟩ : ∃ y, y = costC F M := ⟨_, rfl⟩
    have HVX : Hid (v = ((x == y) && !overTo F s.l N)) := Lib.hid (by
      rw [hvv, coreB, ← hN]
      congr 1
      have h1 : excess F s.l (N - 1) = x - y := by
        unfold excess
        rw [hx, hy, hM, hN, subS_full (by omega) hpl]
      rw [h1]
      by_cases h2 : x = y
      · rw [h2, Int.sub_self]; simp
      · rw [beq_false_of_ne h2, beq_false_of_ne (by omega)])
    have hw1 : IntKind.i64.wrap ((N : Int) - 1) = (M : Int) := by rw [show (N : Int) - 1 = (M : Int) by omega]; exact IntWalk.i64_in _ (by omega)
    have hji : (N : Int) - 1 = (M : Int) := by omega
    have hw2 : IntKind.i64.wrap (M : Int) = (M : Int) := IntWalk.i64_in _ (by omega)
    have hMN : (M : Int) < (N : Int) := by omega
    have hNi : (N : Int) ≤ 128 := by omega
    have HG := Lib.hid hg
    have HPB := Lib.hid hpb
    have HPL := Lib.hid hpl
    have HN := Lib.hid hN
    have HX := Lib.hid hx
    have HY := Lib.hid hy
    have HQ := Lib.hid hq
    have HMN : Hid (M < N) := Lib.hid (by omega)
    have HM7 := Lib.hid hm7
    clear hF hs hA hbA bx hFA hszA CT hq hg hpl hpb hm7 hN hx hy hvv hM hN0
    go_enter Try.func22, Try.ntmps22
    go_wp2_with fail
    rw [← HA.out]
    refine (show Calls _ _ _ _ _ from CT1.out).mono ?_
    rintro e W1 ⟨rfl, hb1⟩
    have HB1 := Lib.hid hb1
    have HBW1 := Lib.hid (HBA.out.trans (hb1.mono HBA.out.size))
    have CC := Lib.hid (l9Table_any F W1 (HFA.out.on HB1.out) HG.out)
    have y0 := (HBX.out.on HB1.out).c0
    have y1 := (HBX.out.on HB1.out).c1
    clear hb1 x0 x1
    go_wp2_with fail
    refine (show Calls _ _ _ _ _ from CC.out).mono ?_
    rintro e W2 ⟨t, rfl, htl, -, hti, hb2⟩
    have htn : t.l.length = N := by rw [htl, costs_len, HN.out]
    have HB2 := Lib.hid (HB1.out.trans (hb2.mono HB1.out.size))
    have HBW2 := Lib.hid (HBA.out.trans (HB2.out.mono HBA.out.size))
    obtain ⟨tb, to_, hta, htb, htc⟩ : ∃ b o, t.a = some ⟨b, o, none⟩ ∧ b < W2.heap.size ∧ W2.cell? ⟨b, o + M, none⟩ = some (.int .i64 y) := by
      have hMN' := HMN.out
      rcases hti.2.2 with h3 | ⟨b, o, e, _, _, h6, h7⟩
      · have := congrArg List.length (iv_nil h3); rw [List.length_nil, htn] at this; omega
      · exact ⟨b, o, e, h6, by rw [h7 M _ (iv_at (by rw [htn]; exact hMN')), ← getD_at (by rw [htn]; exact hMN'), htl, costs_at F (by rw [← HN.out]; exact hMN'), HY.out]⟩
    have HS : Hid (∀ u, Below W2.heap.size W2 u → ((u.cell? ⟨w.heap.size, 0, none⟩ = some (.slice F.o.a F.o.l.length F.o.c) ∧ u.cell? ⟨w.heap.size, 1, none⟩ = some (.slice F.t.a F.t.R.length F.t.c) ∧ u.cell? ⟨tb, to_ + M, none⟩ = some (.int .i64 y)) ∧ Below W2.heap.size W2 u)) := Lib.hid fun u hu => ⟨⟨((HBX.out.on HB2.out).on hu).c0, ((HBX.out.on HB2.out).on hu).c1, (hu.cell (p := ⟨tb, to_ + M, none⟩) htb).trans htc⟩, hu⟩
    have C1 := Lib.hid (fun u (hu : Below W2.heap.size W2 u) => by
      have := (l3SumS_any s u ((HSA.out.on HB2.out).on hu) HPB.out (by rw [HPL.out]; exact HM7.out)).mono (fun e w' (h : e = _ ∧ w' = u) => (⟨h.1, by rw [h.2]; exact Below.refl _ _⟩ : e = .returned (.int .i64 s.l.sum) ∧ Below u.heap.size u w'))
      rw [← HX.out] at this; exact this)
    have C2 := Lib.hid (fun u (hu : Below W2.heap.size W2 u) => by
      have := l9Over_any F s u ((HFA.out.on HB2.out).on hu) ((HSA.out.on HB2.out).on hu) HQ.out
      rw [← HN.out] at this; exact this)
    have s0 := HS.out W2.drew (Below.refl _ _).drew
    obtain ⟨ov, hov⟩ : ∃ z, z = overTo F s.l N := ⟨_, rfl⟩
    rw [← hov] at C2 HVX
    have HBE : Hid (∀ u, Below W2.heap.size W2 u → Below w.heap.size w u) := Lib.hid fun u hu => HBW2.out.trans (hu.mono HBW2.out.size)
    rw [htn, hta]
    clear htl hti hb2 htn hta htb htc y0 y1 hov
    by_cases hxy : x = y
    · have he : (x == y) = true := by rw [hxy]; simp
      have HE := Lib.hid he
      clear hxy
      go_wp2_with fail
      refine wp_region_held_drew (S := fun u => (u.cell? ⟨w.heap.size, 0, none⟩ = some (.slice F.o.a F.o.l.length F.o.c) ∧ u.cell? ⟨w.heap.size, 1, none⟩ = some (.slice F.t.a F.t.R.length F.t.c) ∧ u.cell? ⟨tb, to_ + M, none⟩ = some (.int .i64 y)) ∧ Below W2.heap.size W2 u) (by kernel_rfl) s0 (fun hHeld => ?_)
      refine wpAnyH_take (i := 0) (v := ?vvB0) rfl (by kernel_rfl) (by kernel_rfl) (by kernel_rfl) (fun _ _ _ h => h) (Or.inl ⟨by rfl, ?hyB0⟩) (by assumption) ?restB0
      case hyB0 => (intro w hSw; (try dsimp only at hSw); (try simp only [List.getElem_toArray, List.getElem_cons_zero]); go_simp <;> with_reducible rfl)
      try simp only [Act.put, List.getElem_toArray, List.getElem_cons_zero, List.setIfInBounds_toArray, List.set_cons_zero, List.set_cons_succ]
      refine wpAnyH_take (i := 2) (v := ?vvB2) rfl (by kernel_rfl) (by kernel_rfl) (by kernel_rfl) (fun _ _ _ h => h) (Or.inl ⟨by rfl, ?hyB2⟩) (by assumption) ?restB2
      case hyB2 => (intro w hSw; (try dsimp only at hSw); (try simp only [List.getElem_toArray, List.getElem_cons_zero, List.getElem_cons_succ]); go_simp <;> with_reducible rfl)
      try simp only [Act.put, List.getElem_toArray, List.getElem_cons_zero, List.getElem_cons_succ, List.setIfInBounds_toArray, List.set_cons_zero, List.set_cons_succ]
      refine wpAnyH_take (i := 3) (v := ?vvB3) rfl (by kernel_rfl) (by kernel_rfl) (by kernel_rfl) (fun _ _ _ h => h) (Or.inl ⟨by rfl, ?hyB3⟩) (by assumption) ?restB3
      case hyB3 => (intro w hSw; (try dsimp only at hSw); (try simp only [List.getElem_toArray, List.getElem_cons_zero, List.getElem_cons_succ]); go_simp <;> with_reducible rfl)
      try simp only [Act.put, List.getElem_toArray, List.getElem_cons_zero, List.getElem_cons_succ, List.setIfInBounds_toArray, List.set_cons_zero, List.set_cons_succ]
      refine wpAnyH_take (i := 4) (v := ?vvB4) rfl (by kernel_rfl) (by kernel_rfl) (by kernel_rfl) (fun _ _ _ h => h) (Or.inl ⟨by rfl, ?hyB4⟩) (by assumption) ?restB4
      case hyB4 => (intro w hSw; (try dsimp only at hSw); (try simp only [List.getElem_toArray, List.getElem_cons_zero, List.getElem_cons_succ]); go_simp <;> with_reducible rfl)
      try simp only [Act.put, List.getElem_toArray, List.getElem_cons_zero, List.getElem_cons_succ, List.setIfInBounds_toArray, List.set_cons_zero, List.set_cons_succ]
      refine wpAnyH_take (i := 5) (v := ?vvB5) rfl (by kernel_rfl) (by kernel_rfl) (by kernel_rfl) (fun _ _ _ h => h) (Or.inl ⟨by rfl, ?hyB5⟩) (by assumption) ?restB5
      case hyB5 => (intro w hSw; (try dsimp only at hSw); (try simp only [List.getElem_toArray, List.getElem_cons_zero, List.getElem_cons_succ]); go_simp <;> with_reducible rfl)
      try simp only [Act.put, List.getElem_toArray, List.getElem_cons_zero, List.getElem_cons_succ, List.setIfInBounds_toArray, List.set_cons_zero, List.set_cons_succ]
      refine wpAnyH_take (i := 6) (v := ?vvB6) rfl (by kernel_rfl) (by kernel_rfl) (by kernel_rfl) (fun _ _ _ h => h) (Or.inl ⟨by rfl, ?hyB6⟩) (by assumption) ?restB6
      case hyB6 => (intro w hSw; (try dsimp only at hSw); (try simp only [List.getElem_toArray, List.getElem_cons_zero, List.getElem_cons_succ]); go_simp <;> with_reducible rfl)
      try simp only [Act.put, List.getElem_toArray, List.getElem_cons_zero, List.getElem_cons_succ, List.setIfInBounds_toArray, List.set_cons_zero, List.set_cons_succ]
      refine wpAnyH_take (i := 7) (v := ?vvB7) rfl (by kernel_rfl) (by kernel_rfl) (by kernel_rfl) (fun _ _ _ h => h) (Or.inl ⟨by rfl, ?hyB7⟩) (by assumption) ?restB7
      case hyB7 => (intro w hSw; (try dsimp only at hSw); (try simp only [List.getElem_toArray, List.getElem_cons_zero, List.getElem_cons_succ]); go_simp <;> with_reducible rfl)
      try simp only [Act.put, List.getElem_toArray, List.getElem_cons_zero, List.getElem_cons_succ, List.setIfInBounds_toArray, List.set_cons_zero, List.set_cons_succ]
      refine wpAnyH_ready (rs := [1]) (by kernel_rfl) (by simp) ?_
      refine AllReadyH.cons rfl (fun K hK => ?_) AllReadyH.nil
      try simp only [List.getElem_toArray, List.getElem_cons_zero, List.getElem_cons_succ]
      go_simp
      go_at_call 46
      refine (show Calls _ _ _ _ _ from C1.out _ (by first | assumption | exact And.right (by assumption))).mono ?_
      rintro e u1 ⟨rfl, hb1⟩
      have hB1 := keep_reg HS.out (by first | assumption | exact And.right (by assumption)) hb1
      go_wp2_with fail
      refine hK.out _ _ hB1 (fun hHeld1 => ?_)
      clear hK
      try simp only [Act.put, List.getElem_toArray, List.getElem_cons_zero, List.getElem_cons_succ, List.setIfInBounds_toArray, List.set_cons_zero, List.set_cons_succ]
      refine wpAnyH_take (i := 8) (v := ?vvB8) rfl (by kernel_rfl) (by kernel_rfl) (by kernel_rfl) (fun _ _ _ h => h) (Or.inl ⟨by rfl, ?hyB8⟩) (by assumption) ?restB8
      case hyB8 => (intro w hSw; (try dsimp only at hSw); (try simp only [List.getElem_toArray, List.getElem_cons_zero, List.getElem_cons_succ]); go_simp <;> with_reducible rfl)
      try simp only [Act.put, List.getElem_toArray, List.getElem_cons_zero, List.getElem_cons_succ, List.setIfInBounds_toArray, List.set_cons_zero, List.set_cons_succ]
      refine wpAnyH_take (i := 9) (v := ?vvB9) rfl (by kernel_rfl) (by kernel_rfl) (by kernel_rfl) (fun _ _ _ h => h) (Or.inl ⟨by rfl, ?hyB9⟩) (by assumption) ?restB9
      case hyB9 => (intro w hSw; (try dsimp only at hSw); (try simp only [List.getElem_toArray, List.getElem_cons_zero, List.getElem_cons_succ]); go_simp <;> with_reducible rfl)
      try simp only [Act.put, List.getElem_toArray, List.getElem_cons_zero, List.getElem_cons_succ, List.setIfInBounds_toArray, List.set_cons_zero, List.set_cons_succ]
      refine wpAnyH_take (i := 10) (v := ?vvB10) rfl (by kernel_rfl) (by kernel_rfl) (by kernel_rfl) (fun _ _ _ h => h) (Or.inl ⟨by rfl, ?hyB10⟩) (by assumption) ?restB10
      case hyB10 => (intro w hSw; (try dsimp only at hSw); (try simp only [List.getElem_toArray, List.getElem_cons_zero, List.getElem_cons_succ]); go_simp <;> with_reducible rfl)
      try simp only [Act.put, List.getElem_toArray, List.getElem_cons_zero, List.getElem_cons_succ, List.setIfInBounds_toArray, List.set_cons_zero, List.set_cons_succ]
      refine wpAnyH_take (i := 11) (v := ?vvB11) rfl (by kernel_rfl) (by kernel_rfl) (by kernel_rfl) (fun _ _ _ h => h) (Or.inl ⟨by rfl, ?hyB11⟩) (by assumption) ?restB11
      case hyB11 => (intro w hSw; (try dsimp only at hSw); (try simp only [List.getElem_toArray, List.getElem_cons_zero, List.getElem_cons_succ]); go_simp <;> with_reducible rfl)
      try simp only [Act.put, List.getElem_toArray, List.getElem_cons_zero, List.getElem_cons_succ, List.setIfInBounds_toArray, List.set_cons_zero, List.set_cons_succ]
      refine wpAnyH_ready (rs := [12]) (by kernel_rfl) (by simp) ?_
      refine AllReadyH.cons rfl (fun K hK => ?_) AllReadyH.nil
      try simp only [List.getElem_toArray, List.getElem_cons_zero, List.getElem_cons_succ]
      go_simp
      go_at_call 47
      refine (show Calls _ _ _ _ _ from C2.out _ (by first | assumption | exact And.right (by assumption))).mono ?_
      rintro e u2 ⟨z, rfl, hzl, hb2⟩
      have HZL := Lib.hid hzl
      clear hzl
      have hB2 := keep_reg HS.out (by first | assumption | exact And.right (by assumption)) hb2
      go_wp2_with fail
      refine hK.out _ _ hB2 (fun hHeld2 => ?_)
      clear hK
      try simp only [Act.put, List.getElem_toArray, List.getElem_cons_zero, List.getElem_cons_succ, List.setIfInBounds_toArray, List.set_cons_zero, List.set_cons_succ]
      refine wpAnyH_take (i := 13) (v := ?vvB13) rfl (by kernel_rfl) (by kernel_rfl) (by kernel_rfl) (fun _ _ _ h => h) (Or.inl ⟨by rfl, ?hyB13⟩) (by assumption) ?restB13
      case hyB13 => (intro w hSw; (try dsimp only at hSw); (try simp only [List.getElem_toArray, List.getElem_cons_zero, List.getElem_cons_succ]); go_simp <;> with_reducible rfl)
      try simp only [Act.put, List.getElem_toArray, List.getElem_cons_zero, List.getElem_cons_succ, List.setIfInBounds_toArray, List.set_cons_zero, List.set_cons_succ]
      refine wpAnyH_take (i := 14) (v := ?vvB14) rfl (by kernel_rfl) (by kernel_rfl) (by kernel_rfl) (fun _ _ _ h => h) (Or.inl ⟨by rfl, ?hyB14⟩) (by assumption) ?restB14
      case hyB14 => (intro w hSw; (try dsimp only at hSw); (try simp only [List.getElem_toArray, List.getElem_cons_zero, List.getElem_cons_succ]); go_simp <;> with_reducible rfl)
      try simp only [Act.put, List.getElem_toArray, List.getElem_cons_zero, List.getElem_cons_succ, List.setIfInBounds_toArray, List.set_cons_zero, List.set_cons_succ]
      refine wpAnyH_take (i := 15) (v := ?vvB15) rfl (by kernel_rfl) (by kernel_rfl) (by kernel_rfl) (fun _ _ _ h => h) (Or.inl ⟨by rfl, ?hyB15⟩) (by assumption) ?restB15
      case hyB15 => (intro w hSw; (try dsimp only at hSw); (try simp only [List.getElem_toArray, List.getElem_cons_zero, List.getElem_cons_succ]); go_simp <;> with_reducible rfl)
      try simp only [Act.put, List.getElem_toArray, List.getElem_cons_zero, List.getElem_cons_succ, List.setIfInBounds_toArray, List.set_cons_zero, List.set_cons_succ]
      refine wpAnyH_take (i := 16) (v := ?vvB16) rfl (by kernel_rfl) (by kernel_rfl) (by kernel_rfl) (fun _ _ _ h => h) (Or.inl ⟨by rfl, ?hyB16⟩) (by assumption) ?restB16
      case hyB16 => (intro w hSw; (try dsimp only at hSw); (try simp only [List.getElem_toArray, List.getElem_cons_zero, List.getElem_cons_succ]); go_simp <;> with_reducible rfl)
      try simp only [Act.put, List.getElem_toArray, List.getElem_cons_zero, List.getElem_cons_succ, List.setIfInBounds_toArray, List.set_cons_zero, List.set_cons_succ]
      refine wpAnyH_take (i := 17) (v := ?vvB17) rfl (by kernel_rfl) (by kernel_rfl) (by kernel_rfl) (fun _ _ _ h => h) (Or.inl ⟨by rfl, ?hyB17⟩) (by assumption) ?restB17
      case hyB17 => (intro w hSw; (try dsimp only at hSw); (try simp only [List.getElem_toArray, List.getElem_cons_zero, List.getElem_cons_succ]); go_simp <;> with_reducible rfl)
      try simp only [Act.put, List.getElem_toArray, List.getElem_cons_zero, List.getElem_cons_succ, List.setIfInBounds_toArray, List.set_cons_zero, List.set_cons_succ]
      refine wpAnyH_done (by kernel_rfl) ?_ _
      refine at_exit (W := W2) (by first | assumption | exact And.right (by assumption)) ?_
      intro W8 hb8
      have HB8 := Lib.hid (HBE.out W8 hb8)
      have HV8 : Hid (v = decide (z.l.length = 0)) := Lib.hid (by rw [HVX.out, HE.out, Bool.true_and, HZL.out])
      clear s0 hb8 hHeld hHeld1 hHeld2 hB1 hb1 hB2 hb2
      go_wp2
      go_ret2
      refine ⟨?_, HB8.out⟩
      rw [HV8.out]
      by_cases h0 : z.l.length = 0
      · rw [h0]; rfl
      · have h1 : ((z.l.length : Int) == 0) = false := beq_false_of_ne (by omega)
        rw [decide_eq_false h0]
        simp only [h1]; rfl
    · have he : (x == y) = false := beq_false_of_ne hxy
      have HE := Lib.hid he
      clear hxy
      go_wp2_with fail
      refine wp_region_held_drew (S := fun u => (u.cell? ⟨w.heap.size, 0, none⟩ = some (.slice F.o.a F.o.l.length F.o.c) ∧ u.cell? ⟨w.heap.size, 1, none⟩ = some (.slice F.t.a F.t.R.length F.t.c) ∧ u.cell? ⟨tb, to_ + M, none⟩ = some (.int .i64 y)) ∧ Below W2.heap.size W2 u) (by kernel_rfl) s0 (fun hHeld => ?_)
      refine wpAnyH_take (i := 0) (v := ?vvA0) rfl (by kernel_rfl) (by kernel_rfl) (by kernel_rfl) (fun _ _ _ h => h) (Or.inl ⟨by rfl, ?hyA0⟩) (by assumption) ?restA0
      case hyA0 => (intro w hSw; (try dsimp only at hSw); (try simp only [List.getElem_toArray, List.getElem_cons_zero]); go_simp <;> with_reducible rfl)
      try simp only [Act.put, List.getElem_toArray, List.getElem_cons_zero, List.setIfInBounds_toArray, List.set_cons_zero, List.set_cons_succ]
      refine wpAnyH_take (i := 2) (v := ?vvA2) rfl (by kernel_rfl) (by kernel_rfl) (by kernel_rfl) (fun _ _ _ h => h) (Or.inl ⟨by rfl, ?hyA2⟩) (by assumption) ?restA2
      case hyA2 => (intro w hSw; (try dsimp only at hSw); (try simp only [List.getElem_toArray, List.getElem_cons_zero, List.getElem_cons_succ]); go_simp <;> with_reducible rfl)
      try simp only [Act.put, List.getElem_toArray, List.getElem_cons_zero, List.getElem_cons_succ, List.setIfInBounds_toArray, List.set_cons_zero, List.set_cons_succ]
      refine wpAnyH_take (i := 3) (v := ?vvA3) rfl (by kernel_rfl) (by kernel_rfl) (by kernel_rfl) (fun _ _ _ h => h) (Or.inl ⟨by rfl, ?hyA3⟩) (by assumption) ?restA3
      case hyA3 => (intro w hSw; (try dsimp only at hSw); (try simp only [List.getElem_toArray, List.getElem_cons_zero, List.getElem_cons_succ]); go_simp <;> with_reducible rfl)
      try simp only [Act.put, List.getElem_toArray, List.getElem_cons_zero, List.getElem_cons_succ, List.setIfInBounds_toArray, List.set_cons_zero, List.set_cons_succ]
      refine wpAnyH_take (i := 4) (v := ?vvA4) rfl (by kernel_rfl) (by kernel_rfl) (by kernel_rfl) (fun _ _ _ h => h) (Or.inl ⟨by rfl, ?hyA4⟩) (by assumption) ?restA4
      case hyA4 => (intro w hSw; (try dsimp only at hSw); (try simp only [List.getElem_toArray, List.getElem_cons_zero, List.getElem_cons_succ]); go_simp <;> with_reducible rfl)
      try simp only [Act.put, List.getElem_toArray, List.getElem_cons_zero, List.getElem_cons_succ, List.setIfInBounds_toArray, List.set_cons_zero, List.set_cons_succ]
      refine wpAnyH_take (i := 5) (v := ?vvA5) rfl (by kernel_rfl) (by kernel_rfl) (by kernel_rfl) (fun _ _ _ h => h) (Or.inl ⟨by rfl, ?hyA5⟩) (by assumption) ?restA5
      case hyA5 => (intro w hSw; (try dsimp only at hSw); (try simp only [List.getElem_toArray, List.getElem_cons_zero, List.getElem_cons_succ]); go_simp <;> with_reducible rfl)
      try simp only [Act.put, List.getElem_toArray, List.getElem_cons_zero, List.getElem_cons_succ, List.setIfInBounds_toArray, List.set_cons_zero, List.set_cons_succ]
      refine wpAnyH_take (i := 6) (v := ?vvA6) rfl (by kernel_rfl) (by kernel_rfl) (by kernel_rfl) (fun _ _ _ h => h) (Or.inl ⟨by rfl, ?hyA6⟩) (by assumption) ?restA6
      case hyA6 => (intro w hSw; (try dsimp only at hSw); (try simp only [List.getElem_toArray, List.getElem_cons_zero, List.getElem_cons_succ]); go_simp <;> with_reducible rfl)
      try simp only [Act.put, List.getElem_toArray, List.getElem_cons_zero, List.getElem_cons_succ, List.setIfInBounds_toArray, List.set_cons_zero, List.set_cons_succ]
      refine wpAnyH_take (i := 7) (v := ?vvA7) rfl (by kernel_rfl) (by kernel_rfl) (by kernel_rfl) (fun _ _ _ h => h) (Or.inl ⟨by rfl, ?hyA7⟩) (by assumption) ?restA7
      case hyA7 => (intro w hSw; (try dsimp only at hSw); (try simp only [List.getElem_toArray, List.getElem_cons_zero, List.getElem_cons_succ]); go_simp <;> with_reducible rfl)
      try simp only [Act.put, List.getElem_toArray, List.getElem_cons_zero, List.getElem_cons_succ, List.setIfInBounds_toArray, List.set_cons_zero, List.set_cons_succ]
      refine wpAnyH_ready (rs := [1]) (by kernel_rfl) (by simp) ?_
      refine AllReadyH.cons rfl (fun K hK => ?_) AllReadyH.nil
      try simp only [List.getElem_toArray, List.getElem_cons_zero, List.getElem_cons_succ]
      go_simp
      go_at_call 46
      refine (show Calls _ _ _ _ _ from C1.out _ (by first | assumption | exact And.right (by assumption))).mono ?_
      rintro e u1 ⟨rfl, hb1⟩
      have hB1 := keep_reg HS.out (by first | assumption | exact And.right (by assumption)) hb1
      go_wp2_with fail
      refine hK.out _ _ hB1 (fun hHeld1 => ?_)
      clear hK
      try simp only [Act.put, List.getElem_toArray, List.getElem_cons_zero, List.getElem_cons_succ, List.setIfInBounds_toArray, List.set_cons_zero, List.set_cons_succ]
      refine wpAnyH_take (i := 8) (v := ?vvA8) rfl (by kernel_rfl) (by kernel_rfl) (by kernel_rfl) (fun _ _ _ h => h) (Or.inl ⟨by rfl, ?hyA8⟩) (by assumption) ?restA8
      case hyA8 => (intro w hSw; (try dsimp only at hSw); (try simp only [List.getElem_toArray, List.getElem_cons_zero, List.getElem_cons_succ]); go_simp <;> with_reducible rfl)
      try simp only [Act.put, List.getElem_toArray, List.getElem_cons_zero, List.getElem_cons_succ, List.setIfInBounds_toArray, List.set_cons_zero, List.set_cons_succ]
      refine wpAnyH_take (i := 9) (v := ?vvA9) rfl (by kernel_rfl) (by kernel_rfl) (by kernel_rfl) (fun _ _ _ h => h) (Or.inl ⟨by rfl, ?hyA9⟩) (by assumption) ?restA9
      case hyA9 => (intro w hSw; (try dsimp only at hSw); (try simp only [List.getElem_toArray, List.getElem_cons_zero, List.getElem_cons_succ]); go_simp <;> with_reducible rfl)
      try simp only [Act.put, List.getElem_toArray, List.getElem_cons_zero, List.getElem_cons_succ, List.setIfInBounds_toArray, List.set_cons_zero, List.set_cons_succ]
      refine wpAnyH_take (i := 10) (v := undef) rfl (by kernel_rfl) (by kernel_rfl) (by kernel_rfl) (fun _ _ _ h => h) (Or.inr ⟨by rfl, rfl⟩) (by assumption) ?_
      try simp only [Act.put, List.getElem_toArray, List.getElem_cons_zero, List.getElem_cons_succ, List.setIfInBounds_toArray, List.set_cons_zero, List.set_cons_succ]
      refine wpAnyH_take (i := 11) (v := undef) rfl (by kernel_rfl) (by kernel_rfl) (by kernel_rfl) (fun _ _ _ h => h) (Or.inr ⟨by rfl, rfl⟩) (by assumption) ?_
      try simp only [Act.put, List.getElem_toArray, List.getElem_cons_zero, List.getElem_cons_succ, List.setIfInBounds_toArray, List.set_cons_zero, List.set_cons_succ]
      refine wpAnyH_take (i := 12) (v := undef) rfl (by kernel_rfl) (by kernel_rfl) (by kernel_rfl) (fun _ _ _ h => h) (Or.inr ⟨by rfl, rfl⟩) (by assumption) ?_
      try simp only [Act.put, List.getElem_toArray, List.getElem_cons_zero, List.getElem_cons_succ, List.setIfInBounds_toArray, List.set_cons_zero, List.set_cons_succ]
      refine wpAnyH_take (i := 13) (v := undef) rfl (by kernel_rfl) (by kernel_rfl) (by kernel_rfl) (fun _ _ _ h => h) (Or.inr ⟨by rfl, rfl⟩) (by assumption) ?_
      try simp only [Act.put, List.getElem_toArray, List.getElem_cons_zero, List.getElem_cons_succ, List.setIfInBounds_toArray, List.set_cons_zero, List.set_cons_succ]
      refine wpAnyH_take (i := 14) (v := undef) rfl (by kernel_rfl) (by kernel_rfl) (by kernel_rfl) (fun _ _ _ h => h) (Or.inr ⟨by rfl, rfl⟩) (by assumption) ?_
      try simp only [Act.put, List.getElem_toArray, List.getElem_cons_zero, List.getElem_cons_succ, List.setIfInBounds_toArray, List.set_cons_zero, List.set_cons_succ]
      refine wpAnyH_take (i := 15) (v := ?vvA15) rfl (by kernel_rfl) (by kernel_rfl) (by kernel_rfl) (fun _ _ _ h => h) (Or.inl ⟨by rfl, ?hyA15⟩) (by assumption) ?restA15
      case hyA15 => (intro w hSw; (try dsimp only at hSw); (try simp only [List.getElem_toArray, List.getElem_cons_zero, List.getElem_cons_succ]); go_simp <;> with_reducible rfl)
      try simp only [Act.put, List.getElem_toArray, List.getElem_cons_zero, List.getElem_cons_succ, List.setIfInBounds_toArray, List.set_cons_zero, List.set_cons_succ]
      refine wpAnyH_take (i := 16) (v := ?vvA16) rfl (by kernel_rfl) (by kernel_rfl) (by kernel_rfl) (fun _ _ _ h => h) (Or.inl ⟨by rfl, ?hyA16⟩) (by assumption) ?restA16
      case hyA16 => (intro w hSw; (try dsimp only at hSw); (try simp only [List.getElem_toArray, List.getElem_cons_zero, List.getElem_cons_succ]); go_simp <;> with_reducible rfl)
      try simp only [Act.put, List.getElem_toArray, List.getElem_cons_zero, List.getElem_cons_succ, List.setIfInBounds_toArray, List.set_cons_zero, List.set_cons_succ]
      refine wpAnyH_take (i := 17) (v := ?vvA17) rfl (by kernel_rfl) (by kernel_rfl) (by kernel_rfl) (fun _ _ _ h => h) (Or.inl ⟨by rfl, ?hyA17⟩) (by assumption) ?restA17
      case hyA17 => (intro w hSw; (try dsimp only at hSw); (try simp only [List.getElem_toArray, List.getElem_cons_zero, List.getElem_cons_succ]); go_simp <;> with_reducible rfl)
      try simp only [Act.put, List.getElem_toArray, List.getElem_cons_zero, List.getElem_cons_succ, List.setIfInBounds_toArray, List.set_cons_zero, List.set_cons_succ]
      refine wpAnyH_done (by kernel_rfl) ?_ _
      refine at_exit (W := W2) (by first | assumption | exact And.right (by assumption)) ?_
      intro W8 hb8
      have HB8 := Lib.hid (HBE.out W8 hb8)
      have HV8 : Hid (v = false) := Lib.hid (by rw [HVX.out, HE.out, Bool.false_and])
      clear s0 hb8 hHeld hHeld1 hB1 hb1
      go_wp2
      go_ret2
      exact ⟨by rw [HV8.out]; rfl, HB8.out⟩

theorem core_pair (F : Fld) (s : Row) (_ : F.Small) (_ : s.l.length ≤ 1048576) : ∃ (v b : Bool),
    (∀ (G : Fld) (t : Row) (W : World), G.At W → t.At W → G.Like F → t.l = s.l → Calls Try.prog 22 #[G.val, .slice t.a t.l.length t.c] W (PBool2 v b W)) ∧
    (∀ (G : Fld) (t : Row) (W : World), G.At W → t.At W → G.Like F → t.l = s.l → Calls Try.prog 23 #[G.val, .slice t.a t.l.length t.c] W (PBool2 v b W)) := by
  obtain ⟨v, b, h⟩ := coreIs_some F s.l
  exact ⟨v, b, fun G t W hG ht hk hs => specCore_any G t W hG ht v b (by rw [hs]; exact coreIs_like h hk), fun G t W hG ht hk hs => implCore_any G t W hG ht v b (by rw [hs]; exact coreIs_like h hk)⟩
end Go.Proofs.Ytfplcgakpildmaa
