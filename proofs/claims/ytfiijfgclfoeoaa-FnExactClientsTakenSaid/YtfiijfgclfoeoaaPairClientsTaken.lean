/- Both sides of ClientsTaken answer alike. Condition: the Field and the lists read as such. -/
import Derived.Test.YtfiijfgclfoeoaaTakenSpec
import Derived.Test.YtfiijfgclfoeoaaPlainMask
import Derived.Test.YtfiijfgclfoeoaaPairServiceOf
namespace Go.Proofs.Ytfiijfgclfoeoaa
open Go.RowKit

theorem up_same {T U : List Nat} (h : up T = up U) : T = U := (List.map_inj_right (fun x y h => by omega)).1 h
/-- Whether a list has a number of another one. -/
def crossB (s t : List Int) : Bool := t.any fun x => hasI s x
theorem cross_meet (T U : List Nat) : crossB (up T) (up U) = meetB T U := by
  unfold crossB meetB hasI up
  rw [Bool.eq_iff_iff, List.any_eq_true, List.any_eq_true]
  constructor
  · rintro ⟨x, hx, h⟩
    obtain ⟨m, hm, rfl⟩ := List.mem_map.1 hx
    obtain ⟨k, hk, e⟩ := List.mem_map.1 (List.contains_iff_mem.1 h)
    obtain rfl : k = m := by omega
    exact ⟨k, hk, List.contains_iff_mem.2 hm⟩
  · rintro ⟨m, hm, h⟩
    exact ⟨(m : Int), List.mem_map.2 ⟨m, List.contains_iff_mem.1 h, rfl⟩, List.contains_iff_mem.2 (List.mem_map.2 ⟨m, hm, rfl⟩)⟩
/-- Whether ClientsTaken is asked well. -/
def takenB (F : Fld) (s t : Row) : Bool := twoB F s && (setB F.o.l.length t.l && !crossB s.l t.l)
/-- What ClientsTaken answers. -/
def Takens (F : Fld) (s t : Row) (l : List Int) (b : Bool) : Prop :=
  (takenB F s t = false ∧ l = [] ∧ b = false) ∨ (takenB F s t = true ∧ (∃ T U, Fine F s T ∧ t.l = up U ∧ (∀ m ∈ U, m < F.o.l.length) ∧ l = taken F.t.con T U) ∧ b = true)
theorem takenB_like {F G : Fld} {s t s' t' : Row} (h : G.Like F) (hs : s'.l = s.l) (ht : t'.l = t.l) : takenB G s' t' = takenB F s t := by
  unfold takenB; rw [twoB_like h hs, h.1, hs, ht]
theorem takens_like {F G : Fld} {s t s' t' : Row} {l : List Int} {b : Bool} (hv : Takens F s t l b) (h : G.Like F) (hs : s'.l = s.l) (ht : t'.l = t.l) : Takens G s' t' l b := by
  rcases hv with ⟨h1, h2, h3⟩ | ⟨h1, ⟨T, U, h2, h3, h4, h5⟩, h6⟩
  · exact .inl ⟨by rw [takenB_like h hs ht]; exact h1, h2, h3⟩
  · exact .inr ⟨by rw [takenB_like h hs ht]; exact h1, ⟨T, U, fine_like h2 h hs, by rw [ht, h3], by rw [h.1]; exact h4, by rw [h5, h.2]⟩, h6⟩
theorem takens_some (F : Fld) (s t : Row) : ∃ (l : List Int) (b : Bool), Takens F s t l b ∧ l.length ≤ 1048576 := by
  cases h : takenB F s t with
  | false => exact ⟨_, _, .inl ⟨h, rfl, rfl⟩, by simp⟩
  | true =>
    have h' := h
    unfold takenB at h'
    simp only [Bool.and_eq_true] at h'
    obtain ⟨T, hf⟩ := fine_of h'.1
    obtain ⟨U, hU, hb⟩ := set_nat h'.2.1
    exact ⟨_, _, .inr ⟨h, ⟨T, U, hf, hU, hb, rfl⟩, rfl⟩, by have := taken_len F.t.con T U; rw [con_length] at this; have := good_sizes hf.good; omega⟩

set_option maxHeartbeats 1000000 in
theorem haveCommon_any (s t : Row) (T U : List Nat) (w : World) (hs : s.At w) (ht : t.At w) (hT : s.l = up T) (hU : t.l = up U) (hTb : ∀ m ∈ T, m < 7) (hUb : ∀ m ∈ U, m < 7) :
    Calls Try.prog 47 #[.slice s.a s.l.length s.c, .slice t.a t.l.length t.c] w fun e w' => e = .returned (.bool (meetB T U)) ∧ w' = w := by
  have C1 := Lib.hid (placeOf_any s T w hs hT hTb)
  have C2 := Lib.hid (placeOf_any t U w ht hU hUb)
  obtain ⟨p, hp⟩ : ∃ p, p = mask T := ⟨_, rfl⟩
  obtain ⟨q, hq⟩ : ∃ p, p = mask U := ⟨_, rfl⟩
  have hp7 : p < 128 := by rw [hp]; exact mask_lt (n := 7) hTb
  have hq7 : q < 128 := by rw [hq]; exact mask_lt (n := 7) hUb
  have hand := and_bits hp7 hq7
  have HM : Hid (meetB T U = decide (p &&& q ≠ 0)) := Lib.hid (by rw [hp, hq]; exact meetB_iff T U)
  rw [← hp] at C1
  rw [← hq] at C2
  rw [HM.out]
  have HAND := Lib.hid hand
  clear hs ht hT hU hp hq hTb hUb hand
  go_enter Try.func47, Try.ntmps47
  go_wp2_with fail
  refine (show Calls _ _ _ _ _ from C1.out).mono ?_
  rintro e W1 ⟨rfl, rfl⟩
  go_wp2_with fail
  refine (show Calls _ _ _ _ _ from C2.out).mono ?_
  rintro e W2 ⟨rfl, rfl⟩
  by_cases h0 : p &&& q = 0
  · have hb : bits BinOp.and IntKind.i64 (p : Int) (q : Int) = 0 := by rw [HAND.out, h0]; rfl
    have HD : Hid (decide (p &&& q ≠ 0) = false) := Lib.hid (by simp [h0])
    clear h0
    go_wp2
    go_ret
    exact ⟨by rw [HD.out]; simp, by first | rfl | trivial⟩
  · have hb : bits BinOp.and IntKind.i64 (p : Int) (q : Int) = ((p &&& q : Nat) : Int) := HAND.out
    obtain ⟨z, hz⟩ : ∃ z, z = p &&& q := ⟨_, rfl⟩
    have HD : Hid (decide (p &&& q ≠ 0) = true) := Lib.hid (by simp [h0])
    rw [← hz] at hb h0
    have hz0 : ((z : Int) == 0) = false := beq_false_of_ne (by omega)
    have HZN := Lib.hid h0
    clear h0 hz
    go_wp2
    go_ret
    exact ⟨by rw [HD.out]; simp; exact HZN.out, by first | rfl | trivial⟩

set_option maxRecDepth 8000 in
set_option maxHeartbeats 1500000 in
theorem implTaken_any (F : Fld) (s t : Row) (w : World) (hF : F.At w) (hs : s.At w) (ht : t.At w) (l : List Int) (b : Bool) (hv : Takens F s t l b) :
    Calls Try.prog 21 #[F.val, .slice s.a s.l.length s.c, .slice t.a t.l.length t.c] w (PInts l b w) := by
  obtain ⟨wA, hA, hbA, bx, hFA, hszA⟩ := laid_fld F w 29 hF
  have HSA := Lib.hid (hs.on hbA)
  have HTA := Lib.hid (ht.on hbA)
  have HFA := Lib.hid hFA
  have HBX := Lib.hid bx
  have HA := Lib.hid hA
  have CT := Lib.hid (canServe_any F s wA hFA HSA.out)
  have HVV := Lib.hid hv
  have HBA := Lib.hid hbA
  have x0 := bx.c0
  have x1 := bx.c1
  rw [hA] at x0 x1
  obtain ⟨p, hp⟩ : ∃ p, p = twoB F s := ⟨_, rfl⟩
  rw [← hp] at CT
  have HP := Lib.hid hp
  have HE0 : Hid (takenB F s t = false → l = [] ∧ b = false) := Lib.hid (fun h0 => by
    rcases HVV.out with h | h
    · exact h.2
    · rw [h0] at h; exact absurd h.1 (by simp))
  clear hF hs ht hA hFA bx hv hbA hp
  show Calls _ _ #[.agg #[F.o.val, F.t.val], _, _] w _
  go_enter Try.func21, Try.ntmps21
  go_wp2_with fail
  rw [show w.alloc (Obj.cells #[F.o.val, F.t.val] 29) = wA from HA.out.symm]
  refine (show Calls _ _ _ _ _ from CT.out).mono ?_
  rintro e W1 ⟨rfl, hb1⟩
  have HB1 := Lib.hid hb1
  have HBW1 := Lib.hid (HBA.out.trans (hb1.mono HBA.out.size))
  clear hb1 x0 x1
  have y0 := (HBX.out.on HB1.out).c0
  have y1 := (HBX.out.on HB1.out).c1
  cases p with
  | false =>
    obtain ⟨rfl, rfl⟩ := HE0.out (by unfold takenB; rw [← HP.out]; rfl)
    have HO1 := Lib.hid (empty_own W1)
    have hb0 := below_alloc W1 (.cells #[] 3)
    have hsz1 := HBW1.out.size
    clear y0 y1
    go_wp2
    go_ret2
    exact ints_end rfl HO1.out hsz1 (HBW1.out.trans (hb0.mono hsz1))
  | true =>
    obtain ⟨q, hq⟩ : ∃ q, q = setB F.o.l.length t.l := ⟨_, rfl⟩
    have CS := isSiteSet_any F t W1 (HFA.out.on HB1.out) (HTA.out.on HB1.out)
    rw [← hq] at CS
    have CS1 := Lib.hid CS
    have HQ := Lib.hid hq
    clear CS hq
    go_wp2_with fail
    refine (show Calls _ _ _ _ _ from CS1.out).mono ?_
    rintro e W2 ⟨rfl, hb2⟩
    have HB2 := Lib.hid (HB1.out.trans (hb2.mono HB1.out.size))
    have HBW2 := Lib.hid (HBA.out.trans (HB2.out.mono HBA.out.size))
    clear hb2 y0 y1
    have y0 := (HBX.out.on HB2.out).c0
    have y1 := (HBX.out.on HB2.out).c1
    cases q with
    | false =>
      obtain ⟨rfl, rfl⟩ := HE0.out (by unfold takenB; rw [← HP.out, ← HQ.out]; rfl)
      have HO1 := Lib.hid (empty_own W2)
      have hb0 := below_alloc W2 (.cells #[] 3)
      have hsz1 := HBW2.out.size
      clear y0 y1
      go_wp2
      go_ret2
      exact ints_end rfl HO1.out hsz1 (HBW2.out.trans (hb0.mono hsz1))
    | true =>
      obtain ⟨T, hf⟩ := fine_of HP.out.symm
      obtain ⟨U, hU, hUb⟩ := set_nat HQ.out.symm
      have hsz := good_sizes hf.good
      obtain ⟨r, hr⟩ : ∃ r, r = meetB T U := ⟨_, rfl⟩
      have CH := haveCommon_any s t T U W2 (HSA.out.on HB2.out) (HTA.out.on HB2.out) hf.set hU (fun m hm => by have := hf.lt m hm; omega) (fun m hm => by have := hUb m hm; omega)
      rw [← hr] at CH
      have CH1 := Lib.hid CH
      have HR : Hid (r = crossB s.l t.l) := Lib.hid (by rw [hr, hf.set, hU, cross_meet])
      have CF := Lib.hid (takenFrom_any F s t T U W2 (HFA.out.on HB2.out) hf.good (HSA.out.on HB2.out) hf.set hf.some hf.lt (HTA.out.on HB2.out) hU hUb)
      have HTK : Hid (takenB F s t = true → l = taken F.t.con T U ∧ b = true) := Lib.hid (fun h1 => by
        rcases HVV.out with h | ⟨_, ⟨T', U', h2, h3, _, h5⟩, h6⟩
        · rw [h1] at h; exact absurd h.1 (by simp)
        · have e1 : T' = T := by
            have := h2.set.symm.trans hf.set
            exact up_same this
          have e2 : U' = U := by
            have := h3.symm.trans hU
            exact up_same this
          subst e1 e2
          exact ⟨h5, h6⟩)
      clear CH hr hf hU hUb hsz
      go_wp2_with fail
      refine (show Calls _ _ _ _ _ from CH1.out).mono ?_
      rintro e W3 ⟨rfl, rfl⟩
      cases r with
      | true =>
        obtain ⟨rfl, rfl⟩ := HE0.out (by unfold takenB; rw [← HR.out]; simp)
        have HO1 := Lib.hid (empty_own W3)
        have hb0 := below_alloc W3 (.cells #[] 3)
        have hsz1 := HBW2.out.size
        clear y0 y1
        go_wp2
        go_ret2
        exact ints_end rfl HO1.out hsz1 (HBW2.out.trans (hb0.mono hsz1))
      | false =>
        have HL := Lib.hid (HTK.out (by unfold takenB; rw [← HP.out, ← HQ.out, ← HR.out]; rfl))
        go_wp2_with fail
        refine (show Calls _ _ _ _ _ from CF.out).mono ?_
        rintro e W4 ⟨y, rfl, hyl, hyo, hyi, hb4⟩
        have HYL := Lib.hid (hyl.trans HL.out.1.symm)
        have HYO := Lib.hid hyo
        have HYI := Lib.hid (hyi.wide HBW2.out.size (Nat.le_refl _) : y.In w.heap.size W4.heap.size W4)
        have HB := Lib.hid (HBW2.out.trans (hb4.mono HBW2.out.size))
        have HLB := Lib.hid HL.out.2
        clear hyl hyo hyi hb4 y0 y1
        go_wp2
        go_ret2
        exact ⟨y, by rw [HLB.out]; rfl, HYL.out, HYO.out, HYI.out, HB.out⟩

theorem cross_step {s t : List Int} {k : Nat} (hk : k < t.length) (h : crossB s (t.take k) = false) (h1 : hasI s t[k] = false) : crossB s (t.take (k + 1)) = false := by
  unfold crossB at *
  rw [List.take_succ_eq_append_getElem hk, List.any_append, h]; simp [h1]
theorem cross_here {s t : List Int} {k : Nat} (hk : k < t.length) (h1 : hasI s t[k] = true) : crossB s t = true := List.any_eq_true.2 ⟨_, List.getElem_mem hk, h1⟩

set_option maxRecDepth 8000 in
set_option maxHeartbeats 1500000 in
theorem specTaken_any (F : Fld) (s t : Row) (w : World) (hF : F.At w) (hs : s.At w) (ht : t.At w) (l : List Int) (b : Bool) (hv : Takens F s t l b) :
    Calls Try.prog 19 #[F.val, .slice s.a s.l.length s.c, .slice t.a t.l.length t.c] w (PInts l b w) := by
  obtain ⟨wA, hA, hbA, bx, hFA, hszA⟩ := laid_fld F w 29 hF
  have HSA := Lib.hid (hs.on hbA)
  have HTA := Lib.hid (ht.on hbA)
  have HFA := Lib.hid hFA
  have HBX := Lib.hid bx
  have HA := Lib.hid hA
  have CT := Lib.hid (l2Two_any F s wA hFA HSA.out)
  have HVV := Lib.hid hv
  have HBA := Lib.hid hbA
  have x0 := bx.c0
  have x1 := bx.c1
  rw [hA] at x0 x1
  obtain ⟨p, hp⟩ : ∃ p, p = twoB F s := ⟨_, rfl⟩
  rw [← hp] at CT
  have HP := Lib.hid hp
  have HE0 : Hid (takenB F s t = false → l = [] ∧ b = false) := Lib.hid (fun h0 => by
    rcases HVV.out with h | h
    · exact h.2
    · rw [h0] at h; exact absurd h.1 (by simp))
  have htn : (t.l.length : Int) ≤ 9223372036854775807 := by obtain ⟨q1, q2, _⟩ := ht; rw [iv_length] at q1; unfold maxLen at q2; omega
  clear hF hs ht hA hFA bx hv hbA hp
  show Calls _ _ #[.agg #[F.o.val, F.t.val], _, _] w _
  go_enter Try.func19, Try.ntmps19
  go_wp2_with fail
  rw [show w.alloc (Obj.cells #[F.o.val, F.t.val] 29) = wA from HA.out.symm]
  refine (show Calls _ _ _ _ _ from CT.out).mono ?_
  rintro e W1 ⟨rfl, hb1⟩
  have HB1 := Lib.hid hb1
  have HBW1 := Lib.hid (HBA.out.trans (hb1.mono HBA.out.size))
  clear hb1 x0 x1
  have y0 := (HBX.out.on HB1.out).c0
  have y1 := (HBX.out.on HB1.out).c1
  cases p with
  | false =>
    obtain ⟨rfl, rfl⟩ := HE0.out (by unfold takenB; rw [← HP.out]; rfl)
    have HO1 := Lib.hid (empty_own W1)
    have hb0 := below_alloc W1 (.cells #[] 3)
    have hsz1 := HBW1.out.size
    clear y0 y1
    go_wp2
    go_ret2
    exact ints_end rfl HO1.out hsz1 (HBW1.out.trans (hb0.mono hsz1))
  | true =>
    obtain ⟨q, hq⟩ : ∃ q, q = setB F.o.l.length t.l := ⟨_, rfl⟩
    have CS := l2Set_any F t W1 (HFA.out.on HB1.out) (HTA.out.on HB1.out)
    rw [← hq] at CS
    have CS1 := Lib.hid CS
    have HQ := Lib.hid hq
    clear CS hq
    go_wp2_with fail
    refine (show Calls _ _ _ _ _ from CS1.out).mono ?_
    rintro e W2 ⟨rfl, hb2⟩
    have HB2 := Lib.hid (HB1.out.trans (hb2.mono HB1.out.size))
    have HBW2 := Lib.hid (HBA.out.trans (HB2.out.mono HBA.out.size))
    clear hb2 y0 y1
    have y0 := (HBX.out.on HB2.out).c0
    have y1 := (HBX.out.on HB2.out).c1
    cases q with
    | false =>
      obtain ⟨rfl, rfl⟩ := HE0.out (by unfold takenB; rw [← HP.out, ← HQ.out]; rfl)
      have HO1 := Lib.hid (empty_own W2)
      have hb0 := below_alloc W2 (.cells #[] 3)
      have hsz1 := HBW2.out.size
      clear y0 y1
      go_wp2
      go_ret2
      exact ints_end rfl HO1.out hsz1 (HBW2.out.trans (hb0.mono hsz1))
    | true =>
      obtain ⟨T, hf⟩ := fine_of HP.out.symm
      obtain ⟨U, hU, hUb⟩ := set_nat HQ.out.symm
      have hsz := good_sizes hf.good
      have CF := Lib.hid (l9Taken_any F s t T U W2 (HFA.out.on HB2.out) hf.good (HSA.out.on HB2.out) hf.set hf.some hf.lt (HTA.out.on HB2.out) hU hUb)
      have CH := Lib.hid (fun x => l1Has_any s x W2 (HSA.out.on HB2.out))
      have HTK : Hid (takenB F s t = true → l = taken F.t.con T U ∧ b = true) := Lib.hid (fun h1 => by
        rcases HVV.out with h | ⟨_, ⟨T', U', h2, h3, _, h5⟩, h6⟩
        · rw [h1] at h; exact absurd h.1 (by simp)
        · have e1 : T' = T := by
            have := h2.set.symm.trans hf.set
            exact up_same this
          have e2 : U' = U := by
            have := h3.symm.trans hU
            exact up_same this
          subst e1 e2
          exact ⟨h5, h6⟩)
      have HT2 := Lib.hid ((HTA.out.on HB2.out).2.2)
      obtain ⟨n, hn⟩ : ∃ n, n = t.l.length := ⟨_, rfl⟩
      have HN := Lib.hid hn
      rw [← hn] at htn CF
      clear hf hU hUb hsz hn
      have hti : (t.l.length : Int) ≤ 9223372036854775807 := by rw [← HN.out]; exact htn
      go_wp2
      rw [← HN.out]
      go_loopw [8] (fun iv' wr => ∃ k : Nat, k ≤ n ∧ iv' = .int .i64 k ∧ W2 = wr ∧ crossB s.l (t.l.take k) = false) (fun iv' _ => n - (intOf iv').toNat)
      case atStart => exact ⟨0, Nat.zero_le _, rfl, rfl, by simp [crossB]⟩
      case round =>
        obtain ⟨k, hk, rfl, rfl, hcr⟩ := hrel
        have HCR := Lib.hid hcr
        clear hcr
        by_cases hlt : k < n
        · have hlti : (k : Int) < (n : Int) := by omega
          have hlt2 : k < t.l.length := by rw [← HN.out]; exact hlt
          rcases HT2.out with h3 | ⟨bb, o, hta, hbb, hcell⟩
          · have h3' := congrArg List.length (iv_nil h3); rw [List.length_nil] at h3'; omega
          obtain ⟨x, hx⟩ : ∃ x, x = t.l[k] := ⟨_, rfl⟩
          have hcl : W2.cell? ⟨bb, o + k, none⟩ = some (.int .i64 x) := by rw [hx]; exact hcell k _ (iv_at hlt2)
          have CX := CH.out x
          obtain ⟨v, hv⟩ : ∃ v, v = hasI s.l x := ⟨_, rfl⟩
          rw [← hv] at CX
          have CX1 := Lib.hid CX
          have HV : Hid (hasI s.l t.l[k] = v) := Lib.hid (by rw [hv, hx])
          rw [hta]
          clear CX hv hx hcell hta y0 y1
          go_wp2_with fail
          refine (show Calls _ _ _ _ _ from CX1.out).mono ?_
          rintro e W3 ⟨rfl, rfl⟩
          clear hcl
          cases v with
          | true =>
            obtain ⟨rfl, rfl⟩ := HE0.out (by unfold takenB; rw [cross_here hlt2 HV.out]; simp)
            have HO1 := Lib.hid (empty_own W3)
            have hb0 := below_alloc W3 (.cells #[] 3)
            have hsz1 := HBW2.out.size
            go_wp2
            go_ret2
            exact ints_end rfl HO1.out hsz1 (HBW2.out.trans (hb0.mono hsz1))
          | false =>
            have HS := Lib.hid (cross_step hlt2 HCR.out HV.out)
            go_wp2
            go_roundw
            case rel => exact ⟨k + 1, by omega, by go_num, by first | rfl | trivial, HS.out⟩
            case measure => simp [intOf]; omega
        · obtain rfl : k = n := by omega
          have hcr : crossB s.l t.l = false := by have := HCR.out; rw [HN.out, List.take_length] at this; exact this
          have HL := Lib.hid (HTK.out (by unfold takenB; rw [← HP.out, ← HQ.out, hcr]; rfl))
          clear hcr
          go_wp2_with fail
          refine (show Calls _ _ _ _ _ from CF.out).mono ?_
          rintro e W4 ⟨y, rfl, hyl, hyo, hyi, hb4⟩
          have HYL := Lib.hid (hyl.trans HL.out.1.symm)
          have HYO := Lib.hid hyo
          have HYI := Lib.hid (hyi.wide HBW2.out.size (Nat.le_refl _) : y.In w.heap.size W4.heap.size W4)
          have HB := Lib.hid (HBW2.out.trans (hb4.mono HBW2.out.size))
          have HLB := Lib.hid HL.out.2
          clear hyl hyo hyi hb4 y0 y1
          go_wp2
          go_ret2
          exact ⟨y, by rw [HLB.out]; rfl, HYL.out, HYO.out, HYI.out, HB.out⟩

theorem clientsTaken_pair (F : Fld) (s t : Row) (_ : F.Small) (_ : s.l.length ≤ 1048576) (_ : t.l.length ≤ 1048576) : ∃ (l : List Int) (b : Bool) (_ : l.length ≤ 1048576),
    (∀ (G : Fld) (s' t' : Row) (W : World), G.At W → s'.At W → t'.At W → G.Like F → s'.l = s.l → t'.l = t.l → Calls Try.prog 19 #[G.val, .slice s'.a s'.l.length s'.c, .slice t'.a t'.l.length t'.c] W (PInts l b W)) ∧
    (∀ (G : Fld) (s' t' : Row) (W : World), G.At W → s'.At W → t'.At W → G.Like F → s'.l = s.l → t'.l = t.l → Calls Try.prog 21 #[G.val, .slice s'.a s'.l.length s'.c, .slice t'.a t'.l.length t'.c] W (PInts l b W)) := by
  obtain ⟨l, b, h, hl⟩ := takens_some F s t
  exact ⟨l, b, hl, fun G s' t' W hG h1 h2 hk hs ht => specTaken_any G s' t' W hG h1 h2 l b (takens_like h hk hs ht), fun G s' t' W hG h1 h2 hk hs ht => implTaken_any G s' t' W hG h1 h2 l b (takens_like h hk hs ht)⟩
end Go.Proofs.Ytfiijfgclfoeoaa
