/- Both sides of SwapSites answer alike. Condition: Field and set read as such. -/
import Derived.Test.YtahbjhbdgiojeaaPutAny
import Derived.Test.YtahbjhbdgiojeaaSwapImpl
namespace Go.Proofs.Ytahbjhbdgiojeaa
open Go.RowKit

theorem idx_at : ∀ (l : List Int) (x : Int) (i k : Nat), (hk : k < l.length) → Lib.idxFrom l x i = ((i + k : Nat) : Int) → l[k] = x
  | [], _, _, _, hk, _ => absurd hk (Nat.not_lt_zero _)
  | z :: l, x, i, k, hk, h => by
    unfold Lib.idxFrom at h
    by_cases hz : z = x
    · rw [if_pos hz] at h
      have : k = 0 := by omega
      subst this; exact hz
    · rw [if_neg hz] at h
      cases k with
      | zero =>
        rcases idx_lt l x (i + 1) with h1 | ⟨k', _, h2⟩
        · omega
        · rw [h2] at h; omega
      | succ k => exact idx_at l x (i + 1) k (by simpa using hk) (by rw [h]; congr 1; omega)
theorem rise_pairs (n : Int) : ∀ (l : List Int) (lo : Int), rise n lo l = true → l.Pairwise (· < ·)
  | [], _, _ => List.Pairwise.nil
  | x :: r, lo, h => by
    simp only [rise, Bool.and_eq_true, decide_eq_true_eq] at h
    exact List.pairwise_cons.2 ⟨fun y hy => (rise_bounds n r x h.2 y hy).1, rise_pairs n r x h.2⟩
theorem has_idx {l : List Int} {o : Int} (h : hasI l o = true) : ∃ k : Nat, k < l.length ∧ Lib.idxOf l o = k := by
  rcases idx_lt l o 0 with h1 | ⟨k, h1, h2⟩
  · have := Lib.idxOf_nonneg_iff l o
    have h3 : 0 ≤ Lib.idxOf l o := by rw [this]; exact h
    unfold Lib.idxOf at h3; omega
  · exact ⟨k, h1, by unfold Lib.idxOf; rw [h2]; simp⟩
theorem without_has {l : List Int} {o n : Int} (h : hasI l n = false) : hasI (without l o) n = false := by
  unfold hasI at *
  rw [Bool.eq_false_iff] at *
  exact fun e => h (List.contains_iff_mem.2 (List.mem_filter.1 (List.contains_iff_mem.1 e)).1)
theorem swap_same {F : Fld} {s : Row} {o n : Int} {k : Nat} (h : SwapOk F s o n k) : putAt (without s.l o) n = swapL s.l k n := by
  have hk : s.l[k]'h.lt = o := idx_at s.l o 0 k h.lt (by have := h.idx; unfold Lib.idxOf at this; rw [this]; simp)
  have hr := rise_pairs _ _ _ (twoB_iff.1 h.two).2.1
  have := swap_sorted (s := swapL s.l k n) h.lt hr (fun e => by have h1 := h.no; unfold hasI at h1; rw [List.contains_iff_mem.2 e] at h1; cases h1) (swapL_rises _ _ _) (swapL_perm _ _ _)
  rw [hk] at this; exact this

set_option maxHeartbeats 2000000 in
theorem l2WithoutO_any (s : Row) (n : Int) (w : World) (hs : s.At w) (hsm : s.l.length ≤ 1048576) :
    Calls Try.prog 61 #[.slice s.a s.l.length s.c, .int .i64 n] w fun e w' => ∃ g c, e = .returned (.slice (some ⟨g, 0, none⟩) (without s.l n).length c) ∧ w'.ownsRow w.heap.size 3 1 (.slice (some ⟨g, 0, none⟩) (without s.l n).length c) (without s.l n).length (iv (without s.l n)) ∧ Below w.heap.size w w' := by
  obtain ⟨i0, hi, hz0, hz1, hz2⟩ := info_parts infoInt
  have HS := Lib.hid hs
  obtain ⟨a, c, l⟩ := s
  simp only at hsm HS ⊢
  have hni : (l.length : Int) ≤ 9223372036854775807 := by omega
  have H0 := Lib.hid (empty_own w)
  have HB0 := Lib.hid (below_alloc w (.cells #[] 3))
  clear hs
  go_enter Try.func61, Try.ntmps61
  go_wp2
  go_loopw [5, 6] (fun out i wr => ∃ k : Nat, k ≤ l.length ∧ i = .int .i64 k ∧ wr.ownsRow w.heap.size 3 1 out (without (l.take k) n).length (iv (without (l.take k) n)) ∧ Below w.heap.size w wr ∧ out ≠ .slice none 0 0) (fun _ i _ => l.length - (intOf i).toNat)
  case atStart => exact ⟨0, Nat.zero_le _, rfl, by rw [List.take_zero]; exact H0.out, HB0.out, by simp⟩
  case round =>
    obtain ⟨k, hk, rfl, hown0, hnx, hnn⟩ := hrel
    by_cases hlt : k < l.length
    · have hlti : (k : Int) < (l.length : Int) := by omega
      rcases (HS.out.on hnx).2.2 with h3 | ⟨b, o, ha, hbb, hcell⟩
      · have h3' := congrArg List.length (iv_nil h3); simp only [List.length_nil] at h3'; omega
      simp only at ha
      subst ha
      obtain ⟨x, hx⟩ : ∃ x, x = l[k] := ⟨_, rfl⟩
      have hcl : wr.cell? ⟨b, o + k, none⟩ = some (.int .i64 x) := by rw [hx]; exact hcell k _ (iv_at hlt)
      have HST := Lib.hid (without_step (o := n) hlt)
      have hcl' := without_len (l.take k) n
      have htk : (l.take k).length ≤ l.length := by rw [List.length_take]; omega
      have hszr := hnx.size
      by_cases hxn : x = n
      · have HL : Hid (without (l.take (k + 1)) n = without (l.take k) n) := Lib.hid (by rw [HST.out, if_pos (by rw [← hx]; exact hxn), List.append_nil])
        have he : (x != n) = false := by simp [hxn]
        have R1 := Lib.hid hown0
        have NN := Lib.hid hnn
        clear hx hcell hxn hown0 hnn
        go_wp2
        go_roundw
        case rel => exact ⟨k + 1, by omega, by go_num, by rw [HL.out]; exact R1.out, hnx, NN.out⟩
        case measure => simp [intOf]; omega
      · have HL : Hid (without (l.take (k + 1)) n = without (l.take k) n ++ [x]) := Lib.hid (by rw [HST.out, if_neg (by rw [← hx]; exact hxn), ← hx])
        have he : (x != n) = true := by simp [hxn]
        have NN := Lib.hid hnn
        clear hx hcell hxn hnn
        go_wp2_with (at_builtin; refine wpList_append_own _ rfl _ _ 22 rfl w.heap.size 3 i0 (.int .i64 0) 1 8 Try.underlying22 hi hz0 hz1 hz2 rfl (by decide) _ _ _ rfl (hown0.alloc _) ⟨wr.heap.size, 0, none⟩ 1 1 [.int .i64 x] rfl rfl (one_cell _ _ _) (by simp [Value.oneCell']) (by unfold maxLen; omega) (by omega) (by simp; omega) ?_; intro v' w1 hown' hgrow hnil)
        have R1 : w1.ownsRow w.heap.size 3 1 v' (without (l.take (k + 1)) n).length (iv (without (l.take (k + 1)) n)) := by rw [HL.out]; exact own_snoc rfl hown'
        have R2 : Below w.heap.size w w1 := (hnx.alloc (by omega) _).grown hgrow (by simp; omega) (fun j hj => (hown0.lt j hj).1)
        have R3 : v' ≠ .slice none 0 0 := fun e => NN.out (hnil.1 e).1
        clear hown' hgrow hown0 hnx hcl hnil
        go_wp2
        go_roundw
        case rel => exact ⟨k + 1, by omega, by go_num, R1, R2, R3⟩
        case measure => simp [intOf]; omega
    · obtain rfl : k = l.length := by omega
      rw [List.take_length] at hown0
      go_wp2
      go_ret
      rcases id hown0.2 with ⟨h, _⟩ | ⟨g, cap, cur, rfl, _⟩
      · exact absurd h hnn
      · exact ⟨g, cap, rfl, hown0, hnx⟩


set_option maxRecDepth 8000 in
set_option maxHeartbeats 2000000 in
theorem specSwap_any (F : Fld) (s : Row) (o n : Int) (w : World) (hF : F.At w) (hs : s.At w) (hsm : s.l.length ≤ 1048576) (l : List Int) (b : Bool) (hv : Swaps F s o n l b) :
    Calls Try.prog 35 #[F.val, .slice s.a s.l.length s.c, .int .i64 o, .int .i64 n] w (PInts l b w) := by
  obtain ⟨wA, hA, hbA, bx, hFA, hszA⟩ := laid_fld F w 29 hF
  have HSA := Lib.hid (hs.on hbA)
  have HBX := Lib.hid bx
  have HA := Lib.hid hA
  have CT := Lib.hid (l2Two_any F s wA hFA HSA.out)
  have HV := Lib.hid hv
  clear hF hs hA hFA bx hv
  show Calls _ _ #[.agg #[F.o.val, F.t.val], _, _, _] w _
  go_enter Try.func35, Try.ntmps35
  go_wp2_with fail
  rw [show w.alloc (Obj.cells #[F.o.val, F.t.val] 29) = wA from HA.out.symm]
  refine (show Calls _ _ _ _ _ from CT.out).mono ?_
  rintro e W1 ⟨rfl, hb1⟩
  have hbw := hbA.trans (hb1.mono hbA.size)
  have HW := Lib.hid hbw
  have HE : Hid (∀ (l' : List Int) (b' : Bool), l' = [] → b' = false → PInts l' b' w (.returned (.tuple #[.slice (some ⟨W1.heap.size, 0, none⟩) 0 0, .bool false])) (W1.alloc (.cells #[] 3))) := Lib.hid (by
    rintro _ _ rfl rfl
    exact swap_end rfl (empty_own W1) hbw.size (hbw.trans ((below_alloc W1 _).mono hbw.size)))
  obtain ⟨t, ht⟩ : ∃ t, t = twoB F s := ⟨_, rfl⟩
  rw [← ht]
  cases t with
  | false =>
    have HB := Lib.hid (HV.out.bad fun k h => by rw [h.two] at ht; cases ht)
    clear ht hbw
    go_wp2
    go_ret2
    exact HE.out _ _ HB.out.1 HB.out.2
  | true =>
    have HT := Lib.hid ht
    have x0 : W1.cell? ⟨w.heap.size, 0, none⟩ = some (.slice F.o.a F.o.l.length F.o.c) := (HBX.out.on hb1).c0
    have hsz := good_sizes (twoB_iff.1 ht.symm).1
    have hoi : (F.o.l.length : Int) ≤ 7 := by omega
    have hoi0 : (1 : Int) ≤ (F.o.l.length : Int) := by omega
    obtain ⟨u, hu⟩ : ∃ u, u = hasI s.l o := ⟨_, rfl⟩
    obtain ⟨v, hv⟩ : ∃ u, u = hasI s.l n := ⟨_, rfl⟩
    obtain ⟨z, hz⟩ : ∃ z, z = (decide (0 ≤ n) && decide (n ≤ (F.o.l.length : Int) - 1)) := ⟨_, rfl⟩
    have C1 := Lib.hid (by have := l1Has_any s o W1 (HSA.out.on hb1); rw [← hu] at this; exact this : Calls Try.prog 58 #[.slice s.a s.l.length s.c, .int .i64 o] W1 fun e w' => e = .returned (.bool u) ∧ w' = W1)
    have C2 := Lib.hid (by have := l1Has_any s n W1 (HSA.out.on hb1); rw [← hv] at this; exact this : Calls Try.prog 58 #[.slice s.a s.l.length s.c, .int .i64 n] W1 fun e w' => e = .returned (.bool v) ∧ w' = W1)
    have C3 := Lib.hid (by have := l1In_any n 0 ((F.o.l.length : Int) - 1) W1; rw [← hz] at this; exact this : Calls Try.prog 59 #[.int .i64 n, .int .i64 0, .int .i64 ((F.o.l.length : Int) - 1)] W1 fun e w' => e = .returned (.bool z) ∧ w' = W1)
    have C4 := Lib.hid (l2WithoutO_any s o W1 (HSA.out.on hb1) hsm)
    have HU := Lib.hid hu
    have HVV := Lib.hid hv
    have HZ := Lib.hid hz
    have hszw := hbw.size
    have w1 : IntKind.i64.wrap ((F.o.l.length : Int) - 1) = (F.o.l.length : Int) - 1 := IntWalk.i64_in _ (by omega)
    have e1 : -9223372036854775808 ≤ (F.o.l.length : Int) - 1 := by omega
    have e2 : (F.o.l.length : Int) - 1 ≤ 9223372036854775807 := by omega
    clear ht hbw hsz hu hv hz
    go_wp2_with fail
    refine C1.out.mono ?_
    rintro e W ⟨rfl, rfl⟩
    cases u with
    | false =>
      have HB := Lib.hid (HV.out.bad fun k h => by
        have := has_yes (n := o) h.lt (idx_at s.l o 0 k h.lt (by have := h.idx; unfold Lib.idxOf at this; rw [this]; simp))
        rw [← HU.out] at this; cases this)
      go_wp2
      go_ret2
      exact HE.out _ _ HB.out.1 HB.out.2
    | true =>
      go_wp2_with fail
      refine C2.out.mono ?_
      rintro e W ⟨rfl, rfl⟩
      cases v with
      | true =>
        have HB := Lib.hid (HV.out.bad fun k h => by have := h.no; rw [← HVV.out] at this; cases this)
        go_wp2
        go_ret2
        exact HE.out _ _ HB.out.1 HB.out.2
      | false =>
        go_wp2_with fail
        refine C3.out.mono ?_
        rintro e W ⟨rfl, rfl⟩
        cases z with
        | false =>
          have HB := Lib.hid (HV.out.bad fun k h => by
            have h1 := h.lo; have h2 := h.hi
            have := HZ.out
            rw [decide_eq_true h1, decide_eq_true (by omega : n ≤ (F.o.l.length : Int) - 1)] at this; cases this)
          go_wp2
          go_ret2
          exact HE.out _ _ HB.out.1 HB.out.2
        | true =>
          have HO : Hid (l = putAt (without s.l o) n ∧ b = true) := Lib.hid (by
            obtain ⟨k, hk1, hk2⟩ := has_idx HU.out.symm
            have hz := HZ.out.symm
            rw [Bool.and_eq_true, decide_eq_true_eq, decide_eq_true_eq] at hz
            have hok : SwapOk F s o n k := ⟨HT.out.symm, hz.1, by omega, HVV.out.symm, hk1, hk2⟩
            have := HV.out.ok hok
            rw [swap_same hok]; exact this)
          go_wp2_with fail
          refine C4.out.mono ?_
          rintro e W2 ⟨g, c, rfl, hown, hb2⟩
          have CP := Lib.hid (l1Put_any g c (without s.l o) n W2 (owns_base hown) (by have := without_len s.l o; omega) (without_has HVV.out.symm))
          have R2 := Lib.hid (HW.out.trans (hb2.mono hszw))
          have hsz2 := R2.out.size
          clear hown hb2
          go_wp2_with fail
          refine CP.out.mono ?_
          rintro e W3 ⟨t, rfl, htl, hto, hti, hb3⟩
          have HTL := Lib.hid htl
          clear htl
          go_wp2
          go_ret2
          rw [HO.out.1, HO.out.2]
          exact ⟨t, rfl, HTL.out, hto, hti.wide hsz2 (Nat.le_refl _), R2.out.trans (hb3.mono hsz2)⟩

theorem swaps_like {F G : Fld} {s t : Row} {o n : Int} {l : List Int} {b : Bool} (h : Swaps F s o n l b) (hl : G.Like F) (hs : t.l = s.l) : Swaps G t o n l b := by
  have hiff : ∀ k, SwapOk G t o n k ↔ SwapOk F s o n k := fun k => by
    constructor
    · rintro ⟨h1, h2, h3, h4, h5, h6⟩
      exact ⟨by rw [← twoB_like hl hs]; exact h1, h2, by rw [← hl.1]; exact h3, by rw [← hs]; exact h4, by rw [← hs]; exact h5, by rw [← hs]; exact h6⟩
    · rintro ⟨h1, h2, h3, h4, h5, h6⟩
      exact ⟨by rw [twoB_like hl hs]; exact h1, h2, by rw [hl.1]; exact h3, by rw [hs]; exact h4, by rw [hs]; exact h5, by rw [hs]; exact h6⟩
  rcases h with ⟨k, h1, h2, h3⟩ | ⟨h1, h2, h3⟩
  · exact .inl ⟨k, (hiff k).2 h1, by rw [hs]; exact h2, h3⟩
  · exact .inr ⟨fun k hk => h1 k ((hiff k).1 hk), h2, h3⟩
theorem swaps_some (F : Fld) (s : Row) (o n : Int) (hs : s.l.length ≤ 1048576) : ∃ (l : List Int) (b : Bool), Swaps F s o n l b ∧ l.length ≤ 1048576 := by
  by_cases h : ∃ k, SwapOk F s o n k
  · obtain ⟨k, hk⟩ := h
    exact ⟨_, _, .inl ⟨k, hk, rfl, rfl⟩, by rw [swapL_len]; exact hs⟩
  · exact ⟨_, _, .inr ⟨fun k hk => h ⟨k, hk⟩, rfl, rfl⟩, by simp⟩
theorem swapSites_pair (F : Fld) (s : Row) (o n : Int) (_ : (Lit.int .i64 o).wf = true) (_ : (Lit.int .i64 n).wf = true) (_ : F.Small) (hs : s.l.length ≤ 1048576) : ∃ (l : List Int) (b : Bool) (_ : l.length ≤ 1048576),
    (∀ (G : Fld) (t : Row) (W : World), G.At W → t.At W → G.Like F → t.l = s.l → Calls Try.prog 35 #[G.val, .slice t.a t.l.length t.c, .int .i64 o, .int .i64 n] W (PInts l b W)) ∧
    (∀ (G : Fld) (t : Row) (W : World), G.At W → t.At W → G.Like F → t.l = s.l → Calls Try.prog 36 #[G.val, .slice t.a t.l.length t.c, .int .i64 o, .int .i64 n] W (PInts l b W)) := by
  obtain ⟨l, b, h, hl⟩ := swaps_some F s o n hs
  exact ⟨l, b, hl, fun G t W hG ht hlk hst => specSwap_any G t o n W hG ht (by rw [hst]; exact hs) l b (swaps_like h hlk hst), fun G t W hG ht hlk hst => implSwap_any G t o n W hG ht (by rw [hst]; exact hs) l b (swaps_like h hlk hst)⟩
end Go.Proofs.Ytahbjhbdgiojeaa
