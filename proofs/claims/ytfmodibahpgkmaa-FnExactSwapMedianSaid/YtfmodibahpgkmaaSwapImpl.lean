/- The contract of SwapSites on the program's side. Condition: the Field and the set read as such. -/
import Derived.Test.YtfmodibahpgkmaaSwap
import Derived.Test.YtfmodibahpgkmaaShelf
import Derived.Test.YtfmodibahpgkmaaPost
import Derived.Sort.OwnSortedInts
namespace Go.Proofs.Ytfmodibahpgkmaa
open Go.RowKit

theorem swap_end {w w' : World} {B n : Nat} {v : Value} {l : List Int} {b : Bool} (hn : n = l.length) (h : w'.ownsRow B 3 1 v n (iv l)) (hB : w.heap.size ≤ B) (hb : Below w.heap.size w w') :
    PInts l b w (.returned (.tuple #[v, .bool b])) w' := by
  subst hn
  obtain ⟨t, rfl, htl, hto, hti⟩ := row_of_own h
  exact ⟨t, rfl, htl, hto, hti.wide hB (Nat.le_refl _), hb⟩

/-- A list in which one place is turned and that is sorted then. -/
def swapL (l : List Int) (k : Nat) (n : Int) : List Int := (l.set k n).mergeSort fun x y => decide (x ≤ y)
theorem swapL_len (l : List Int) (k : Nat) (n : Int) : (swapL l k n).length = l.length := by unfold swapL; rw [List.length_mergeSort, List.length_set]
theorem swapL_rises (l : List Int) (k : Nat) (n : Int) : (swapL l k n).Pairwise (· ≤ ·) := by
  unfold swapL
  have := List.pairwise_mergeSort (le := fun x y : Int => decide (x ≤ y)) (by intro a b c h1 h2; simp at *; omega) (by intro a b; simp; omega) (l.set k n)
  exact this.imp (by intro a b h; simpa using h)
theorem swapL_perm (l : List Int) (k : Nat) (n : Int) : (swapL l k n).Perm (l.set k n) := List.mergeSort_perm _ _

/-- When a swap succeeds. -/
structure SwapOk (F : Fld) (s : Row) (o n : Int) (k : Nat) : Prop where
  two : twoB F s = true
  lo : 0 ≤ n
  hi : n < F.o.l.length
  no : hasI s.l n = false
  lt : k < s.l.length
  idx : Lib.idxOf s.l o = k
/-- What SwapSites answers. -/
def Swaps (F : Fld) (s : Row) (o n : Int) (l : List Int) (b : Bool) : Prop := (∃ k, SwapOk F s o n k ∧ l = swapL s.l k n ∧ b = true) ∨ ((∀ k, ¬ SwapOk F s o n k) ∧ l = [] ∧ b = false)
theorem Swaps.bad {F : Fld} {s : Row} {o n : Int} {l : List Int} {b : Bool} (h : Swaps F s o n l b) (hb : ∀ k, ¬ SwapOk F s o n k) : l = [] ∧ b = false := by
  rcases h with ⟨k, h1, _⟩ | ⟨_, h⟩
  · exact absurd h1 (hb k)
  · exact h
theorem Swaps.ok {F : Fld} {s : Row} {o n : Int} {l : List Int} {b : Bool} {k : Nat} (h : Swaps F s o n l b) (hk : SwapOk F s o n k) : l = swapL s.l k n ∧ b = true := by
  rcases h with ⟨k', h1, h2⟩ | ⟨h, _⟩
  · have : (k' : Int) = k := h1.idx.symm.trans hk.idx
    have : k' = k := by omega
    subst this; exact h2
  · exact absurd hk (h k)
theorem idx_lt : ∀ (l : List Int) (x : Int) (i : Nat), Lib.idxFrom l x i < 0 ∨ ∃ k : Nat, k < l.length ∧ Lib.idxFrom l x i = ((i + k : Nat) : Int)
  | [], x, i => .inl (by simp [Lib.idxFrom])
  | z :: l, x, i => by
    unfold Lib.idxFrom
    by_cases h : z = x
    · rw [if_pos h]; exact .inr ⟨0, by simp, by simp⟩
    · rw [if_neg h]
      rcases idx_lt l x (i + 1) with h1 | ⟨k, h1, h2⟩
      · exact .inl h1
      · exact .inr ⟨k + 1, by simp; omega, by rw [h2]; congr 1; omega⟩

set_option maxHeartbeats 2000000 in
theorem implSwap_any (F : Fld) (s : Row) (o n : Int) (w : World) (hF : F.At w) (hs : s.At w) (hsm : s.l.length ≤ 1048576) (l : List Int) (b : Bool) (hv : Swaps F s o n l b) :
    Calls Try.prog 70 #[F.val, .slice s.a s.l.length s.c, .int .i64 o, .int .i64 n] w (PInts l b w) := by
  obtain ⟨wA, hA, hbA, bx, hFA, hszA⟩ := laid_fld F w 29 hF
  have HSA := Lib.hid (hs.on hbA)
  have HBX := Lib.hid bx
  have HA := Lib.hid hA
  have CT := Lib.hid (canServe_any F s wA hFA HSA.out)
  have HV := Lib.hid hv
  clear hF hs hA hFA bx hv
  show Calls _ _ #[.agg #[F.o.val, F.t.val], _, _, _] w _
  go_enter Try.func70, Try.ntmps70
  go_wp2_with fail
  rw [show w.alloc (Obj.cells #[F.o.val, F.t.val] 29) = wA from HA.out.symm]
  refine (show Calls _ _ _ _ _ from CT.out).mono ?_
  rintro e W1 ⟨rfl, hb1⟩
  have hbw := hbA.trans (hb1.mono hbA.size)
  have HW := Lib.hid hbw
  have HE : Hid (∀ (l' : List Int) (b' : Bool), l' = [] → b' = false → PInts l' b' w (.returned (.tuple #[.slice (some ⟨W1.heap.size, 0, none⟩) 0 0, .bool false])) (W1.alloc (.cells #[] 3))) := Lib.hid (by
    rintro _ _ rfl rfl
    exact swap_end rfl (empty_own W1) hbw.size (hbw.trans ((below_alloc W1 _).mono hbw.size)))
  obtain ⟨t, ht⟩ : ∃ t, t = twoB F s := ⟨_, rfl⟩
  rw [← ht]
  cases t with
  | false =>
    have HB := Lib.hid (HV.out.bad fun k h => by rw [h.two] at ht; cases ht)
    clear ht hbw
    go_wp2
    go_ret2
    exact HE.out _ _ HB.out.1 HB.out.2
  | true =>
    have HT := Lib.hid ht
    have x0 : W1.cell? ⟨w.heap.size, 0, none⟩ = some (.slice F.o.a F.o.l.length F.o.c) := (HBX.out.on hb1).c0
    clear ht hbw
    by_cases h0 : n < 0
    · have HB := Lib.hid (HV.out.bad fun k h => by have := h.lo; omega)
      go_wp2
      go_ret2
      exact HE.out _ _ HB.out.1 HB.out.2
    by_cases h1 : n < (F.o.l.length : Int)
    case neg =>
      have HB := Lib.hid (HV.out.bad fun k h => by have := h.hi; omega)
      have hge : (F.o.l.length : Int) ≤ n := by omega
      go_wp2
      go_ret2
      exact HE.out _ _ HB.out.1 HB.out.2
    obtain ⟨q1, q2, q3⟩ := HSA.out.on hb1
    have hpos := (twoB_iff.1 HT.out.symm).2.2
    rcases q3 with h3 | ⟨bk, of, hsa, hbb, hcell⟩
    · have h3' := congrArg List.length (iv_nil h3); rw [List.length_nil] at h3'; omega
    have HC : Hid (∀ j, j < s.l.length → W1.cell? ⟨bk, of + j, none⟩ = some (.int .i64 (s.l.getD j 0))) := Lib.hid fun j hj => by
      rw [hcell j _ (iv_at hj), List.getD_eq_getElem?_getD, List.getElem?_eq_getElem hj]; rfl
    have CC : Hid (Calls Try.prog 106 #[.slice (some ⟨bk, of, none⟩) s.l.length s.c, .int .i64 n] W1 fun e w' => e = .returned (.bool (hasI s.l n)) ∧ w' = W1) := Lib.hid (by
      have := Try.slices_Contains_int bk of s.l.length s.c s.l n W1 (Nat.le_refl _) (by omega) HC.out
      rw [List.take_length] at this; exact this)
    have CI : Hid (Calls Try.prog 107 #[.slice (some ⟨bk, of, none⟩) s.l.length s.c, .int .i64 o] W1 fun e w' => e = .returned (.int .i64 (Lib.idxOf s.l o)) ∧ w' = W1) := Lib.hid (by
      have := Try.slices_Index_int bk of s.l.length s.c s.l o W1 (Nat.le_refl _) (by omega) HC.out
      rw [List.take_length] at this; exact this)
    have CL : Hid (Calls Try.prog 74 #[.slice (some ⟨bk, of, none⟩) s.l.length s.c] W1 fun e w' => ∃ g cap, e = .returned (.slice (some ⟨g, 0, none⟩) s.l.length cap) ∧ w'.ownsRow W1.heap.size 3 1 (.slice (some ⟨g, 0, none⟩) s.l.length cap) s.l.length (iv s.l) ∧ Below W1.heap.size W1 w') := Lib.hid (by
      refine (Try.slices_Clone_int bk of s.l.length s.c s.l W1 (Nat.le_refl _) (by omega) HC.out).mono ?_
      rintro e w' ⟨v', rfl, ho, hne, hb⟩
      rw [List.take_length] at ho
      rcases id ho.2 with ⟨rfl, _⟩ | ⟨g, cap, cur, rfl, _⟩
      · exact absurd rfl hne
      · exact ⟨g, cap, rfl, ho, hb⟩)
    rw [hsa]
    clear q1 q2 hsa hbb hcell
    have h1' : ¬ (F.o.l.length : Int) ≤ n := by omega
    go_wp2_with fail
    refine CC.out.mono ?_
    rintro e W ⟨rfl, rfl⟩
    obtain ⟨u, hu⟩ : ∃ u, u = hasI s.l n := ⟨_, rfl⟩
    rw [← hu]
    have HU := Lib.hid hu
    clear hu
    cases u with
    | true =>
      have HB := Lib.hid (HV.out.bad fun k h => by have := h.no; rw [← HU.out] at this; cases this)
      go_wp2
      go_ret2
      exact HE.out _ _ HB.out.1 HB.out.2
    | false =>
      go_wp2_with fail
      refine CI.out.mono ?_
      rintro e W ⟨rfl, rfl⟩
      rcases id (show _ ∨ ∃ k : Nat, _ from idx_lt s.l o 0) with hneg | ⟨k, hk, hki⟩
      · obtain ⟨i, hi⟩ : ∃ i, i = Lib.idxOf s.l o := ⟨_, rfl⟩
        have HB := Lib.hid (HV.out.bad fun k h => by have h2 := h.idx; unfold Lib.idxOf at h2; omega)
        have hin : i < 0 := by rw [hi]; exact hneg
        rw [← hi]
        clear hi hneg
        go_wp2
        go_ret2
        exact HE.out _ _ HB.out.1 HB.out.2
      · rw [Nat.zero_add] at hki
        have hid : Lib.idxOf s.l o = (k : Int) := hki
        have HO := Lib.hid (HV.out.ok (k := k) ⟨HT.out.symm, by omega, h1, HU.out.symm, hk, hid⟩)
        rw [hid]
        have hk0 : ¬ (k : Int) < 0 := by omega
        have hki' : (k : Int) < (s.l.length : Int) := by omega
        clear hki hid
        go_wp2_with fail
        refine CL.out.mono ?_
        rintro e W2 ⟨g, cap, rfl, hown, hb2⟩
        obtain ⟨z, hz⟩ : ∃ z, W2.cell? ⟨g, k, none⟩ = some z := ⟨_, (hown.cellAt k (by omega)).trans (List.getElem?_eq_getElem (by rw [iv_length]; exact hk))⟩
        have hf := hown.frozenAt k
        have hst := (hown.stored k (.int .i64 n)).1
        have hb3 : Below W.heap.size W (W2.setCell ⟨g, k, none⟩ (.int .i64 n)) := hb2.setCell (p := ⟨g, k, none⟩) (owns_lt hown).2.2.2 _
        rw [show (iv s.l).set k (.int .i64 n) = iv (s.l.set k n) by unfold iv; rw [List.map_set]] at hst
        obtain ⟨W3, hW3⟩ : ∃ u, u = W2.setCell ⟨g, k, none⟩ (.int .i64 n) := ⟨_, rfl⟩
        rw [← hW3] at hst hb3
        have H3 := Lib.hid hW3
        have HST := Lib.hid hst
        have HB3 := Lib.hid hb3
        clear hown hb2 hst hb3 hW3
        have CS : Hid (Calls Try.prog 108 #[.slice (some ⟨g, 0, none⟩) s.l.length cap] W3 fun e w' => e = .returned (.tuple #[]) ∧ w'.ownsRow W.heap.size 3 1 (.slice (some ⟨g, 0, none⟩) s.l.length cap) s.l.length (iv (swapL s.l k n)) ∧ Below W.heap.size W w') := Lib.hid (by
          rcases id HST.out.2 with ⟨h, _⟩ | ⟨g', cap', cur, he, hB, hbk, hn1, hn2, hn3, hn4⟩
          · cases h
          simp only [Value.slice.injEq, Option.some.injEq, Addr.mk.injEq, and_true, true_and] at he
          obtain ⟨rfl, rfl⟩ := he
          have hH := holds_of_blockI (ss := s.l.set k n) hbk (by rw [List.length_set]; rw [Nat.mul_one] at hn4; exact hn4)
          have hgs : g < W3.heap.size := (Array.getElem?_eq_some_iff.1 hbk).1
          have hc := Try.slices_Sort_int g 0 cap (s.l.set k n) W3 hH hgs (by rw [List.length_set]; omega)
          rw [List.length_set] at hc
          refine hc.mono ?_
          rintro e w' ⟨rfl, n', os, rfl⟩
          refine ⟨rfl, ?_, HB3.out.grown (grownBy_sortedI _) HB3.out.size (fun j hj => by cases hj; exact hB)⟩
          have := ownsRow_sortedI (n := n') (os := os) (ts := swapL s.l k n) (ss := s.l.set k n) (by rw [swapL_len, List.length_set]) hB hbk (by rw [List.length_set]; exact hn1) hn2 hn3
          rw [List.length_set] at this
          exact this)
        go_wp2_with fail
        rw [← H3.out]
        refine CS.out.mono ?_
        rintro e W4 ⟨rfl, ho4, hb4⟩
        have HO4 := Lib.hid ho4
        have HB4 := Lib.hid hb4
        clear ho4 hb4
        go_wp2
        go_ret2
        rw [HO.out.1, HO.out.2]
        exact swap_end (swapL_len _ _ _).symm HO4.out HW.out.size (HW.out.trans (HB4.out.mono HW.out.size))

end Go.Proofs.Ytfmodibahpgkmaa
