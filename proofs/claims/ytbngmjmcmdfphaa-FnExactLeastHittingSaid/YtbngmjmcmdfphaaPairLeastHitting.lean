/- Both sides of LeastHitting answer alike. Condition: the System reads as such. -/
import Derived.Test.YtbngmjmcmdfphaaChoices
import Derived.Test.YtbngmjmcmdfphaaEigSetsOf
import Derived.Test.YtbngmjmcmdfphaaPost
import Derived.Test.YtbngmjmcmdfphaaAppendRow
import Derived.Test.YtbngmjmcmdfphaaPlainFirst2
import Derived.Test.YtbngmjmcmdfphaaPairIsCover
import Derived.Test.YtbngmjmcmdfphaaPairCostOf
import Derived.Test.YtbngmjmcmdfphaaSysGood
import Derived.Test.YtbngmjmcmdfphaaEigSizeSeq
import Derived.Test.YtbngmjmcmdfphaaPlainCover
import Derived.Test.YtbngmjmcmdfphaaServe
import Derived.Deep.RegionLaw
import Derived.Laws.CopyOwn
import Derived.Deep.OwnRows
import Derived.Test.YtbngmjmcmdfphaaCovered
import Derived.Test.YtbngmjmcmdfphaaShelf
import Derived.Test.YtbngmjmcmdfphaaGrow
import Derived.Test.YtbngmjmcmdfphaaSwap
import Derived.Test.YtbngmjmcmdfphaaClaims
import Derived.Deep.AppendLies
namespace Go.Proofs.Ytbngmjmcmdfphaa
open Go.RowKit Go.Shelf

theorem src_noTab (a : Option Addr) (c : Nat) (w : World) : Src Try.prog 1 22 (.slice a 0 c) 0 [] w := by
  have h : ∀ u : World, (Builtin.firstCells 1 0 (.slice a 0 c)).run Try.prog u = .ok #[] u := fun u => by
    cases a with
    | none => exact run_firstCells_none u 1 0 0 c
    | some a => exact run_firstCells_some u 1 0 a 0 c [] rfl (fun j v hj => by simp at hj)
  exact ⟨.inl ⟨_, rfl⟩, fun w' => by simp [Builtin.lenOf], h w, h w.drew, rfl, by simp⟩

set_option maxRecDepth 100000 in
/-- Rows that are appended to an own table, none of them among these. -/
theorem append_tabK (B : Nat) (v : Value) (n : Nat) (xs : List Value) (w : World) (hown : w.ownsRow B 23 1 v n xs) (a : Option Addr) (c m : Nat) (news : List Value) (hm : m = news.length) (hx : RowAt w a c news) (h1 : ∀ u ∈ news, u.oneCell' = true)
    (hb : n + m ≤ 100000) (hB : B ≤ w.heap.size) : ∃ v' w', (Builtin.append_ #[22, 22] 22 #[v, .slice a m c]).run Try.prog w = .ok v' w' ∧ w'.ownsRow B 23 1 v' (n + m) (xs ++ news) ∧ w.grownBy w' v.ownBlock := by
  obtain ⟨i0, hi, hz0, hz1, hz2⟩ := info_parts infoInts
  subst hm
  obtain ⟨_, _, h3⟩ := hx
  by_cases hn : news = []
  · subst hn
    refine ⟨v, w, ?_, by simpa using hown, ⟨rfl, rfl, rfl, Nat.le_refl _, fun _ _ _ => rfl⟩⟩
    have hs : Src Try.prog i0.size 22 (.slice a 0 c) 0 [] w := by rw [hz1]; exact src_noTab a c w
    rcases hown.2 with ⟨rfl, rfl⟩ | ⟨g, cap, cur, rfl, _, _, hnc, _⟩
    · exact run_append_nothing w _ _ _ 23 i0 rfl hi none 0 0 (Nat.le_refl _) _ hs
    · exact run_append_nothing w _ _ _ 23 i0 rfl hi _ n cap hnc _ hs
  · rcases h3 with h3 | ⟨b, o, rfl, _, h4⟩
    · exact absurd h3 hn
    · obtain ⟨v', w', hr, ho, hg, hv, hl⟩ := run_append_own_at (P := Try.prog) (w := w) B 22 22 23 i0 (.slice none 0 0) 1 24 rfl hi hz0 hz1 hz2 rfl (by decide) v n xs hown ⟨b, o, none⟩ news.length c news (by omega) (fun j u hj => by have h5 := h4 j u hj; by_cases e : j = 0 <;> simp_all [Addr.add]) h1 (by unfold maxLen; omega) (by omega) hB
      exact ⟨v', w', hr, ho, hg⟩

/-- The table of all choices, with rows of its own. -/
structure ChoTab (N B : Nat) (w : World) (g cap : Nat) (Q : List Row) : Prop where
  cell : ∀ k, (hk : k < Q.length) → w.cell? ⟨g, k, none⟩ = some (.slice Q[k].a Q[k].l.length Q[k].c)
  lt : g < w.heap.size
  rows : ∀ r ∈ Q, r.In B w.heap.size w ∧ r.Own 3 w
  row : Q.map Row.l = (choL N N).map up
  cap : Q.length ≤ cap ∧ cap ≤ maxLen
theorem ChoTab.on {N B : Nat} {w w' : World} {g cap : Nat} {Q : List Row} (h : ChoTab N B w g cap Q) (t : Below w.heap.size w w') : ChoTab N B w' g cap Q :=
  ⟨fun k hk => (t.cell (p := ⟨g, k, none⟩) h.lt).trans (h.cell k hk), Nat.lt_of_lt_of_le h.lt t.size, fun r hr => ⟨((h.rows r hr).1.on t).wide (Nat.le_refl _) t.size, (h.rows r hr).2.on t⟩, h.row, h.cap⟩
theorem ChoTab.len {N B : Nat} {w : World} {g cap : Nat} {Q : List Row} (h : ChoTab N B w g cap Q) : Q.length = (choL N N).length := by
  have := congrArg List.length h.row; rw [List.length_map, List.length_map] at this; exact this
theorem ChoTab.at {N B : Nat} {w : World} {g cap : Nat} {Q : List Row} (h : ChoTab N B w g cap Q) {k : Nat} (hk : k < Q.length) (h2 : k < (choL N N).length) : Q[k].l = up (choL N N)[k] := by
  have h1 : (Q.map Row.l)[k]? = some Q[k].l := by rw [List.getElem?_map, List.getElem?_eq_getElem hk]; rfl
  rw [h.row, List.getElem?_map, List.getElem?_eq_getElem h2] at h1
  simpa using h1.symm
theorem cho_all : ∀ n ≤ 8, (choL n n).all (fun T => setB n (up T) && decide (T.length ≤ 8) && T.all (fun x => decide (x < n))) = true ∧ (choL n n).length ≤ 256 := by decide +kernel
theorem cho_ok {n : Nat} (hn : n ≤ 8) {T : List Nat} (hT : T ∈ choL n n) : setB n (up T) = true ∧ T.length ≤ 8 ∧ ∀ x ∈ T, x < n := by
  have := List.all_eq_true.1 (cho_all n hn).1 T hT
  simpa [and_assoc] using this
theorem tv_one (R : List Row) : ∀ u ∈ tv R, u.oneCell' = true := fun u hu => by
  unfold tv at hu; obtain ⟨r, _, rfl⟩ := List.mem_map.1 hu; rfl

set_option maxRecDepth 16000 in
set_option maxHeartbeats 2000000 in
theorem l6Choices_any (n : Nat) (w : World) (hn : n ≤ 8) :
    Calls Try.prog 38 #[.int .i64 n] w fun e w' => ∃ g cap Q, e = .returned (.slice (some ⟨g, 0, none⟩) (choL n n).length cap) ∧ ChoTab n w.heap.size w' g cap Q ∧ Below w.heap.size w w' := by
  obtain ⟨wA, hA⟩ : ∃ wA, wA = (w.alloc (.cells #[] 3)).alloc (.cells #[.slice (some ⟨w.heap.size, 0, none⟩) 0 0] 23) := ⟨_, rfl⟩
  have hbA : Below w.heap.size w wA := by rw [hA]; exact ((Below.refl _ w).alloc (Nat.le_refl _) _).alloc (by simp) _
  have hszA : wA.heap.size = w.heap.size + 1 + 1 := by rw [hA, size_alloc, size_alloc]
  obtain ⟨x, hx⟩ : ∃ x : Row, x = ⟨some ⟨w.heap.size, 0, none⟩, 0, []⟩ := ⟨_, rfl⟩
  have hown0 : wA.ownsRow w.heap.size 23 1 (.slice (some ⟨w.heap.size + 1, 0, none⟩) 1 1) 1 (tv [x]) := by
    have h1 := heap_alloc_new (w.alloc (.cells #[] 3)) (.cells #[.slice (some ⟨w.heap.size, 0, none⟩) 0 0] 23)
    rw [size_alloc] at h1
    rw [hA, hx]
    exact ⟨by simp [tv], .inr ⟨w.heap.size + 1, 1, #[.slice (some ⟨w.heap.size, 0, none⟩) 0 0], rfl, by omega, h1, Nat.le_refl _, by decide, rfl, by simp [tv, Row.val]⟩⟩
  have CL := Lib.hid (E8.l2Sets_any n wA hn)
  have HA := Lib.hid hA
  have HO := Lib.hid hown0
  have HX := Lib.hid hx
  clear hA hown0 hx
  go_enter Try.func38, Try.ntmps38
  go_wp2_with fail
  rw [show (w.alloc (.cells #[] 3)).alloc (.cells #[.slice (some ⟨w.heap.size, 0, none⟩) 0 0] 23) = wA from HA.out.symm]
  refine (show Calls _ _ _ _ _ from CL.out).mono ?_
  rintro e W1 ⟨v, g, cap, Q, rfl, hT, hb1⟩
  have hv := hT.val
  subst hv
  have hown1 := owns_below HO.out hb1
  have hQ := hT.len
  have hcon := hT.con
  rw [E8.sets_all n hn] at hcon
  have hrow : RowAt W1 (some ⟨g, 0, none⟩) cap (tv Q) := by
    have h1 := hT.lt
    refine ⟨by rw [tv_length]; omega, h1.2.2.1, .inr ⟨g, 0, rfl, h1.1, fun j y hj => ?_⟩⟩
    have hjl : j < Q.length := by have := (List.getElem?_eq_some_iff.1 hj).1; rwa [tv_length] at this
    rw [Nat.zero_add, hT.cell hjl]
    rw [tv_at hjl] at hj
    simpa using hj
  have hQl : Q.length ≤ 256 := by
    have := (cho_all n hn).2
    have h2 := congrArg List.length hcon
    rw [List.length_map, List.length_map] at h2
    unfold choL at this
    rw [List.length_cons, E8.preS_all] at this
    omega
  obtain ⟨v', w', hr, ho', hg'⟩ := append_tabK w.heap.size (.slice (some ⟨w.heap.size + 1, 0, none⟩) 1 1) 1 (tv [x]) W1 hown1 (some ⟨g, 0, none⟩) cap Q.length (tv Q) (tv_length Q).symm hrow (tv_one Q) (by omega) (Nat.le_trans hbA.size hb1.size)
  rw [hQ] at hr
  have HEND : Hid (∃ g2 cap2 Q2, v' = .slice (some ⟨g2, 0, none⟩) (choL n n).length cap2 ∧ ChoTab n w.heap.size w' g2 cap2 Q2 ∧ Below w.heap.size w w') := Lib.hid (by
    have hl : 1 + Q.length = (x :: Q).length := by rw [List.length_cons]; omega
    have hmap : (x :: Q).map Row.l = (choL n n).map up := by
      rw [List.map_cons, hcon, HX.out]
      unfold choL
      rw [List.map_cons, E8.preS_all]; rfl
    have hlen : (x :: Q).length = (choL n n).length := by have := congrArg List.length hmap; rwa [List.length_map, List.length_map] at this
    have ho2 : w'.ownsRow w.heap.size 23 1 v' (x :: Q).length (tv (x :: Q)) := by rw [← hl]; exact ho'
    rcases id ho2.2 with ⟨_, h0⟩ | ⟨g2, cap2, cur, rfl, hB2, _⟩
    · simp at h0
    · have h3 := owns_lt ho2
      refine ⟨g2, cap2, x :: Q, by rw [← hlen], ⟨fun k hk => (ho2.cellAt k (by omega)).trans (tv_at hk), h3.1, fun r hr => ?_, hmap, ⟨h3.2.1, h3.2.2.1⟩⟩, ?_⟩
      · have hgs := hg'.size
        rcases List.mem_cons.1 hr with hr | hr
        · subst hr
          rw [HX.out]
          exact ⟨by unfold Row.In RowIn; exact ⟨Nat.le_refl _, Nat.zero_le _, .inl rfl⟩, .inl rfl⟩
        · have hri := hT.grows.ins r hr
          have hro := hT.grows.lots.1 r hr
          have hk : ∀ b, b < W1.heap.size → wA.heap.size ≤ b → w'.heap[b]? = W1.heap[b]? := fun b hb1 hb2 => hg'.block b hb1 (fun e => by have e2 : b = w.heap.size + 1 := Option.some.inj e; omega)
          refine ⟨?_, hro.keep fun b hl hb => ?_⟩
          · obtain ⟨q1, q2, q3⟩ := hri
            refine ⟨q1, q2, ?_⟩
            rcases q3 with q3 | ⟨b, o, e, p1, p2, p3, p4⟩
            · exact .inl q3
            · exact .inr ⟨b, o, e, by omega, by omega, by omega, fun j y hj => (World.cell?_of_block (a := ⟨b, o + j, none⟩) (hk b p3 p1)).trans (p4 j y hj)⟩
          · obtain ⟨_, _, q3⟩ := hri
            rcases q3 with q3 | ⟨b', o, e, p1, p2, p3, _⟩
            · exact absurd (iv_nil q3) hl
            · rw [hb] at e
              simp only [Option.some.injEq, Addr.mk.injEq] at e
              obtain ⟨rfl, _⟩ := e
              exact hk b p3 p1
      · have hb01 := hbA.trans (hb1.mono hbA.size)
        exact ⟨hg'.os.trans hb01.os, hg'.tape.trans hb01.tape, hg'.output.trans hb01.output, Nat.le_trans hb01.size hg'.size, fun k hk => (hg'.block k (by have := hb01.size; omega) (fun e => by have e2 : k = w.heap.size + 1 := Option.some.inj e; omega)).trans (hb01.block k hk)⟩)
  have HR := Lib.hid hr
  clear hown1 hcon hrow ho' hg' hr hT hb1 hQ hQl
  have hr2 := HR.out
  go_wp2_with (at_builtin; refine Lib.wpList_append_run _ rfl _ _ _ _ rfl _ _ rfl rfl _ _ hr2 ?_)
  obtain ⟨g2, cap2, Q2, hv2, hT2, hB2⟩ := HEND.out
  subst hv2
  clear hr2
  go_wp2
  go_ret
  exact ⟨g2, cap2, Q2, rfl, hT2, hB2⟩
end Go.Proofs.Ytbngmjmcmdfphaa

namespace Go.Proofs.Ytbngmjmcmdfphaa

/-- What the search compares: the cost of a cover, and more than each for all others. -/
def phiC (S : Sys) (T : List Nat) : Int := if covB S T = true then costT S T else 793
theorem costT_bound {S : Sys} (hg : S.good = true) {T : List Nat} (hT : T.length ≤ 8) : 0 ≤ costT S T ∧ costT S T ≤ 792 := by
  have h := costs_take hg T hT T.length
  rw [List.take_of_length_le (by rw [pays_len]; exact Nat.le_refl _)] at h
  exact h
theorem phiC_like {S U : Sys} (h : U.Like S) : phiC U = phiC S := by funext T; unfold phiC; rw [covB_like h, costT_like h]
theorem phiC_bound {S : Sys} (hg : S.good = true) {T : List Nat} (hT : T.length ≤ 8) : 0 ≤ phiC S T ∧ phiC S T ≤ 793 := by
  have := costT_bound hg hT
  unfold phiC; split <;> omega
/-- Whether there is a cover, and the first one with the least cost. -/
def hasC (S : Sys) : Bool := S.good && covB S (List.range S.f.t.con.length)
def leastC (S : Sys) : List Nat := firstE (phiC S) (choL S.f.t.con.length S.f.t.con.length)

/-- The search from the end. -/
def stepL (φ : List Nat → Int) (T b : List Nat) : List Nat := if φ T ≤ φ b then T else b
theorem firstE_cons (φ : List Nat → Int) : ∀ (s : List (List Nat)) (x y : List Nat), firstE φ (x :: (y :: s)) = if φ (firstE φ (y :: s)) < φ x then firstE φ (y :: s) else x := by
  intro s
  induction h : s.length generalizing s with
  | zero =>
    intro x y
    have : s = [] := List.eq_nil_of_length_eq_zero h
    subst this
    rfl
  | succ n ih =>
    intro x y
    obtain ⟨s', t, rfl⟩ : ∃ s' t, s = s' ++ [t] := ⟨s.dropLast, s.getLast (by intro e; rw [e] at h; simp at h), (List.dropLast_concat_getLast _).symm⟩
    have hl : s'.length = n := by rw [List.length_append, List.length_singleton] at h; omega
    have e1 := firstE_snoc φ x (y :: s') t
    have e2 := firstE_snoc φ y s' t
    simp only [List.cons_append] at e1 e2
    rw [e1, e2, ih s' hl x y]
    clear e1 e2 ih h hl
    generalize firstE φ (y :: s') = F
    unfold stepE
    by_cases h1 : φ F < φ x <;> by_cases h2 : φ t < φ F <;> by_cases h3 : φ t < φ x <;> first | (exfalso; omega) | simp only [h1, h2, h3, if_true, if_false]
theorem foldr_first (φ : List Nat → Int) (z : List Nat) : ∀ (r : List (List Nat)) (x : List Nat), (x :: r).foldr (stepL φ) z = if φ (firstE φ (x :: r)) ≤ φ z then firstE φ (x :: r) else z
  | [], x => rfl
  | y :: s, x => by
    rw [List.foldr_cons, foldr_first φ z s y, firstE_cons φ s x y]
    generalize firstE φ (y :: s) = F
    unfold stepL
    by_cases h1 : φ F < φ x <;> by_cases h2 : φ F ≤ φ z <;> by_cases h3 : φ x ≤ φ z <;> by_cases h4 : φ x ≤ φ F <;> first | (exfalso; omega) | simp only [h1, h2, h3, h4, if_true, if_false]
theorem foldr_last (φ : List Nat → Int) (L : List (List Nat)) (z : List Nat) : (L ++ [z]).foldr (stepL φ) z = firstE φ (L ++ [z]) := by
  rw [List.foldr_append]
  simp only [List.foldr_cons, List.foldr_nil]
  rw [show stepL φ z z = z by unfold stepL; simp]
  cases L with
  | nil => simp [firstE]
  | cons x r =>
    rw [foldr_first φ z r x, firstE_snoc]
    generalize firstE φ (x :: r) = F
    unfold stepE
    by_cases h1 : φ F ≤ φ z <;> by_cases h2 : φ z < φ F <;> first | (exfalso; omega) | simp only [h1, h2, if_true, if_false]
theorem cho_last : ∀ n ≤ 8, choL n n = (choL n n).dropLast ++ [List.range n] := by decide +kernel
/-- The model's search: the best one of the choices from the place j on. -/
def stepC (S : Sys) (T b : List Nat) : List Nat := if covB S T = true ∧ costT S T ≤ costT S b then T else b
def leastTo (S : Sys) (L : List (List Nat)) (z : List Nat) (j : Nat) : List Nat := (L.drop j).foldr (stepC S) z
theorem leastTo_end (S : Sys) (L : List (List Nat)) (z : List Nat) : leastTo S L z L.length = z := by simp [leastTo]
theorem leastTo_step (S : Sys) (L : List (List Nat)) (z : List Nat) {j : Nat} (h : j < L.length) : leastTo S L z j = stepC S L[j] (leastTo S L z (j + 1)) := by
  unfold leastTo; rw [List.drop_eq_getElem_cons h]; rfl
theorem leastTo_mem (S : Sys) (L : List (List Nat)) (z : List Nat) : ∀ X : List (List Nat), X.foldr (stepC S) z = z ∨ X.foldr (stepC S) z ∈ X
  | [] => .inl rfl
  | T :: X => by
    rw [List.foldr_cons]
    unfold stepC
    split
    · exact .inr List.mem_cons_self
    · exact (leastTo_mem S L z X).imp id (List.mem_cons_of_mem _)
theorem foldr_same {S : Sys} (hg : S.good = true) (z : List Nat) (hz : covB S z = true) (hz8 : z.length ≤ 8) : ∀ X : List (List Nat), (∀ T ∈ X, T.length ≤ 8) → X.foldr (stepC S) z = X.foldr (stepL (phiC S)) z ∧ covB S (X.foldr (stepC S) z) = true ∧ (X.foldr (stepC S) z).length ≤ 8
  | [], _ => ⟨rfl, hz, hz8⟩
  | T :: X, h => by
    obtain ⟨h1, h2, h3⟩ := foldr_same hg z hz hz8 X fun U hU => h U (List.mem_cons_of_mem _ hU)
    have hT := h T List.mem_cons_self
    have hb := costT_bound hg h3
    rw [List.foldr_cons, List.foldr_cons, ← h1]
    clear h1
    generalize List.foldr (stepC S) z X = Z at h2 h3 hb ⊢
    have e : stepC S T Z = stepL (phiC S) T Z := by
      unfold stepC stepL phiC
      rw [if_pos h2]
      by_cases hc : covB S T = true
      · simp only [hc, true_and, if_true]
      · rw [if_neg (fun h => hc h.1), if_neg hc, if_neg (by omega)]
    refine ⟨e, ?_, ?_⟩
    · unfold stepC
      split
      · rename_i h; exact h.1
      · exact h2
    · unfold stepC
      split
      · exact hT
      · exact h3
theorem leastTo_all {S : Sys} (hg : S.good = true) (hc : covB S (List.range S.f.t.con.length) = true) (hN : S.f.t.con.length ≤ 8) : leastTo S (choL S.f.t.con.length S.f.t.con.length) (List.range S.f.t.con.length) 0 = leastC S := by
  unfold leastTo leastC
  rw [List.drop_zero, (foldr_same hg _ hc (by rw [List.length_range]; exact hN) _ (fun T hT => (cho_ok hN hT).2.1)).1]
  have h := cho_last _ hN
  rw [h]; exact foldr_last _ _ _
theorem hasC_iff {S : Sys} : hasC S = true ↔ S.good = true ∧ covB S (List.range S.f.t.con.length) = true := by unfold hasC; rw [Bool.and_eq_true]
theorem hasC_like {S U : Sys} (h : U.Like S) : hasC U = hasC S := by unfold hasC; rw [h.good, covB_like h, h.2.2]
theorem leastC_like {S U : Sys} (h : U.Like S) : leastC U = leastC S := by unfold leastC; rw [phiC_like h, h.2.2]
theorem bits_full : ∀ n ≤ 8, E8.bitsT n (2 ^ n - 1) = List.range n := by decide +kernel
theorem setB_range : ∀ n ≤ 8, setB n (up (List.range n)) = true := by decide +kernel
theorem leastC_len {S : Sys} (hN : S.f.t.con.length ≤ 8) : (leastC S).length ≤ 8 := by
  have h := cho_last _ hN
  unfold leastC
  have : ∀ (r : List (List Nat)) (x : List Nat), firstE (phiC S) (x :: r) ∈ x :: r := by
    intro r
    induction r with
    | nil => intro x; simp [firstE]
    | cons y s ih => intro x; rw [firstE_cons]; split; exact List.mem_cons_of_mem _ (ih y); exact List.mem_cons_self
  exact (cho_ok hN (this _ _)).2.1
end Go.Proofs.Ytbngmjmcmdfphaa

namespace Go.Proofs.Ytbngmjmcmdfphaa
open Go.RowKit
end Go.Proofs.Ytbngmjmcmdfphaa

namespace Go.Proofs.Ytbngmjmcmdfphaa
open Go.RowKit Go.Shelf

theorem leastTo_ok {S : Sys} {N : Nat} (hN : N ≤ 8) (j : Nat) : setB N (up (leastTo S (choL N N) (List.range N) j)) = true ∧ (leastTo S (choL N N) (List.range N) j).length ≤ 8 ∧ ∀ x ∈ leastTo S (choL N N) (List.range N) j, x < N := by
  rcases leastTo_mem S (choL N N) (List.range N) ((choL N N).drop j) with h | h
  · have e : leastTo S (choL N N) (List.range N) j = List.range N := h
    rw [e]
    exact ⟨setB_range N hN, by rw [List.length_range]; exact hN, fun x hx => List.mem_range.1 hx⟩
  · exact cho_ok hN (List.mem_of_mem_drop h)

set_option maxHeartbeats 1000000 in
theorem l6All_any (S : Sys) (n : Nat) (w : World) (hS : S.At w) (hn : S.f.t.R.length = n) (hn8 : n ≤ 8) :
    Calls Try.prog 49 #[.agg #[.int .i64 S.n, .slice S.f.t.a n S.f.t.c, .slice S.f.o.a S.f.o.l.length S.f.o.c]] w fun e w' => ∃ t : Row, e = .returned (.slice t.a t.l.length t.c) ∧ t.l = up (List.range n) ∧ t.Own 3 w' ∧ t.In w.heap.size w'.heap.size w' ∧ Below w.heap.size w w' := by
  obtain ⟨wA, hA, hb, bx, hSA, hszA⟩ := laid_sys S w 29 hS
  rw [hn] at hA bx
  have HS : Hid (∀ u, Below wA.heap.size wA u → ((u.cell? ⟨w.heap.size, 0, none⟩ = some (.int .i64 S.n) ∧ u.cell? ⟨w.heap.size, 1, none⟩ = some (.slice S.f.t.a n S.f.t.c) ∧ u.cell? ⟨w.heap.size, 2, none⟩ = some (.slice S.f.o.a S.f.o.l.length S.f.o.c)) ∧ Below wA.heap.size wA u)) := Lib.hid fun u hu => sys_cells bx u hu
  have hN : Below wA.heap.size wA wA.drew := (Below.refl _ _).drew
  have s0 := HS.out wA.drew hN
  have hszr := hN.size
  have hp1 : 1 ≤ 2 ^ n := Nat.one_le_two_pow
  have hp2 : 2 ^ n ≤ 256 := by
    have : 2 ^ n ≤ 2 ^ 8 := Nat.pow_le_pow_right (by omega) hn8
    simpa using this
  have CB0 := fun u => E8.l2Bits_any n (2 ^ n - 1) u hn8 (by omega)
  rw [bits_full n hn8] at CB0
  obtain ⟨m, hm⟩ : ∃ m, m = 2 ^ n := ⟨_, rfl⟩
  have hpi : (2 : Int) ^ n = (m : Int) := by rw [hm]; push_cast; rfl
  rw [← hm] at hp1 hp2 CB0
  have hmi : (m : Int) ≤ 256 := by omega
  have hmi1 : 1 ≤ (m : Int) := by omega
  rw [show ((m - 1 : Nat) : Int) = (m : Int) - 1 by omega] at CB0
  have CB := Lib.hid CB0
  have HA := Lib.hid hA
  have HB := Lib.hid hb
  have hni : (n : Int) ≤ 8 := by omega
  have hni0 : (0 : Int) ≤ (n : Int) := by omega
  have HSZ := Lib.hid hszA
  clear hS hA bx hSA hszA hm CB0 hn hb hp1 hp2
  have hw1 : IntKind.i64.wrap (m : Int) = (m : Int) := IntWalk.i64_in _ (by omega)
  have hw2 : IntKind.i64.wrap ((m : Int) - 1) = (m : Int) - 1 := IntWalk.i64_in _ (by omega)
  go_enter Try.func49, Try.ntmps49
  go_wp2_with fail
  rw [← HA.out]
  first | (go_region_held3 (fun u => ((u.cell? ⟨w.heap.size, 0, none⟩ = some (.int .i64 S.n) ∧ u.cell? ⟨w.heap.size, 1, none⟩ = some (.slice S.f.t.a n S.f.t.c) ∧ u.cell? ⟨w.heap.size, 2, none⟩ = some (.slice S.f.o.a S.f.o.l.length S.f.o.c)) ∧ Below wA.heap.size wA u)) (first | exact s0 | exact HS.out _ (by assumption)) ((go_at_call 65; refine (show Calls _ _ _ _ _ from CB.out _).mono ?_; rintro e u1 ⟨t, rfl, htl, hto, hti, hb1⟩; have hB1 : Below wA.heap.size wA u1 := hN.trans (hb1.mono hszr); have HT4 := Lib.hid (And.intro htl (And.intro hto hti)); clear htl hto hti hb1))) | fail
  have HEND : Hid (t.l = up (List.range n) ∧ t.Own 3 u1 ∧ t.In w.heap.size u1.heap.size u1 ∧ Below w.heap.size w u1) := Lib.hid ⟨HT4.out.1, HT4.out.2.1, HT4.out.2.2.wide (by have := HSZ.out; have := hszr; omega) (Nat.le_refl _), HB.out.trans (hB1.mono HB.out.size)⟩
  clear hw1 hw2 hB1
  go_wp2
  go_ret
  exact ⟨t, rfl, HEND.out.1, HEND.out.2.1, HEND.out.2.2.1, HEND.out.2.2.2⟩

set_option linter.unusedSimpArgs false in
set_option maxRecDepth 32000 in
set_option maxHeartbeats 2000000 in
theorem l6Least_any (S : Sys) (w : World) (hS : S.At w) (hg : S.good = true) (q : Bool) (hq : q = covB S (List.range S.f.t.R.length)) (l : List Int) (hl0 : l = if q then up (leastC S) else []) :
    Calls Try.prog 25 #[.agg #[.int .i64 S.n, .slice S.f.t.a S.f.t.R.length S.f.t.c, .slice S.f.o.a S.f.o.l.length S.f.o.c]] w (PInts l q w) := by
  obtain ⟨wA, hA, hb, bx, hSA, hszA⟩ := laid_sys S w 29 hS
  obtain ⟨-, -, -, hN8, -, -, -⟩ := good_n hg
  have hNR : S.f.t.con.length = S.f.t.R.length := con_length S.f.t
  have hR8 : S.f.t.R.length ≤ 8 := by omega
  have hRi : (S.f.t.R.length : Int) ≤ 8 := by omega
  have HS : Hid (∀ u, Below wA.heap.size wA u → ((u.cell? ⟨w.heap.size, 0, none⟩ = some (.int .i64 S.n) ∧ u.cell? ⟨w.heap.size, 1, none⟩ = some (.slice S.f.t.a S.f.t.R.length S.f.t.c) ∧ u.cell? ⟨w.heap.size, 2, none⟩ = some (.slice S.f.o.a S.f.o.l.length S.f.o.c)) ∧ Below wA.heap.size wA u)) := Lib.hid fun u hu => sys_cells bx u hu
  have hN : Below wA.heap.size wA wA.drew := (Below.refl _ _).drew
  have s0 := HS.out wA.drew hN
  have hszr := hN.size
  have CA := Lib.hid (fun u (hu : Below wA.heap.size wA u) => l6All_any S S.f.t.R.length u (Sys.At.on (show S.At wA from hSA) hu) rfl hR8)
  have CC := Lib.hid (fun u (hu : Below wA.heap.size wA u) (y : Row) (hy : y.At u) (hl : y.l = up (List.range S.f.t.R.length)) => by have := l6Cover_any S y (List.range S.f.t.R.length) u (Sys.At.on (show S.At wA from hSA) hu) hy (good_row8 hg) hl (by rw [hNR]; intro m hm; exact List.mem_range.1 hm) (by rw [List.length_range]; exact hR8); rw [← hq] at this; exact this : ∀ u, Below wA.heap.size wA u → ∀ y : Row, y.At u → y.l = up (List.range S.f.t.R.length) → Calls Try.prog 48 #[.agg #[.int .i64 S.n, .slice S.f.t.a S.f.t.R.length S.f.t.c, .slice S.f.o.a S.f.o.l.length S.f.o.c], .slice y.a y.l.length y.c] u fun e w' => e = .returned (.bool q) ∧ Below u.heap.size u w')
  have HA := Lib.hid hA
  have HB := Lib.hid hb
  have HSA := Lib.hid hSA
  have HG := Lib.hid hg
  have HQ := Lib.hid hq
  have HL0 := Lib.hid hl0
  have HNR := Lib.hid hNR
  have HSZ := Lib.hid hszA
  clear hS hA hb bx hSA hszA hg hq hl0 hNR hN8
  go_enter Try.func25, Try.ntmps25
  go_wp2_with fail
  rw [← HA.out]
  first | (go_region_held3 (fun u => ((u.cell? ⟨w.heap.size, 0, none⟩ = some (.int .i64 S.n) ∧ u.cell? ⟨w.heap.size, 1, none⟩ = some (.slice S.f.t.a S.f.t.R.length S.f.t.c) ∧ u.cell? ⟨w.heap.size, 2, none⟩ = some (.slice S.f.o.a S.f.o.l.length S.f.o.c)) ∧ Below wA.heap.size wA u)) (first | exact s0 | exact HS.out _ (by assumption)) (first | (go_at_call 49; refine (show Calls _ _ _ _ _ from CA.out _ hN).mono ?_; rintro e u1 ⟨y, rfl, hyl, -, hyi, hb1⟩; have HY := Lib.hid hyl; have HYI := Lib.hid hyi.at; have hB1 : Below wA.heap.size wA u1 := hN.trans (hb1.mono hszr); have hsz1 := hB1.size; clear hyl hyi hb1) | (go_at_call 48; refine (show Calls _ _ _ _ _ from CC.out _ hB1 y HYI.out HY.out).mono ?_; rintro e u2 ⟨rfl, hb2⟩; have hB2 : Below wA.heap.size wA u2 := hB1.trans (hb2.mono hsz1); have HB2 := Lib.hid hB2; clear hb2))) | fail
  clear s0 hN hszr hB1 hsz1
  have hbw := HB.out.trans (HB2.out.mono HB.out.size)
  have HBW := Lib.hid hbw
  cases q with
  | false =>
    have HEND : Hid (PInts l false w (.returned (.tuple #[.slice (some ⟨u2.heap.size, 0, none⟩) 0 0, .bool false])) (u2.alloc (.cells #[] 3))) := Lib.hid (by
      have : l = [] := HL0.out
      subst this
      exact ints_end rfl (empty_own u2) hbw.size (hbw.trans ((below_alloc u2 _).mono hbw.size)))
    clear hB2 hbw
    go_wp2
    go_ret2
    exact HEND.out
  | true =>
    obtain ⟨⟨z0, z1, z2⟩, -⟩ := HS.out u2 hB2
    have HS2 : Hid (∀ u, Below u2.heap.size u2 u → ((u.cell? ⟨w.heap.size, 0, none⟩ = some (.int .i64 S.n) ∧ u.cell? ⟨w.heap.size, 1, none⟩ = some (.slice S.f.t.a S.f.t.R.length S.f.t.c) ∧ u.cell? ⟨w.heap.size, 2, none⟩ = some (.slice S.f.o.a S.f.o.l.length S.f.o.c)) ∧ Below u2.heap.size u2 u)) := Lib.hid fun u hu => ⟨(HS.out u (HB2.out.trans (hu.mono HB2.out.size))).1, hu⟩
    have hN2 : Below u2.heap.size u2 u2.drew := (Below.refl _ _).drew
    have s2 := HS2.out u2.drew hN2
    have hszr2 := hN2.size
    have CA2 := Lib.hid (fun u (hu : Below u2.heap.size u2 u) => CA.out u (HB2.out.trans (hu.mono HB2.out.size)))
    have CH := fun u => l6Choices_any S.f.t.R.length u hR8
    obtain ⟨L, hL⟩ : ∃ L, L = choL S.f.t.R.length S.f.t.R.length := ⟨_, rfl⟩
    obtain ⟨c, hc⟩ : ∃ c, c = L.length := ⟨_, rfl⟩
    rw [← hL, ← hc] at CH
    have HCH := Lib.hid CH
    have hc256 : c ≤ 256 := by rw [hc, hL]; exact (cho_all _ hR8).2
    have hc1 : 1 ≤ c := by rw [hc, hL]; unfold choL; simp
    have hci : (c : Int) ≤ 256 := by omega
    have hci1 : (1 : Int) ≤ (c : Int) := by omega
    have HLM : Hid (leastTo S L (List.range S.f.t.R.length) 0 = leastC S) := Lib.hid (by
      have := leastTo_all HG.out (by rw [HNR.out]; exact HQ.out.symm) (by rw [HNR.out]; exact hR8)
      rw [hL, ← HNR.out]; exact this)
    have HLL : Hid (l = up (leastC S)) := Lib.hid (by rw [HL0.out, if_pos rfl])
    have HLD := Lib.hid hL
    have HCD := Lib.hid hc
    clear hL hc CH hB2 hbw hc256
    go_wp2_with fail
    first | (go_region_held3 (fun u => ((u.cell? ⟨w.heap.size, 0, none⟩ = some (.int .i64 S.n) ∧ u.cell? ⟨w.heap.size, 1, none⟩ = some (.slice S.f.t.a S.f.t.R.length S.f.t.c) ∧ u.cell? ⟨w.heap.size, 2, none⟩ = some (.slice S.f.o.a S.f.o.l.length S.f.o.c)) ∧ Below u2.heap.size u2 u)) (first | exact s2 | exact HS2.out _ (by assumption)) (first | (go_at_call 49; refine (show Calls _ _ _ _ _ from CA2.out _ hN2).mono ?_; rintro e u3 ⟨y0, rfl, hyl, hyo, hyi, hb3⟩; have HY0 := Lib.hid (And.intro hyl (And.intro hyo hyi)); have hB3 : Below u2.heap.size u2 u3 := hN2.trans (hb3.mono hszr2); have hsz3 := hB3.size; clear hyl hyo hyi hb3) | (go_at_call 38; refine (show Calls _ _ _ _ _ from HCH.out u3).mono ?_; rintro e u4 ⟨g, cap, Q, rfl, hT, hb4⟩; have HT := Lib.hid hT; have HB34 := Lib.hid hb4; have HB3S : Hid (u2.heap.size ≤ u3.heap.size) := Lib.hid hsz3; have hB4 : Below u2.heap.size u2 u4 := hB3.trans (hb4.mono hsz3); have HB4 := Lib.hid hB4; clear hb4 hT))) | fail
    have HQC : Hid (Q.length = c) := Lib.hid (by rw [HT.out.len, HCD.out, HLD.out])
    have hcapi : (c : Int) ≤ (cap : Int) := by have := HT.out.cap; have := HQC.out; omega
    have HBA4 : Hid (Below wA.heap.size wA u4) := Lib.hid (HB2.out.trans (HB4.out.mono HB2.out.size))
    have HYS : Hid (y0.l = up (List.range S.f.t.R.length) ∧ y0.Own 3 u4 ∧ y0.In w.heap.size u4.heap.size u4) := Lib.hid (by
      obtain ⟨h1, h2, h3⟩ := HY0.out
      exact ⟨h1, h2.on HB34.out, (h3.on HB34.out).wide (by have := HBW.out.size; have := hszr2; omega) HB34.out.size⟩)
    clear s2 hN2 hszr2 hB3 hsz3 hB4 z0 z1 z2
    go_wp2
    go_loopw [4, 6] (fun bv iv wr => ∃ (j : Nat) (y : Row), j ≤ c ∧ iv = .int .i64 ((j : Int) - 1) ∧ bv = .slice y.a y.l.length y.c ∧ Hid (y.l = up (leastTo S L (List.range S.f.t.R.length) j) ∧ y.Own 3 wr ∧ y.In w.heap.size wr.heap.size wr) ∧ Below u4.heap.size u4 wr) (fun _ iv _ => (intOf iv + 1).toNat)
    case atStart => exact ⟨c, y0, Nat.le_refl _, rfl, rfl, Lib.hid ⟨by rw [HYS.out.1]; congr 1; rw [HCD.out, leastTo_end], HYS.out.2.1, HYS.out.2.2⟩, Below.refl _ _⟩
    case round =>
      obtain ⟨j1, y, hj, hiv, rfl, HY2, hnx⟩ := hrel
      have HNX := Lib.hid hnx
      rcases Nat.eq_zero_or_pos j1 with rfl | hpos
      · rw [show ((0 : Nat) : Int) - 1 = -1 by rfl] at hiv
        subst hiv
        have HEND : Hid (PInts l true w (.returned (.tuple #[.slice y.a y.l.length y.c, .bool true])) wr) := Lib.hid
          ⟨y, rfl, by rw [HY2.out.1, HLL.out, HLM.out], HY2.out.2.1, HY2.out.2.2, HBW.out.trans ((HB4.out.trans (hnx.mono HB4.out.size)).mono HBW.out.size)⟩
        clear hnx
        go_wp2
        go_ret2
        exact HEND.out
      · obtain ⟨j, rfl⟩ : ∃ j, j1 = j + 1 := ⟨j1 - 1, by omega⟩
        rw [show ((j + 1 : Nat) : Int) - 1 = (j : Int) by push_cast; omega] at hiv
        subst hiv
        have hlt : j < c := by omega
        have hlti : (j : Int) < (c : Int) := by omega
        have hjQ : j < Q.length := by rw [HQC.out]; exact hlt
        have hjL : j < L.length := by rw [← HCD.out]; exact hlt
        obtain ⟨r, hr⟩ : ∃ r, r = Q[j] := ⟨_, rfl⟩
        obtain ⟨T, hTT⟩ : ∃ T, T = L[j] := ⟨_, rfl⟩
        obtain ⟨U, hU⟩ : ∃ U, U = leastTo S L (List.range S.f.t.R.length) (j + 1) := ⟨_, rfl⟩
        have hrl : r.l = up T := by
          rw [hr, hTT]
          have := HT.out.at hjQ (by rw [← HLD.out]; exact hjL)
          rw [this]; congr 1; simp only [HLD.out]
        have hrm : r ∈ Q := by rw [hr]; exact List.getElem_mem _
        have hcl : wr.cell? ⟨g, j, none⟩ = some (.slice r.a r.l.length r.c) := (hnx.cell (p := ⟨g, j, none⟩) HT.out.lt).trans (by rw [hr]; exact HT.out.cell j hjQ)
        have hok := cho_ok hR8 (show T ∈ choL S.f.t.R.length S.f.t.R.length by rw [hTT, ← HLD.out]; exact List.getElem_mem hjL)
        have hUok : setB S.f.t.R.length (up U) = true ∧ U.length ≤ 8 ∧ ∀ x ∈ U, x < S.f.t.R.length := by rw [hU, HLD.out]; exact leastTo_ok hR8 (j + 1)
        have hyl : y.l = up U := by rw [hU]; exact HY2.out.1
        obtain ⟨v, hv⟩ : ∃ v, v = covB S T := ⟨_, rfl⟩
        obtain ⟨zT, hzT⟩ : ∃ z, z = costT S T := ⟨_, rfl⟩
        obtain ⟨zU, hzU⟩ : ∃ z, z = costT S U := ⟨_, rfl⟩
        have HST : Hid (leastTo S L (List.range S.f.t.R.length) j = if v = true ∧ zT ≤ zU then T else U) := Lib.hid (by rw [leastTo_step S L _ hjL, ← hTT, ← hU, hv, hzT, hzU]; rfl)
        have HRR : Hid (∀ u, Below wr.heap.size wr u → r.l = up T ∧ r.Own 3 u ∧ r.In w.heap.size u.heap.size u) := Lib.hid fun u hu => by
          have hW := HNX.out.trans (hu.mono HNX.out.size)
          obtain ⟨h1, h2⟩ := HT.out.rows r hrm
          exact ⟨hrl, h2.on hW, (h1.on hW).wide (by have := HBW.out.size; have := HB4.out.size; have := HB34.out.size; have := HSZ.out; have := HB2.out.size; have := HB3S.out; omega) hW.size⟩
        have HYU : Hid (∀ u, Below wr.heap.size wr u → y.l = up U ∧ y.Own 3 u ∧ y.In w.heap.size u.heap.size u) := Lib.hid fun u hu => ⟨hyl, HY2.out.2.1.on hu, (HY2.out.2.2.on hu).wide (Nat.le_refl _) hu.size⟩
        have HBAr : Hid (Below wA.heap.size wA wr) := Lib.hid (HBA4.out.trans (hnx.mono HBA4.out.size))
        have C1 := Lib.hid (fun u (hu : Below wr.heap.size wr u) => by have := l6Cover_any S r T u (Sys.At.on (show S.At wA from HSA.out) (HBAr.out.trans (hu.mono HBAr.out.size))) (HRR.out u hu).2.2.at (good_row8 HG.out) hrl (by rw [HNR.out]; exact hok.2.2) hok.2.1; rw [← hv] at this; exact this : ∀ u, Below wr.heap.size wr u → Calls Try.prog 48 #[.agg #[.int .i64 S.n, .slice S.f.t.a S.f.t.R.length S.f.t.c, .slice S.f.o.a S.f.o.l.length S.f.o.c], .slice r.a r.l.length r.c] u fun e w' => e = .returned (.bool v) ∧ Below u.heap.size u w')
        have C2 := Lib.hid (fun u (hu : Below wr.heap.size wr u) => by have := l6Cost_any S r T u (Sys.At.on (show S.At wA from HSA.out) (HBAr.out.trans (hu.mono HBAr.out.size))) (HRR.out u hu).2.2.at ⟨HG.out, hrl, by rw [HNR.out]; exact hok.2.2, hok.2.1, by rw [HNR.out]; exact hok.1⟩; rw [← hzT] at this; exact this : ∀ u, Below wr.heap.size wr u → Calls Try.prog 50 #[.agg #[.int .i64 S.n, .slice S.f.t.a S.f.t.R.length S.f.t.c, .slice S.f.o.a S.f.o.l.length S.f.o.c], .slice r.a r.l.length r.c] u fun e w' => e = .returned (.int .i64 zT) ∧ Below u.heap.size u w')
        have C3 := Lib.hid (fun u (hu : Below wr.heap.size wr u) => by have := l6Cost_any S y U u (Sys.At.on (show S.At wA from HSA.out) (HBAr.out.trans (hu.mono HBAr.out.size))) (HYU.out u hu).2.2.at ⟨HG.out, hyl, by rw [HNR.out]; exact hUok.2.2, hUok.2.1, by rw [HNR.out]; exact hUok.1⟩; rw [← hzU] at this; exact this : ∀ u, Below wr.heap.size wr u → Calls Try.prog 50 #[.agg #[.int .i64 S.n, .slice S.f.t.a S.f.t.R.length S.f.t.c, .slice S.f.o.a S.f.o.l.length S.f.o.c], .slice y.a y.l.length y.c] u fun e w' => e = .returned (.int .i64 zU) ∧ Below u.heap.size u w')
        have HS3 : Hid (∀ u, Below wr.heap.size wr u → ((u.cell? ⟨g, j, none⟩ = some (.slice r.a r.l.length r.c) ∧ u.cell? ⟨w.heap.size, 0, none⟩ = some (.int .i64 S.n) ∧ u.cell? ⟨w.heap.size, 1, none⟩ = some (.slice S.f.t.a S.f.t.R.length S.f.t.c) ∧ u.cell? ⟨w.heap.size, 2, none⟩ = some (.slice S.f.o.a S.f.o.l.length S.f.o.c)) ∧ Below wr.heap.size wr u)) := Lib.hid fun u hu => by
          have hu2 := HBAr.out.trans (hu.mono HBAr.out.size)
          exact ⟨⟨(hu.cell (p := ⟨g, j, none⟩) (Nat.lt_of_lt_of_le HT.out.lt HNX.out.size)).trans hcl, (HS.out u hu2).1⟩, hu⟩
        have s3 := HS3.out wr.drew (Below.refl _ _).drew
        have hji : (0 : Int) ≤ (j : Int) := by omega
        clear hr hTT hU hrl hrm hcl hok hUok hyl hv hzT hzU hnx hlt hjQ hjL hpos hj
        have FIN : Hid (∀ W8, Below wr.heap.size wr W8 → v = true ∧ zT ≤ zU → Hid (r.l = up (leastTo S L (List.range S.f.t.R.length) j) ∧ r.Own 3 W8 ∧ r.In w.heap.size W8.heap.size W8)) := Lib.hid fun W8 h8 h => Lib.hid (by rw [HST.out, if_pos h]; exact HRR.out W8 h8)
        have FIU : Hid (∀ W8, Below wr.heap.size wr W8 → ¬ (v = true ∧ zT ≤ zU) → Hid (y.l = up (leastTo S L (List.range S.f.t.R.length) j) ∧ y.Own 3 W8 ∧ y.In w.heap.size W8.heap.size W8)) := Lib.hid fun W8 h8 h => Lib.hid (by rw [HST.out, if_neg h]; exact HYU.out W8 h8)
        cases v with
        | false =>
          go_wp2_with fail
          refine wp_region_held_drew (S := fun u => ((u.cell? ⟨g, j, none⟩ = some (.slice r.a r.l.length r.c) ∧ u.cell? ⟨w.heap.size, 0, none⟩ = some (.int .i64 S.n) ∧ u.cell? ⟨w.heap.size, 1, none⟩ = some (.slice S.f.t.a S.f.t.R.length S.f.t.c) ∧ u.cell? ⟨w.heap.size, 2, none⟩ = some (.slice S.f.o.a S.f.o.l.length S.f.o.c)) ∧ Below wr.heap.size wr u)) (by kernel_rfl) s3 (fun hHeld => ?_)
          refine wpAnyH_take (i := 0) (v := ?vv0) rfl (by kernel_rfl) (by kernel_rfl) (by kernel_rfl) (fun _ _ _ h => h) (Or.inl ⟨by rfl, ?hy0⟩) (by assumption) ?rest0
          case hy0 => (intro w hSw; (try dsimp only at hSw); (try simp only [List.getElem_toArray, List.getElem_cons_zero, List.getElem_cons_succ]); go_simp <;> with_reducible rfl)
          try simp only [Act.put, List.getElem_toArray, List.getElem_cons_zero, List.getElem_cons_succ, List.setIfInBounds_toArray, List.set_cons_zero, List.set_cons_succ]
          refine wpAnyH_take (i := 1) (v := ?vv1) rfl (by kernel_rfl) (by kernel_rfl) (by kernel_rfl) (fun _ _ _ h => h) (Or.inl ⟨by rfl, ?hy1⟩) (by assumption) ?rest1
          case hy1 => (intro w hSw; (try dsimp only at hSw); (try simp only [List.getElem_toArray, List.getElem_cons_zero, List.getElem_cons_succ]); go_simp <;> with_reducible rfl)
          try simp only [Act.put, List.getElem_toArray, List.getElem_cons_zero, List.getElem_cons_succ, List.setIfInBounds_toArray, List.set_cons_zero, List.set_cons_succ]
          refine wpAnyH_take (i := 2) (v := ?vv2) rfl (by kernel_rfl) (by kernel_rfl) (by kernel_rfl) (fun _ _ _ h => h) (Or.inl ⟨by rfl, ?hy2⟩) (by assumption) ?rest2
          case hy2 => (intro w hSw; (try dsimp only at hSw); (try simp only [List.getElem_toArray, List.getElem_cons_zero, List.getElem_cons_succ]); go_simp <;> with_reducible rfl)
          try simp only [Act.put, List.getElem_toArray, List.getElem_cons_zero, List.getElem_cons_succ, List.setIfInBounds_toArray, List.set_cons_zero, List.set_cons_succ]
          refine wpAnyH_take (i := 3) (v := ?vv3) rfl (by kernel_rfl) (by kernel_rfl) (by kernel_rfl) (fun _ _ _ h => h) (Or.inl ⟨by rfl, ?hy3⟩) (by assumption) ?rest3
          case hy3 => (intro w hSw; (try dsimp only at hSw); (try simp only [List.getElem_toArray, List.getElem_cons_zero, List.getElem_cons_succ]); go_simp <;> with_reducible rfl)
          try simp only [Act.put, List.getElem_toArray, List.getElem_cons_zero, List.getElem_cons_succ, List.setIfInBounds_toArray, List.set_cons_zero, List.set_cons_succ]
          refine wpAnyH_take (i := 4) (v := ?vv4) rfl (by kernel_rfl) (by kernel_rfl) (by kernel_rfl) (fun _ _ _ h => h) (Or.inl ⟨by rfl, ?hy4⟩) (by assumption) ?rest4
          case hy4 => (intro w hSw; (try dsimp only at hSw); (try simp only [List.getElem_toArray, List.getElem_cons_zero, List.getElem_cons_succ]); go_simp <;> with_reducible rfl)
          try simp only [Act.put, List.getElem_toArray, List.getElem_cons_zero, List.getElem_cons_succ, List.setIfInBounds_toArray, List.set_cons_zero, List.set_cons_succ]
          refine wpAnyH_ready (rs := [5]) (by kernel_rfl) (by simp) ?_
          refine AllReadyH.cons rfl (fun K hK => ?_) AllReadyH.nil
          try simp only [List.getElem_toArray, List.getElem_cons_zero, List.getElem_cons_succ]
          go_simp
          go_at_call 48
          refine (show Calls _ _ _ _ _ from C1.out _ (by first | assumption | exact And.right (by assumption))).mono ?_
          rintro e u1 ⟨rfl, hb1⟩
          have hB1 := keep_reg HS3.out (by first | assumption | exact And.right (by assumption)) hb1
          go_wp2_with fail
          refine hK.out _ _ hB1 (fun hHeld1 => ?_)
          clear hK
          try simp only [Act.put, List.getElem_toArray, List.getElem_cons_zero, List.getElem_cons_succ, List.setIfInBounds_toArray, List.set_cons_zero, List.set_cons_succ]
          refine wpAnyH_take (i := 6) (v := ?vv6) rfl (by kernel_rfl) (by kernel_rfl) (by kernel_rfl) (fun _ _ _ h => h) (Or.inl ⟨by rfl, ?hy6⟩) (by assumption) ?rest6
          case hy6 => (intro w hSw; (try dsimp only at hSw); (try simp only [List.getElem_toArray, List.getElem_cons_zero, List.getElem_cons_succ]); go_simp <;> with_reducible rfl)
          try simp only [Act.put, List.getElem_toArray, List.getElem_cons_zero, List.getElem_cons_succ, List.setIfInBounds_toArray, List.set_cons_zero, List.set_cons_succ]
          refine wpAnyH_take (i := 7) (v := undef) rfl (by kernel_rfl) (by kernel_rfl) (by kernel_rfl) (fun _ _ _ h => h) (Or.inr ⟨by rfl, rfl⟩) (by assumption) ?_
          try simp only [Act.put, List.getElem_toArray, List.getElem_cons_zero, List.getElem_cons_succ, List.setIfInBounds_toArray, List.set_cons_zero, List.set_cons_succ]
          refine wpAnyH_take (i := 8) (v := undef) rfl (by kernel_rfl) (by kernel_rfl) (by kernel_rfl) (fun _ _ _ h => h) (Or.inr ⟨by rfl, rfl⟩) (by assumption) ?_
          try simp only [Act.put, List.getElem_toArray, List.getElem_cons_zero, List.getElem_cons_succ, List.setIfInBounds_toArray, List.set_cons_zero, List.set_cons_succ]
          refine wpAnyH_take (i := 9) (v := undef) rfl (by kernel_rfl) (by kernel_rfl) (by kernel_rfl) (fun _ _ _ h => h) (Or.inr ⟨by rfl, rfl⟩) (by assumption) ?_
          try simp only [Act.put, List.getElem_toArray, List.getElem_cons_zero, List.getElem_cons_succ, List.setIfInBounds_toArray, List.set_cons_zero, List.set_cons_succ]
          refine wpAnyH_take (i := 10) (v := undef) rfl (by kernel_rfl) (by kernel_rfl) (by kernel_rfl) (fun _ _ _ h => h) (Or.inr ⟨by rfl, rfl⟩) (by assumption) ?_
          try simp only [Act.put, List.getElem_toArray, List.getElem_cons_zero, List.getElem_cons_succ, List.setIfInBounds_toArray, List.set_cons_zero, List.set_cons_succ]
          refine wpAnyH_take (i := 11) (v := undef) rfl (by kernel_rfl) (by kernel_rfl) (by kernel_rfl) (fun _ _ _ h => h) (Or.inr ⟨by rfl, rfl⟩) (by assumption) ?_
          try simp only [Act.put, List.getElem_toArray, List.getElem_cons_zero, List.getElem_cons_succ, List.setIfInBounds_toArray, List.set_cons_zero, List.set_cons_succ]
          refine wpAnyH_take (i := 12) (v := undef) rfl (by kernel_rfl) (by kernel_rfl) (by kernel_rfl) (fun _ _ _ h => h) (Or.inr ⟨by rfl, rfl⟩) (by assumption) ?_
          try simp only [Act.put, List.getElem_toArray, List.getElem_cons_zero, List.getElem_cons_succ, List.setIfInBounds_toArray, List.set_cons_zero, List.set_cons_succ]
          refine wpAnyH_take (i := 13) (v := undef) rfl (by kernel_rfl) (by kernel_rfl) (by kernel_rfl) (fun _ _ _ h => h) (Or.inr ⟨by rfl, rfl⟩) (by assumption) ?_
          try simp only [Act.put, List.getElem_toArray, List.getElem_cons_zero, List.getElem_cons_succ, List.setIfInBounds_toArray, List.set_cons_zero, List.set_cons_succ]
          refine wpAnyH_take (i := 14) (v := undef) rfl (by kernel_rfl) (by kernel_rfl) (by kernel_rfl) (fun _ _ _ h => h) (Or.inr ⟨by rfl, rfl⟩) (by assumption) ?_
          try simp only [Act.put, List.getElem_toArray, List.getElem_cons_zero, List.getElem_cons_succ, List.setIfInBounds_toArray, List.set_cons_zero, List.set_cons_succ]
          refine wpAnyH_take (i := 15) (v := undef) rfl (by kernel_rfl) (by kernel_rfl) (by kernel_rfl) (fun _ _ _ h => h) (Or.inr ⟨by rfl, rfl⟩) (by assumption) ?_
          try simp only [Act.put, List.getElem_toArray, List.getElem_cons_zero, List.getElem_cons_succ, List.setIfInBounds_toArray, List.set_cons_zero, List.set_cons_succ]
          refine wpAnyH_take (i := 16) (v := undef) rfl (by kernel_rfl) (by kernel_rfl) (by kernel_rfl) (fun _ _ _ h => h) (Or.inr ⟨by rfl, rfl⟩) (by assumption) ?_
          try simp only [Act.put, List.getElem_toArray, List.getElem_cons_zero, List.getElem_cons_succ, List.setIfInBounds_toArray, List.set_cons_zero, List.set_cons_succ]
          refine wpAnyH_take (i := 17) (v := ?vv17) rfl (by kernel_rfl) (by kernel_rfl) (by kernel_rfl) (fun _ _ _ h => h) (Or.inl ⟨by rfl, ?hy17⟩) (by assumption) ?rest17
          case hy17 => (intro w hSw; (try dsimp only at hSw); (try simp only [List.getElem_toArray, List.getElem_cons_zero, List.getElem_cons_succ]); go_simp <;> with_reducible rfl)
          try simp only [Act.put, List.getElem_toArray, List.getElem_cons_zero, List.getElem_cons_succ, List.setIfInBounds_toArray, List.set_cons_zero, List.set_cons_succ]
          refine wpAnyH_done (by kernel_rfl) ?_ _
          refine at_exit (W := wr) hB1.2 ?_
          intro W8 hb8
          have R1 := FIU.out W8 hb8 (fun h => Bool.noConfusion h.1)
          have R2 := HNX.out.trans (hb8.mono HNX.out.size)
          clear s3 hb8 hHeld hHeld1 hB1 hb1
          go_wp2
          go_roundw
          case rel => exact ⟨j, y, by omega, by go_num, rfl, R1, R2⟩
          case measure => simp [intOf] <;> omega
        | true =>
          by_cases hle : zT ≤ zU
          · go_wp2_with fail
            first | (go_region_held3 (fun u => ((u.cell? ⟨g, j, none⟩ = some (.slice r.a r.l.length r.c) ∧ u.cell? ⟨w.heap.size, 0, none⟩ = some (.int .i64 S.n) ∧ u.cell? ⟨w.heap.size, 1, none⟩ = some (.slice S.f.t.a S.f.t.R.length S.f.t.c) ∧ u.cell? ⟨w.heap.size, 2, none⟩ = some (.slice S.f.o.a S.f.o.l.length S.f.o.c)) ∧ Below wr.heap.size wr u)) (first | exact s3 | exact keep_reg HS3.out (by first | assumption | exact And.right (by assumption)) hb1) (first | (go_at_call 48; refine (show Calls _ _ _ _ _ from C1.out _ (by first | assumption | exact And.right (by assumption))).mono ?_; rintro e u1 ⟨rfl, hb1⟩) | (go_at_call 50; with_reducible change Calls _ _ #[_, .slice r.a _ _] _ _; refine (show Calls _ _ _ _ _ from C2.out _ (by first | assumption | exact And.right (by assumption))).mono ?_; rintro e u1 ⟨rfl, hb1⟩) | (go_at_call 50; with_reducible change Calls _ _ #[_, .slice y.a _ _] _ _; refine (show Calls _ _ _ _ _ from C3.out _ (by first | assumption | exact And.right (by assumption))).mono ?_; rintro e u1 ⟨rfl, hb1⟩))) | fail
            refine at_exit (W := wr) (by first | assumption | exact And.right (by assumption)) ?_
            intro W8 hb8
            have R1 := FIN.out W8 hb8 ⟨by first | rfl | trivial, hle⟩
            have R2 := HNX.out.trans (hb8.mono HNX.out.size)
            have hc8 : W8.cell? ⟨g, j, none⟩ = some (.slice r.a r.l.length r.c) := (HS3.out W8 hb8).1.1
            clear s3 hb8
            go_wp2
            go_roundw
            case rel => exact ⟨j, r, by omega, by go_num, rfl, R1, R2⟩
            case measure => simp [intOf] <;> omega
          · have hlef : decide (zT ≤ zU) = false := decide_eq_false hle
            go_wp2_with fail
            first | (go_region_held3 (fun u => ((u.cell? ⟨g, j, none⟩ = some (.slice r.a r.l.length r.c) ∧ u.cell? ⟨w.heap.size, 0, none⟩ = some (.int .i64 S.n) ∧ u.cell? ⟨w.heap.size, 1, none⟩ = some (.slice S.f.t.a S.f.t.R.length S.f.t.c) ∧ u.cell? ⟨w.heap.size, 2, none⟩ = some (.slice S.f.o.a S.f.o.l.length S.f.o.c)) ∧ Below wr.heap.size wr u)) (first | exact s3 | exact keep_reg HS3.out (by first | assumption | exact And.right (by assumption)) hb1) (first | (go_at_call 48; refine (show Calls _ _ _ _ _ from C1.out _ (by first | assumption | exact And.right (by assumption))).mono ?_; rintro e u1 ⟨rfl, hb1⟩) | (go_at_call 50; with_reducible change Calls _ _ #[_, .slice r.a _ _] _ _; refine (show Calls _ _ _ _ _ from C2.out _ (by first | assumption | exact And.right (by assumption))).mono ?_; rintro e u1 ⟨rfl, hb1⟩) | (go_at_call 50; with_reducible change Calls _ _ #[_, .slice y.a _ _] _ _; refine (show Calls _ _ _ _ _ from C3.out _ (by first | assumption | exact And.right (by assumption))).mono ?_; rintro e u1 ⟨rfl, hb1⟩))) | fail
            refine at_exit (W := wr) (by first | assumption | exact And.right (by assumption)) ?_
            intro W8 hb8
            have R1 := FIU.out W8 hb8 (fun h => absurd h.2 (by omega))
            have R2 := HNX.out.trans (hb8.mono HNX.out.size)
            clear s3 hb8
            go_wp2
            go_roundw
            case rel => exact ⟨j, y, by omega, by go_num, rfl, R1, R2⟩
            case measure => simp [intOf] <;> omega
end Go.Proofs.Ytbngmjmcmdfphaa

namespace Go.Proofs.Ytbngmjmcmdfphaa
open Go.RowKit Go.Shelf
attribute [local go_sem] Oper.semAt_some

/-- What the search holds between two rounds. -/
structure HoldsCover (B : Nat) (V w : World) (φ : List Nat → Int) (C : List (List Nat)) (k : Nat) (y : Row) (W : World) : Prop where
  b5 : Boxed W (B + 1 + 1) 23 (.slice y.a y.l.length y.c)
  b6 : Boxed W (B + 1 + 1 + 1) 3 (.int .i64 (if k = 0 then 9223372036854775807 else φ (firstE φ (C.take k))))
  b3 : W.heap[B]? = V.heap[B]?
  bl : Below B w W
  yl : y.l = up (firstE φ (C.take k))
  ge : y.Ge B
theorem HoldsCover.keep {B M : Nat} {V w : World} {φ : List Nat → Int} {C : List (List Nat)} {k : Nat} {y : Row} {A A' : World} (h : HoldsCover B V w φ C k y A) (hb : Below M A A') (hM : B + 1 + 1 + 1 + 1 ≤ M) : HoldsCover B V w φ C k y A' :=
  ⟨(hb.block _ (by omega)).trans h.b5, (hb.block _ (by omega)).trans h.b6, (hb.block _ (by omega)).trans h.b3, h.bl.trans (hb.mono (by omega)), h.yl, h.ge⟩

set_option maxRecDepth 100000 in
set_option maxHeartbeats 4000000 in
theorem firstCover_in (n : Nat) (hn : 4 ≤ n) (φ : List Nat → Int) (gf : Nat) (lb : Array Value) (C : List (List Nat)) (Bf p q : Nat) (w0 w : World) (hq : q ≤ w.heap.size)
    (eg : ∀ args w, (callFunc gf args).run Try.prog w = .ok (.enter gf args) w) (hseq : ListSeq Fence.wide (n - 1) Try.prog gf lb (C.map up) p q w0) (hb0 : Below w0.heap.size w0 w)
    (hcl : ∀ (k : Nat) (hk : k < C.length) (x : Row) (W : World), Below w.heap.size w W → x.At W → x.l = up C[k] → Calls Try.prog 31 #[.slice x.a x.l.length x.c, .pointer (some ⟨Bf, 0, none⟩)] W fun e w' => e = .returned (.int .i64 (φ C[k])) ∧ Below W.heap.size W w')
    (hφ : ∀ T ∈ C, -1000000 ≤ φ T ∧ φ T ≤ 1000000) :
    CallsIn Fence.wide n Try.prog 29 #[.func (.func gf) #[] lb, .func (.func 31) #[] #[.pointer (some ⟨Bf, 0, none⟩)]] w fun e w' => ∃ t : Row, e = .returned (.slice t.a t.l.length t.c) ∧ t.l = up (firstE φ C) ∧ t.Own 3 w' ∧ t.In w.heap.size w'.heap.size w' ∧ Below w.heap.size w w' := by
  have h1 : 1 ≤ n := by omega
  refine callsIn_of_wp_marks Try.func29 rfl trivial ?_ rfl
  simp only [Try.ntmps29, List.size_toArray, List.length_cons, List.length_nil, Nat.reduceAdd, Nat.reduceSub, Array.replicate_succ, Array.replicate_zero, List.push_toArray, List.append_toArray, List.nil_append, List.cons_append]
  gi_wp2
  obtain ⟨V, hV⟩ : ∃ V, (((w.alloc (.cells #[.func (.func 31) #[] #[.pointer (some ⟨Bf, 0, none⟩)]] 49)).alloc (.cells #[] 3)).alloc (.cells #[.slice (some ⟨w.heap.size + 1, 0, none⟩) 0 0] 23)).alloc (.cells #[.int .i64 9223372036854775807] 3) = V := ⟨_, rfl⟩
  have hBV : Below w.heap.size w V := by rw [← hV]; exact (((((Below.refl _ w).alloc (Nat.le_refl _) _).alloc (by simp) _).alloc (by simp; omega) _).alloc (by simp; omega) _)
  have szV : V.heap.size = w.heap.size + 1 + 1 + 1 + 1 := by rw [← hV]; simp only [World.size_alloc]
  have v3 : Boxed V w.heap.size 49 (.func (.func 31) #[] #[.pointer (some ⟨Bf, 0, none⟩)]) := by rw [← hV]; exact (((Boxed.new w 49 _).alloc _).alloc _).alloc _
  have v5 : Boxed V (w.heap.size + 1 + 1) 23 (.slice (some ⟨w.heap.size + 1, 0, none⟩) 0 0) := by
    rw [← hV]
    have := (Boxed.new ((w.alloc (.cells #[.func (.func 31) #[] #[.pointer (some ⟨Bf, 0, none⟩)]] 49)).alloc (.cells #[] 3)) 23 (.slice (some ⟨w.heap.size + 1, 0, none⟩) 0 0)).alloc (.cells #[.int .i64 9223372036854775807] 3)
    simp only [World.size_alloc] at this; exact this
  have v6 : Boxed V (w.heap.size + 1 + 1 + 1) 3 (.int .i64 9223372036854775807) := by
    rw [← hV]
    have := Boxed.new (((w.alloc (.cells #[.func (.func 31) #[] #[.pointer (some ⟨Bf, 0, none⟩)]] 49)).alloc (.cells #[] 3)).alloc (.cells #[.slice (some ⟨w.heap.size + 1, 0, none⟩) 0 0] 23)) 3 (.int .i64 9223372036854775807)
    simp only [World.size_alloc] at this; exact this
  have hOw : V.ownsRow (w.heap.size + 1) 3 1 (.slice (some ⟨w.heap.size + 1, 0, none⟩) 0 0) ([] : List Int).length (iv []) := by
    rw [← hV]
    have := ((empty_own (w.alloc (.cells #[.func (.func 31) #[] #[.pointer (some ⟨Bf, 0, none⟩)]] 49))).alloc (.cells #[.slice (some ⟨w.heap.size + 1, 0, none⟩) 0 0] 23)).alloc (.cells #[.int .i64 9223372036854775807] 3)
    simp only [World.size_alloc] at this; exact this
  rw [hV]
  clear hV
  obtain ⟨y0, hy0v, hy0l, hy0o, hy0i⟩ := row_of_own hOw
  have HV3 := Lib.hid v3.cell
  have hy0 : y0.Held V := ⟨hy0o, hy0i.wide (Nat.zero_le _) (Nat.le_refl _)⟩
  have HCLO := Lib.hid hcl
  have HCL : Hid ((C.map up).length = C.length) := Lib.hid (List.length_map _)
  have HCC := Lib.hid hφ
  have HEG := Lib.hid eg
  have HSQ := Lib.hid hseq
  have HSV := Lib.hid szV
  have hsv := hBV.size
  have HB0 := Lib.hid (hb0.trans (hBV.mono hb0.size))
  have hw0 := hb0.size
  have HY0V := Lib.hid hy0v
  have HY0L := Lib.hid hy0l
  clear hcl hφ eg hseq hOw hy0v hy0l
  refine wpIn_rangeLists (F := Fence.wide) rfl h1 (gf := gf) (lb := lb) rfl trivial HEG.out HSQ.out HB0.out rfl (w.heap.size + 1 + 1) (w.heap.size + 1 + 1 + 1 + 1) (.inr (by omega)) (by omega)
    (HoldsCover w.heap.size V w φ C) (fun k y A B h hb => h.keep hb (by omega)) y0 ⟨by rw [← HY0V.out]; exact v5, v6, rfl, hBV, HY0L.out, fun hl => absurd HY0L.out hl⟩ hy0
    (fun x => { tmps := #[.func (.func gf) #[] lb, .func (.func 31) #[] #[.pointer (some ⟨Bf, 0, none⟩)], undef, .pointer (some ⟨w.heap.size, 0, none⟩), .slice none 0 0, .pointer (some ⟨w.heap.size + 1 + 1, 0, none⟩), .pointer (some ⟨w.heap.size + 1 + 1 + 1, 0, none⟩), .slice x.a x.l.length x.c, undef, .slice (some ⟨w.heap.size + 1, 0, none⟩) 0 0, .func (.func gf) #[] lb, .slice x.a x.l.length x.c, undef, undef, undef, undef, undef, undef, undef, undef, undef], defers := [] }) ?assign ?body ?done
  case assign =>
    intro l x W K hK
    gi_wp2
    exact hK
  case body =>
    intro l k y x W hk hx hI hyH hxH hxI hsz
    have hkC : k < C.length := by rw [HCL.out] at hk; exact hk
    have hxC : x.l = up C[k] := by rw [hx, List.getElem_map]
    have hvb := HCC.out _ (List.getElem_mem hkC)
    obtain ⟨v, hv⟩ : ∃ v, v = φ C[k] := ⟨_, rfl⟩
    have CL := Lib.hid (by
      have := HCLO.out k hkC x W hI.bl hxH.2.at hxC
      rw [← hv] at this; exact this)
    have c3 : W.cell? ⟨w.heap.size, 0, none⟩ = some (.func (.func 31) #[] #[.pointer (some ⟨Bf, 0, none⟩)]) := (World.cell?_of_block (a := ⟨w.heap.size, 0, none⟩) hI.b3).trans HV3.out
    have HI := Lib.hid hI
    have HYH := Lib.hid hyH
    have HXH := Lib.hid hxH
    have HXI := Lib.hid hxI
    have HXC := Lib.hid hxC
    have HVV := Lib.hid hv
    rw [← hv] at hvb
    have hvM : v < 9223372036854775807 := by omega
    have hWsz : V.heap.size ≤ W.heap.size := hsz
    clear hx hI hyH hxH hxI hxC hv hsz
    gi_wp2
    refine ⟨trivial, fun _ => by omega, (callsIn_wide.2 CL.out).mono ?_⟩
    rintro e W2 ⟨rfl, hb2⟩
    have hI2 := HI.out.keep hb2 (by omega)
    have HI2 := Lib.hid hI2
    have c5 := hI2.b5.cell
    have c6 := hI2.b6.cell
    have f5 := hI2.b5.frozen
    have f6 := hI2.b6.frozen
    have HYL : Hid (y.l.length = (firstE φ (C.take k)).length) := Lib.hid (by rw [hI2.yl, up_length])
    have HB2 := Lib.hid hb2
    have hsz2 := hb2.size
    have HSTORE : Hid (firstE φ (C.take (k + 1)) = C[k] → ∀ W', W' = (W2.setCell ⟨w.heap.size + 1 + 1, 0, none⟩ (.slice x.a x.l.length x.c)).setCell ⟨w.heap.size + 1 + 1 + 1, 0, none⟩ (.int .i64 v) → RoundEnd (HoldsCover w.heap.size V w φ C) k y x (w.heap.size + 1 + 1) (w.heap.size + 1 + 1 + 1 + 1) W .normal { tmps := #[], defers := [] } W') := Lib.hid (fun hs W' hW' => by
      have t2 : Touch (w.heap.size + 1 + 1) (w.heap.size + 1 + 1 + 1 + 1) W2 W' := by
        rw [hW']; exact ((Touch.refl _ _ W2).set (Nat.le_refl _) (by omega) 0 _).set (by omega) (by omega) 0 _
      have hx2 := HXH.out.on hb2
      have hxi2 : x.In V.heap.size W2.heap.size W2 := (HXI.out.on hb2).wide (Nat.le_refl _) hb2.size
      refine ⟨(Touch.of_below hb2).trans t2, x, .inr rfl, ⟨?_, ?_, ?_, hI2.bl.trans (t2.below (by omega) (by omega)), by rw [hs]; exact HXC.out, fun hl a ha => by have := in_ge HXI.out hl a ha; omega⟩, hx2.1.touch hxi2 t2 (.inr (by omega)), ((hxi2.touch t2 (.inr (by omega))).wide (Nat.zero_le _) t2.size)⟩
      · rw [hW']
        exact (hI2.b5.set (.slice x.a x.l.length x.c)).kept (grownBy_setCell' _ (w.heap.size + 1 + 1 + 1) (.int .i64 v)) (by intro e; injection e with e; omega)
      · rw [hW', hs, if_neg (Nat.succ_ne_zero k), ← HVV.out]
        have h6 : Boxed (W2.setCell ⟨w.heap.size + 1 + 1, 0, none⟩ (.slice x.a x.l.length x.c)) (w.heap.size + 1 + 1 + 1) 3 _ := hI2.b6.kept (grownBy_setCell' _ (w.heap.size + 1 + 1) _) (by intro e; injection e with e; omega)
        exact h6.set (.int .i64 v)
      · exact (t2.block _ (by omega) (by omega)).trans hI2.b3)
    have HKEEP : Hid (firstE φ (C.take (k + 1)) = firstE φ (C.take k) → k ≠ 0 → RoundEnd (HoldsCover w.heap.size V w φ C) k y x (w.heap.size + 1 + 1) (w.heap.size + 1 + 1 + 1 + 1) W .normal { tmps := #[], defers := [] } W2) := Lib.hid (fun hs hk0 => by
      refine ⟨Touch.of_below hb2, y, .inl rfl, ⟨hI2.b5, ?_, hI2.b3, hI2.bl, by rw [hs]; exact hI2.yl, hI2.ge⟩, HYH.out.on hb2⟩
      have := hI2.b6
      rw [if_neg hk0] at this
      rw [hs, if_neg (Nat.succ_ne_zero k)]; exact this)
    clear hI2 hb2 c3
    by_cases hk0 : k = 0
    · rw [if_pos hk0] at c6
      have HS := Lib.hid (HSTORE.out (firstE_zero φ C hkC hk0) _ rfl)
      gi_wp2
      exact HS.out
    · rw [if_neg hk0] at c6
      obtain ⟨z, hz⟩ : ∃ z, z = φ (firstE φ (C.take k)) := ⟨_, rfl⟩
      rw [← hz] at c6
      have HZ := Lib.hid hz
      clear hz
      by_cases hvz : v < z
      · have HS := Lib.hid (HSTORE.out (by rw [firstE_step φ C hkC hk0]; unfold stepE; rw [if_pos (by rw [← HVV.out, ← HZ.out]; exact hvz)]) _ rfl)
        gi_wp2
        exact HS.out
      · have HS := Lib.hid (HKEEP.out (by rw [firstE_step φ C hkC hk0]; unfold stepE; rw [if_neg (by rw [← HVV.out, ← HZ.out]; exact hvz)]) hk0)
        gi_wp2
        exact HS.out
  case done =>
    intro D y W hD hI hyH hK
    have c5 := hI.b5.cell
    have HI := Lib.hid hI
    have HYH := Lib.hid hyH
    have hsv2 := HSV.out
    clear hI hyH
    gi_wp2
    refine ⟨by simp, .inl ⟨_, _, rfl, run_takeDeferred hK, ?_⟩⟩
    refine ⟨_, results_tmp rfl _ _ _, y, rfl, ?_, ?_, ?_, ?_⟩
    · have := HI.out.yl
      rw [HCL.out, List.take_length] at this; exact this
    · exact (held_put HYH.out _ hK rfl).1
    · exact held_in (held_put HYH.out _ hK rfl) HI.out.ge
    · exact HI.out.bl.trans (put_below _ (by omega))
end Go.Proofs.Ytbngmjmcmdfphaa

namespace Go.Proofs.Ytbngmjmcmdfphaa
open Go.RowKit Go.Shelf

set_option maxRecDepth 32000 in
set_option maxHeartbeats 600000 in
theorem leastPhi_any (S : Sys) (c : Row) (T : List Nat) (g : Nat) (w : World) (hS : S.At w) (bx : Box3 w g (.int .i64 S.n) (.slice S.f.t.a S.f.t.R.length S.f.t.c) (.slice S.f.o.a S.f.o.l.length S.f.o.c) 29) (hg : S.good = true) (hc : c.At w) (hcl : c.l = up T) (hlt : ∀ m ∈ T, m < S.f.t.con.length) (hfew : T.length ≤ 8) (hset : setB S.f.t.con.length (up T) = true) :
    Calls Try.prog 31 #[.slice c.a c.l.length c.c, .pointer (some ⟨g, 0, none⟩)] w fun e w' => e = .returned (.int .i64 (phiC S T)) ∧ Below w.heap.size w w' := by
  have x0 := bx.c0
  have x1 := bx.c1
  have x2 := bx.c2
  have HBX := Lib.hid bx
  obtain ⟨v, hv⟩ : ∃ v, v = covB S T := ⟨_, rfl⟩
  obtain ⟨z, hz⟩ : ∃ z, z = costT S T := ⟨_, rfl⟩
  have C1 := coversAll_any S c T w hS hc (good_row8 hg) hcl hlt hfew
  rw [← hv] at C1
  have C1' := Lib.hid C1
  have C2 := Lib.hid (fun u (hu : Below w.heap.size w u) => implCostOf_any S c u (hS.on hu) (hc.on hu) z true (.inr ⟨T, ⟨hg, hcl, hlt, hfew, hset⟩, by unfold twoS; rw [hg, hcl, hset]; rfl, hz, rfl⟩))
  have HE : Hid (phiC S T = if v = true then z else 793) := Lib.hid (by rw [hv, hz]; rfl)
  clear hS bx hg hc hcl hlt hfew hset hv hz C1
  go_enter Try.func31, Try.ntmps31
  go_wp2_with fail
  refine (show Calls _ _ _ _ _ from C1'.out).mono ?_
  rintro e W1 ⟨rfl, hb1⟩
  have y0 := (HBX.out.on hb1).c0
  have y1 := (HBX.out.on hb1).c1
  have y2 := (HBX.out.on hb1).c2
  clear x0 x1 x2
  cases v with
  | false =>
    go_wp2
    go_ret
    exact ⟨by rw [HE.out]; rfl, hb1⟩
  | true =>
    have C2' := Lib.hid (C2.out W1 hb1)
    have HB1 := Lib.hid hb1
    clear hb1
    go_wp2_with fail
    refine (show Calls _ _ _ _ _ from C2'.out).mono ?_
    rintro e W2 ⟨rfl, hb2⟩
    have HB2 := Lib.hid (HB1.out.trans (hb2.mono HB1.out.size))
    clear hb2
    go_wp2
    go_ret
    exact ⟨by rw [HE.out]; rfl, HB2.out⟩

theorem cho_self {n : Nat} (hn : n ≤ 8) {T : List Nat} (hT : T ∈ choL n (min n n)) : setB n (up T) = true ∧ T.length ≤ 8 ∧ ∀ x ∈ T, x < n := by rw [Nat.min_self] at hT; exact cho_ok hn hT

set_option maxHeartbeats 1000000 in
theorem hasCover_any (S : Sys) (w : World) (hS : S.At w) :
    Calls Try.prog 28 #[.agg #[.int .i64 S.n, .slice S.f.t.a S.f.t.R.length S.f.t.c, .slice S.f.o.a S.f.o.l.length S.f.o.c]] w fun e w' => e = .returned (.bool (hasC S)) ∧ Below w.heap.size w w' := by
  obtain ⟨wA, hA, hb, bx, hSA, hszA⟩ := laid_sys S w 29 hS
  have HS : Hid (∀ u, Below wA.heap.size wA u → ((u.cell? ⟨w.heap.size, 0, none⟩ = some (.int .i64 S.n) ∧ u.cell? ⟨w.heap.size, 1, none⟩ = some (.slice S.f.t.a S.f.t.R.length S.f.t.c) ∧ u.cell? ⟨w.heap.size, 2, none⟩ = some (.slice S.f.o.a S.f.o.l.length S.f.o.c)) ∧ Below wA.heap.size wA u)) := Lib.hid fun u hu => sys_cells bx u hu
  have hN : Below wA.heap.size wA wA.drew := (Below.refl _ _).drew
  have s0 := HS.out wA.drew hN
  have hszr := hN.size
  obtain ⟨v, hv⟩ : ∃ v, v = S.good := ⟨_, rfl⟩
  have C1 := Lib.hid (fun u (hu : Below wA.heap.size wA u) => by have := implIsSystem_any S u (Sys.At.on (show S.At wA from hSA) hu); rw [← hv] at this; exact this : ∀ u, Below wA.heap.size wA u → Calls Try.prog 40 #[.agg #[.int .i64 S.n, .slice S.f.t.a S.f.t.R.length S.f.t.c, .slice S.f.o.a S.f.o.l.length S.f.o.c]] u fun e w' => e = .returned (.bool v) ∧ Below u.heap.size u w')
  have HA := Lib.hid hA
  have HB := Lib.hid hb
  cases v with
  | false =>
    have HE : Hid (hasC S = false) := Lib.hid (by unfold hasC; rw [← hv]; rfl)
    have C1' := Lib.hid (C1.out wA.drew hN)
    have HNB : Hid (∀ u, Below wA.drew.heap.size wA.drew u → Below w.heap.size w u) := Lib.hid (fun u hu => hb.trans ((hN.trans (hu.mono hszr)).mono hb.size))
    obtain ⟨⟨z0, z1, z2⟩, -⟩ := s0
    have x0 := bx.c0
    have x1 := bx.c1
    have x2 := bx.c2
    clear hS hA bx hSA hv hszA hb hN hszr
    go_enter Try.func28, Try.ntmps28
    go_wp2_with fail
    rw [← HA.out]
    first | (go_region_law (first | (go_simp; go_at_call 40; refine (show Calls _ _ _ _ _ from C1'.out).mono ?_; rintro e u1 ⟨rfl, hb1⟩))) | fail
    all_goals
      have HBB := Lib.hid (HNB.out _ hb1)
      go_wp2
      go_ret
      exact ⟨by rw [HE.out]; rfl, HBB.out⟩
  | true =>
    have hg : S.good = true := hv.symm
    obtain ⟨-, -, -, hN8, -, -, -⟩ := good_n hg
    have hNR : S.f.t.con.length = S.f.t.R.length := con_length S.f.t
    have hR8 : S.f.t.R.length ≤ 8 := by omega
    have hRi : (S.f.t.R.length : Int) ≤ 8 := by omega
    obtain ⟨q, hq⟩ : ∃ q, q = covB S (List.range S.f.t.R.length) := ⟨_, rfl⟩
    have C2 := Lib.hid (fun u => E8.numbers_any S.f.t.R.length u hR8)
    have C3 := Lib.hid (fun u (hu : Below wA.heap.size wA u) (y : Row) (hy : y.At u) (hl : y.l = up (List.range S.f.t.R.length)) => by have := coversAll_any S y (List.range S.f.t.R.length) u (Sys.At.on (show S.At wA from hSA) hu) hy (good_row8 hg) hl (by rw [hNR]; intro m hm; exact List.mem_range.1 hm) (by rw [List.length_range]; exact hR8); rw [← hq] at this; exact this : ∀ u, Below wA.heap.size wA u → ∀ y : Row, y.At u → y.l = up (List.range S.f.t.R.length) → Calls Try.prog 32 #[.agg #[.int .i64 S.n, .slice S.f.t.a S.f.t.R.length S.f.t.c, .slice S.f.o.a S.f.o.l.length S.f.o.c], .slice y.a y.l.length y.c] u fun e w' => e = .returned (.bool q) ∧ Below u.heap.size u w')
    have HE : Hid (hasC S = q) := Lib.hid (by unfold hasC; rw [← hv, hNR, ← hq]; rfl)
    clear hS hA bx hSA hv hszA hb hg hq hNR hN8
    go_enter Try.func28, Try.ntmps28
    go_wp2_with fail
    rw [← HA.out]
    go_region_held3 (fun u => ((u.cell? ⟨w.heap.size, 0, none⟩ = some (.int .i64 S.n) ∧ u.cell? ⟨w.heap.size, 1, none⟩ = some (.slice S.f.t.a S.f.t.R.length S.f.t.c) ∧ u.cell? ⟨w.heap.size, 2, none⟩ = some (.slice S.f.o.a S.f.o.l.length S.f.o.c)) ∧ Below wA.heap.size wA u)) (first | exact s0 | exact HS.out _ (by assumption)) (first | (go_at_call 40; refine (show Calls _ _ _ _ _ from C1.out _ hN).mono ?_; rintro e u1 ⟨rfl, hb1⟩; have hB1 : Below wA.heap.size wA u1 := hN.trans (hb1.mono hszr); have hsz1 := hB1.size; clear hb1) | (go_at_call 51; refine (show Calls _ _ _ _ _ from C2.out u1).mono ?_; rintro e u2 ⟨y, rfl, hyl, -, hyi, hb2⟩; have HY := Lib.hid hyl; have HYI := Lib.hid hyi.at; have hB2 : Below wA.heap.size wA u2 := hB1.trans (hb2.mono hsz1); have hsz2 := hB2.size; clear hb2 hyl hyi) | (go_at_call 32; refine (show Calls _ _ _ _ _ from C3.out _ hB2 y HYI.out HY.out).mono ?_; rintro e u3 ⟨rfl, hb3⟩; have hB3 : Below wA.heap.size wA u3 := hB2.trans (hb3.mono hsz2); clear hb3))
    have HBB := Lib.hid (HB.out.trans (hB3.mono HB.out.size))
    go_wp2
    go_ret
    exact ⟨by rw [HE.out]; rfl, HBB.out⟩

set_option maxRecDepth 32000 in
set_option maxHeartbeats 2000000 in
theorem implLeastC_any (S : Sys) (w : World) (hS : S.At w) (l : List Int) (b : Bool) (hb0 : b = hasC S) (hl0 : l = if b then up (leastC S) else []) :
    Calls Try.prog 10 #[.agg #[.int .i64 S.n, .slice S.f.t.a S.f.t.R.length S.f.t.c, .slice S.f.o.a S.f.o.l.length S.f.o.c]] w (PInts l b w) := by
  obtain ⟨wA, hA, hb, bx, hSA, hszA⟩ := laid_sys S w 29 hS
  have x0 := bx.c0
  have x1 := bx.c1
  have x2 := bx.c2
  rw [hA] at x0 x1 x2
  have cg := hasCover_any S wA hSA
  rw [← hb0] at cg
  have CG := Lib.hid cg
  have HSA := Lib.hid hSA
  have HBX := Lib.hid bx
  have HA := Lib.hid hA
  have HB0 := Lib.hid hb0
  have HL0 := Lib.hid hl0
  clear hS hA bx hSA cg hb0 hl0
  unfold PInts
  go_enter Try.func10, Try.ntmps10
  go_wp2_with fail
  rw [← HA.out]
  refine (show Calls _ _ _ _ _ from CG.out).mono ?_
  rintro e W1 ⟨rfl, hb1⟩
  have hbw := hb.trans (hb1.mono hb.size)
  have HB1 := Lib.hid hb1
  clear x0 x1 x2
  cases b with
  | false =>
    have HEND : Hid (PInts l false w (.returned (.tuple #[.slice (some ⟨W1.heap.size, 0, none⟩) 0 0, .bool false])) (W1.alloc (.cells #[] 3))) := Lib.hid (by
      have : l = [] := HL0.out
      subst this
      exact ints_end rfl (empty_own W1) hbw.size (hbw.trans ((below_alloc W1 _).mono hbw.size)))
    go_wp2
    go_ret2
    exact HEND.out
  | true =>
    obtain ⟨hg, -⟩ := hasC_iff.1 HB0.out.symm
    obtain ⟨-, -, -, hN8, -, -, -⟩ := good_n hg
    have hNR : S.f.t.con.length = S.f.t.R.length := con_length S.f.t
    have y1 := (HBX.out.on HB1.out).c1
    have CC := Lib.hid (choicesUpTo_any S.f.t.R.length S.f.t.R.length W1)
    have HGD := Lib.hid hg
    have HLL : Hid (l = up (leastC S)) := Lib.hid (by rw [HL0.out, if_pos rfl])
    have hRi : (S.f.t.R.length : Int) ≤ 8 := by omega
    have hk8' : S.f.t.R.length ≤ 8 := by omega
    have HNR := Lib.hid hNR
    clear hg hb1 hNR
    go_wp2_with fail
    refine (show Calls _ _ _ _ _ from CC.out).mono ?_
    rintro e W2 ⟨Bs, Bk, rfl, HBS, HBK, hb2⟩
    have HB2 := Lib.hid (HB1.out.trans (hb2.mono HB1.out.size))
    have hbw2 := hbw.trans (hb2.mono hbw.size)
    have hls : Bs < W2.heap.size := World.block_lt_of_cell? W2 _ HBS.out
    have hlk : Bk < W2.heap.size := World.block_lt_of_cell? W2 _ HBK.out
    have hR8 : S.f.t.R.length ≤ 8 := by omega
    have CF := Lib.hid (callsIn_wide.1 (firstCover_in 8 (by omega) (phiC S) 52 #[.pointer (some ⟨Bs, 0, none⟩), .pointer (some ⟨Bk, 0, none⟩)] (choL S.f.t.R.length (min S.f.t.R.length S.f.t.R.length)) w.heap.size 0 W2.heap.size W2 W2 (Nat.le_refl _)
      (enters_of Try.func52 (by kernel_rfl) rfl) (choices_seqX 7 (by omega) Bs Bk S.f.t.R.length S.f.t.R.length W2 hR8 hk8' HBS.out HBK.out 0 W2.heap.size (Nat.zero_le _) hls (Nat.zero_le _) hlk).all (Below.refl _ _)
      (fun j hj x W hW hx hxl => by
        have hbW := HB2.out.trans (hW.mono HB2.out.size)
        have hok := (cho_self hR8 (List.getElem_mem hj)).2
        exact leastPhi_any S x _ w.heap.size W (Sys.At.on (show S.At wA from HSA.out) hbW) (HBX.out.on hbW) HGD.out hx hxl (by rw [HNR.out]; exact hok.2) hok.1 (by rw [HNR.out]; exact (cho_self hR8 (List.getElem_mem hj)).1))
      (fun T hT => by
        have hok := (cho_self hR8 hT).2
        have := phiC_bound HGD.out hok.1
        omega)))
    have HW2 := Lib.hid hbw2
    clear hb2 hbw hbw2 y1 hls hlk
    go_wp2_with fail
    refine (show Calls _ _ _ _ _ from CF.out).mono ?_
    rintro e W3 ⟨t, rfl, htl, hto, hti, hb3⟩
    have HEND : Hid (PInts l true w (.returned (.tuple #[.slice t.a t.l.length t.c, .bool true])) W3) := Lib.hid ⟨t, rfl, by rw [htl, HLL.out]; unfold leastC; rw [HNR.out, Nat.min_self], hto, hti.wide HW2.out.size (Nat.le_refl _), HW2.out.trans (hb3.mono HW2.out.size)⟩
    clear htl hto hti hb3
    go_wp2
    go_ret2
    exact HEND.out
end Go.Proofs.Ytbngmjmcmdfphaa

namespace Go.Proofs.Ytbngmjmcmdfphaa
open Go.RowKit Go.Shelf

set_option maxHeartbeats 1000000 in
theorem specLeastC_any (S : Sys) (w : World) (hS : S.At w) (l : List Int) (b : Bool) (hb0 : b = hasC S) (hl0 : l = if b then up (leastC S) else []) :
    Calls Try.prog 8 #[.agg #[.int .i64 S.n, .slice S.f.t.a S.f.t.R.length S.f.t.c, .slice S.f.o.a S.f.o.l.length S.f.o.c]] w (PInts l b w) := by
  obtain ⟨wA, hA, hb, bx, hSA, hszA⟩ := laid_sys S w 29 hS
  have x0 := bx.c0
  have x1 := bx.c1
  have x2 := bx.c2
  rw [hA] at x0 x1 x2
  obtain ⟨v, hv⟩ : ∃ v, v = S.good := ⟨_, rfl⟩
  have cg := l6Good_any S wA hSA
  rw [← hv] at cg
  have CG := Lib.hid cg
  have HSA := Lib.hid hSA
  have HBX := Lib.hid bx
  have HA := Lib.hid hA
  have HV := Lib.hid hv
  have HB0 := Lib.hid hb0
  have HL0 := Lib.hid hl0
  clear hS hA bx hSA cg hb0 hl0 hv hszA
  go_enter Try.func8, Try.ntmps8
  go_wp2_with fail
  rw [← HA.out]
  refine (show Calls _ _ _ _ _ from CG.out).mono ?_
  rintro e W1 ⟨rfl, hb1⟩
  have hbw := hb.trans (hb1.mono hb.size)
  have HB1 := Lib.hid hb1
  clear x0 x1 x2
  cases v with
  | false =>
    have HEND : Hid (PInts l b w (.returned (.tuple #[.slice (some ⟨W1.heap.size, 0, none⟩) 0 0, .bool false])) (W1.alloc (.cells #[] 3))) := Lib.hid (by
      have hbf : b = false := by rw [HB0.out]; unfold hasC; rw [← HV.out]; rfl
      subst hbf
      have : l = [] := HL0.out
      subst this
      exact ints_end rfl (empty_own W1) hbw.size (hbw.trans ((below_alloc W1 _).mono hbw.size)))
    clear hb1 hbw
    go_wp2
    go_ret2
    exact HEND.out
  | true =>
    have hbq : b = covB S (List.range S.f.t.R.length) := by rw [HB0.out]; unfold hasC; rw [← HV.out, con_length]; rfl
    have y0 := (HBX.out.on HB1.out).c0
    have y1 := (HBX.out.on HB1.out).c1
    have y2 := (HBX.out.on HB1.out).c2
    have CL := Lib.hid (l6Least_any S W1 (Sys.At.on (show S.At wA from HSA.out) hb1) HV.out.symm b hbq l HL0.out)
    have HBW := Lib.hid hbw
    clear hb1 hbw hbq
    go_wp2_with fail
    refine (show Calls _ _ _ _ _ from CL.out).mono ?_
    rintro e W2 ⟨t, rfl, htl, hto, hti, hb2⟩
    have HEND : Hid (PInts l b w (.returned (.tuple #[.slice t.a t.l.length t.c, .bool b])) W2) := Lib.hid ⟨t, rfl, htl, hto, hti.wide HBW.out.size (Nat.le_refl _), HBW.out.trans (hb2.mono HBW.out.size)⟩
    clear htl hto hti hb2
    go_wp2
    go_ret2
    exact HEND.out

theorem leastCover_pair (S : Sys) (_ : S.Small) : ∃ (l : List Int) (b : Bool) (_ : l.length ≤ 1048576),
    (∀ (G : Sys) (W : World), G.At W → G.Like S → Calls Try.prog 8 #[.agg #[.int .i64 G.n, .slice G.f.t.a G.f.t.R.length G.f.t.c, .slice G.f.o.a G.f.o.l.length G.f.o.c]] W (PInts l b W)) ∧
    (∀ (G : Sys) (W : World), G.At W → G.Like S → Calls Try.prog 10 #[.agg #[.int .i64 G.n, .slice G.f.t.a G.f.t.R.length G.f.t.c, .slice G.f.o.a G.f.o.l.length G.f.o.c]] W (PInts l b W)) := by
  refine ⟨if hasC S = true then up (leastC S) else [], hasC S, ?_, fun G W hG hl => specLeastC_any G W hG _ _ (hasC_like hl).symm (by rw [leastC_like hl]), fun G W hG hl => implLeastC_any G W hG _ _ (hasC_like hl).symm (by rw [leastC_like hl])⟩
  split
  · rename_i h
    obtain ⟨hg, -⟩ := hasC_iff.1 h
    obtain ⟨-, -, -, hN8, -, -, -⟩ := good_n hg
    have := leastC_len (S := S) hN8
    rw [up_length]; omega
  · simp
end Go.Proofs.Ytbngmjmcmdfphaa

namespace Go.Proofs.Ytbngmjmcmdfphaa

def picks (P : List Int → Bool) (d : List (List Int)) : Nat → List Int
  | 0 => []
  | k + 1 => if P (d.getD k []) then picks P d k ++ [(k : Int)] else picks P d k
theorem picks_yes {P : List Int → Bool} {d : List (List Int)} {k : Nat} (h : P (d.getD k []) = true) : picks P d (k + 1) = picks P d k ++ [(k : Int)] := by rw [picks, if_pos h]
theorem picks_no {P : List Int → Bool} {d : List (List Int)} {k : Nat} (h : P (d.getD k []) = false) : picks P d (k + 1) = picks P d k := by rw [picks, if_neg (by rw [h]; decide)]
theorem picks_len (P : List Int → Bool) (d : List (List Int)) : ∀ k, (picks P d k).length ≤ k
  | 0 => Nat.le_refl _
  | k + 1 => by
    have := picks_len P d k
    unfold picks
    split
    · rw [List.length_append]; simp; omega
    · omega
theorem picks_mem (P : List Int → Bool) (d : List (List Int)) : ∀ (k : Nat) (x : Int), x ∈ picks P d k ↔ ∃ i : Nat, x = i ∧ i < k ∧ P (d.getD i []) = true
  | 0, x => by simp [picks]
  | k + 1, x => by
    have ih := picks_mem P d k x
    unfold picks
    split
    · rename_i h
      rw [List.mem_append, ih, List.mem_singleton]
      constructor
      · rintro (⟨i, h1, h2, h3⟩ | h1)
        · exact ⟨i, h1, by omega, h3⟩
        · exact ⟨k, h1, by omega, h⟩
      · rintro ⟨i, h1, h2, h3⟩
        by_cases e : i = k
        · subst e; exact .inr h1
        · exact .inl ⟨i, h1, by omega, h3⟩
    · rename_i h
      rw [ih]
      constructor
      · rintro ⟨i, h1, h2, h3⟩; exact ⟨i, h1, by omega, h3⟩
      · rintro ⟨i, h1, h2, h3⟩
        refine ⟨i, h1, ?_, h3⟩
        by_cases e : i = k
        · subst e; exact absurd h3 h
        · omega
theorem picks_rise (P : List Int → Bool) (d : List (List Int)) (n : Nat) : ∀ k : Nat, k ≤ n → rise n (-1) (picks P d k) = true ∧ lst (-1) (picks P d k) < k
  | 0, _ => by simp [picks, rise, lst]
  | k + 1, hk => by
    obtain ⟨h1, h2⟩ := picks_rise P d n k (by omega)
    unfold picks
    split
    · rw [rise_append, h1, lst_snoc]
      simp only [rise, Bool.and_true, Bool.true_and, Bool.and_eq_true, decide_eq_true_eq]
      omega
    · exact ⟨h1, by omega⟩
theorem picks_set (P : List Int → Bool) (d : List (List Int)) (n : Nat) : setB n (picks P d n) = true := (picks_rise P d n n (Nat.le_refl _)).1

/-- The sets that have an element. -/
def withEl (d : List (List Int)) (x : Int) : List Int := picks (fun l => l.contains x) d d.length
/-- The sets of the turned System. -/
def turnD (n : Nat) (d : List (List Int)) : List (List Int) := (List.range n).map fun (x : Nat) => withEl d (x : Int)
theorem turnD_len (n : Nat) (d : List (List Int)) : (turnD n d).length = n := by unfold turnD; simp
theorem turnD_get (n : Nat) (d : List (List Int)) {k : Nat} (h : k < n) : (turnD n d)[k]'(by rw [turnD_len]; exact h) = withEl d (k : Int) := by simp [turnD]

end Go.Proofs.Ytbngmjmcmdfphaa

namespace Go.Proofs.Ytbngmjmcmdfphaa
open Go.RowKit

theorem infoIntW : (Try.prog.info? 3).map (fun i => (i.zero, i.size, i.bytes)) = some (some (.int .i64 0), 1, 8) := infoInt
theorem erase_iv (l : List Int) : ∀ i, (iv l).eraseIdx i = iv (l.eraseIdx i) := by
  induction l with
  | nil => intro i; rfl
  | cons a t ih =>
    intro i
    cases i with
    | zero => rfl
    | succ i => show Value.int .i64 a :: (iv t).eraseIdx i = Value.int .i64 a :: iv (t.eraseIdx i); rw [ih i]
theorem addr_at (g k j : Nat) : (⟨g, k, none⟩ : Addr).add j = ⟨g, k + j, none⟩ := by unfold Addr.add; split <;> simp_all
theorem row_of_block {w : World} {B g : Nat} {xs : List Int} (hg : w.heap[g]? = some (.cells (iv xs).toArray 3 (0, 0))) (hB : B ≤ g) (hn : xs.length ≤ maxLen) :
    w.ownsRow B 3 1 (.slice (some ⟨g, 0, none⟩) xs.length xs.length) xs.length (iv xs) :=
  ⟨by rw [iv_length]; omega, .inr ⟨g, xs.length, (iv xs).toArray, rfl, hB, hg, Nat.le_refl _, hn, by simp [iv_length], by simp [List.take_of_length_le, iv_length]⟩⟩
theorem splice_erase {xs : List Value} {i n : Nat} (hn : n + 1 = xs.length) (hi : i < xs.length) (Z : List Value) (hZ : Z.length = n) :
    splice (splice Z 0 (xs.take i)) i (xs.drop (i + 1)) = xs.eraseIdx i := by
  rw [List.eraseIdx_eq_take_drop_succ]
  unfold splice
  have h1 : (xs.take i).length = i := by rw [List.length_take]; omega
  have h2 : (xs.drop (i + 1)).length = n - i := by rw [List.length_drop]; omega
  simp only [List.take_zero, List.nil_append, Nat.zero_add, h1, h2]
  have e1 : (xs.take i ++ Z.drop i).take i = xs.take i := by rw [List.take_append_of_le_length (by omega), List.take_of_length_le (by omega)]
  have e2 : (xs.take i ++ Z.drop i).drop (i + (n - i)) = [] := List.drop_eq_nil_iff.2 (by rw [List.length_append, h1, List.length_drop]; omega)
  rw [e1, e2, List.append_nil]

/-- One copy into a block of the call's own. -/
theorem copy_run (w w0 : World) (ty : TypeId) (g off B n m dc sc : Nat) (ad : Addr) (cur cs : List Value) (hg : w.heap[g]? = some (.cells cur.toArray 3 (0, 0))) (hn : cs.length = Nat.min m n)
    (hsrc : ∀ j v, cs[j]? = some v → w.cell? (ad.add j) = some v) (hfit : off + cs.length ≤ cur.length) (h1 : ∀ v ∈ cs, v.oneCell' = true) (hb : Below B w0 w) (hBg : B ≤ g) :
    ∃ w', (Builtin.copy_ #[23, 23] ty #[.slice (some ⟨g, off, none⟩) n dc, .slice (some ad) m sc]).run Try.prog w = .ok (goInt cs.length) w' ∧ w'.heap[g]? = some (.cells (splice cur off cs).toArray 3 (0, 0)) ∧ Below B w0 w' := by
  have hsz : (Try.prog.info? 3).map (·.size) = some 1 := by
    have := infoIntW
    cases h : Try.prog.info? 3 with
    | none => rw [h] at this; cases this
    | some x => rw [h] at this; simp only [Option.map_some, Option.some.injEq, Prod.mk.injEq] at this ⊢; exact this.2.1
  by_cases h0 : cs.length = 0
  · obtain rfl : cs = [] := List.eq_nil_of_length_eq_zero h0
    exact ⟨w, run_copy_none (P := Try.prog) w _ _ ty 3 _ _ _ _ _ _ Try.underlying23 hsz (by simpa using hn.symm), by simpa [splice] using hg, hb⟩
  · have hr := run_copy_row (P := Try.prog) w 23 23 ty 3 g off n dc ad m sc cur.toArray 3 cs Try.underlying23 hsz hg hn hsrc (by simpa using hfit) h1
    exact ⟨_, hr, by simpa [splice] using setRow_heap w g _ _ 3 _ hg, below_setRow hb hBg _⟩

end Go.Proofs.Ytbngmjmcmdfphaa

namespace Go.Proofs.Ytbngmjmcmdfphaa
open Go.RowKit Go.Shelf

theorem containsI_any (s : Row) (x : Int) (w : World) (hs : s.At w) (hsm : s.l.length ≤ 1048576) :
    Calls Try.prog 70 #[.slice s.a s.l.length s.c, .int .i64 x] w fun e w' => e = .returned (.bool (s.l.contains x)) ∧ w' = w := by
  obtain ⟨a, c, l⟩ := s
  obtain ⟨h1, h2, h3⟩ := hs
  simp only at h1 h2 h3 hsm ⊢
  by_cases h0 : l = []
  · subst h0
    exact Try.slices_Contains_int_empty a c x w
  rcases h3 with h3 | ⟨b, o, rfl, hb, hcell⟩
  · exact absurd (iv_nil h3) h0
  have := Try.slices_Contains_int b o l.length c l x w (Nat.le_refl _) (by omega) (fun j hj => by rw [hcell j _ (iv_at hj), List.getD_eq_getElem?_getD, List.getElem?_eq_getElem hj]; rfl)
  rw [List.take_length] at this; exact this

theorem setsWith1_any (r : Row) (x : Int) (g : Nat) (w : World) (hr : r.At w) (hsm : r.l.length ≤ 1048576) (hg : w.cell? ⟨g, 0, none⟩ = some (.int .i64 x)) :
    Calls Try.prog 69 #[.slice r.a r.l.length r.c, .pointer (some ⟨g, 0, none⟩)] w fun e w' => e = .returned (.bool (r.l.contains x)) ∧ Below w.heap.size w w' := by
  have C0 := containsI_any r x w hr hsm
  obtain ⟨v, hv⟩ : ∃ v, v = r.l.contains x := ⟨_, rfl⟩
  rw [← hv] at C0 ⊢
  have C := Lib.hid C0
  clear hr hsm C0 hv
  go_enter Try.func69, Try.ntmps69
  go_wp2_with fail
  refine (show Calls _ _ _ _ _ from C.out).mono ?_
  rintro e W ⟨rfl, rfl⟩
  go_wp2
  go_ret
  exact ⟨rfl, Below.refl _ _⟩

set_option maxRecDepth 8000 in
set_option maxHeartbeats 1000000 in
/-- The places of the rows of a table that are picked by setsWith$1. -/
theorem placesWhere_with (T : Tab) (g : Nat) (P : List Int → Bool) (w : World) (hT : T.At w) (hs : T.R.length ≤ 1048576)
    (hP : ∀ r ∈ T.R, ∀ u, Below w.heap.size w u → Calls Try.prog 69 #[.slice r.a r.l.length r.c, .pointer (some ⟨g, 0, none⟩)] u fun e w' => e = .returned (.bool (P r.l)) ∧ Below u.heap.size u w') :
    Calls Try.prog 68 #[.slice T.a T.R.length T.c, .func (.func 69) #[] #[.pointer (some ⟨g, 0, none⟩)]] w fun e w' => ∃ t : Row, e = .returned (.slice t.a t.l.length t.c) ∧ t.l = picks P T.con T.R.length ∧ t.Own 3 w' ∧ t.In w.heap.size w'.heap.size w' ∧ Below w.heap.size w w' := by
  obtain ⟨i0, hi, hz0, hz1, hz2⟩ := info_parts infoInt
  have hni : (T.R.length : Int) ≤ 1048576 := by omega
  have HT := Lib.hid hT
  have HP := Lib.hid hP
  have hown0 := empty_own w
  have hb0 := below_alloc w (.cells #[] 3)
  have H0 := Lib.hid hown0
  have HB0 := Lib.hid hb0
  clear hP hown0 hb0 hT
  go_enter Try.func68, Try.ntmps68
  go_wp2
  go_loopw [5, 6, 7, 11] (fun out _ _ i wr => ∃ k : Nat, k ≤ T.R.length ∧ i = .int .i64 k ∧ wr.ownsRow w.heap.size 3 1 out (picks P T.con k).length (iv (picks P T.con k)) ∧ Below w.heap.size w wr) (fun _ _ _ i _ => T.R.length - (intOf i).toNat)
  case atStart => exact ⟨0, Nat.zero_le _, rfl, H0.out, HB0.out⟩
  case round =>
    obtain ⟨k, hk, rfl, hown0, hnx⟩ := hrel
    by_cases hlt : k < T.R.length
    · have hlti : (k : Int) < (T.R.length : Int) := by omega
      obtain ⟨b, o, x, hta, hcl, hxa, hxl, hxm⟩ := tab_cells HT.out hnx hlt
      have HX := Lib.hid hxl
      have cp := HP.out x hxm wr hnx
      obtain ⟨v, hv⟩ : ∃ v, v = P x.l := ⟨_, rfl⟩
      rw [← hv] at cp
      have CP := Lib.hid cp
      have HV := Lib.hid hv
      have HO := Lib.hid hown0
      have HN := Lib.hid hnx
      have hszr := hnx.size
      have hpl := picks_len P T.con k
      rw [hta]
      clear cp hv hown0 hnx hta hxa hxl hxm
      go_wp2_with fail
      refine (show Calls _ _ _ _ _ from CP.out).mono ?_
      rintro e W1 ⟨rfl, hb1⟩
      have hnx1 := HN.out.trans (hb1.mono hszr)
      have hown := owns_below HO.out hb1
      have hsz1 := hb1.size
      clear hb1 hcl
      cases v with
      | false =>
        have HE : Hid (picks P T.con (k + 1) = picks P T.con k) := Lib.hid (picks_no (by rw [HX.out, ← HV.out]))
        have HOW := Lib.hid hown
        clear hown
        go_wp2
        go_roundw
        case rel => exact ⟨k + 1, by omega, by go_num, by rw [HE.out]; exact HOW.out, hnx1⟩
        case measure => simp [intOf]; omega
      | true =>
        have HE : Hid (picks P T.con (k + 1) = picks P T.con k ++ [(k : Int)]) := Lib.hid (picks_yes (by rw [HX.out, ← HV.out]))
        have HX2 := Lib.hid hnx1
        clear hnx1
        go_wp2_with (at_builtin; refine wpList_append_own _ rfl _ _ 23 rfl w.heap.size 3 i0 (.int .i64 0) 1 8 Try.underlying23 hi hz0 hz1 hz2 rfl (by decide) _ _ _ rfl (hown.alloc _) ⟨W1.heap.size, 0, none⟩ 1 1 [.int .i64 (k : Int)] rfl rfl (one_cell _ _ _) (by simp [Value.oneCell']) (by unfold maxLen; omega) (by omega) (by simp; omega) ?_; intro v' w1 hown' hgrow _)
        have R1 : w1.ownsRow w.heap.size 3 1 v' (picks P T.con (k + 1)).length (iv (picks P T.con (k + 1))) := by rw [HE.out]; exact own_snoc rfl hown'
        have R2 : Below w.heap.size w w1 := (HX2.out.alloc (by omega) _).grown hgrow (by simp; omega) (fun j hj => (hown.lt j hj).1)
        clear hown' hgrow hown
        go_wp2
        go_roundw
        case rel => exact ⟨k + 1, by omega, by go_num, R1, R2⟩
        case measure => simp [intOf]; omega
    · obtain rfl : k = T.R.length := by omega
      go_wp2
      go_ret
      obtain ⟨t, ht, htl, hto, hti⟩ := row_of_own hown0
      exact ⟨t, congrArg Ending.returned ht, htl, hto, hti, hnx⟩

set_option maxHeartbeats 1000000 in
theorem setsWith_any (S : Sys) (x : Int) (w : World) (hS : S.At w) (h8 : ∀ l ∈ S.f.t.con, l.length ≤ 8) (hR : S.f.t.R.length ≤ 8) :
    Calls Try.prog 56 #[.agg #[.int .i64 S.n, .slice S.f.t.a S.f.t.R.length S.f.t.c, .slice S.f.o.a S.f.o.l.length S.f.o.c], .int .i64 x] w fun e w' => ∃ t : Row, e = .returned (.slice t.a t.l.length t.c) ∧ t.l = withEl S.f.t.con x ∧ t.Own 3 w' ∧ t.In w.heap.size w'.heap.size w' ∧ Below w.heap.size w w' := by
  obtain ⟨wA, hA, hb, bx, hSA, hszA⟩ := laid_sys S w 29 hS
  obtain ⟨wB, hB⟩ : ∃ u, u = wA.alloc (.cells #[.int .i64 x] 3) := ⟨_, rfl⟩
  have hbB : Below wA.heap.size wA wB := by rw [hB]; exact below_alloc _ _
  have hg : wB.cell? ⟨w.heap.size + 1, 0, none⟩ = some (.int .i64 x) := by rw [hB, ← hszA]; simp
  have hbw := hb.trans (hbB.mono hb.size)
  have x1 := (bx.on hbB).c1
  have hglt := World.block_lt_of_cell? _ _ hg
  have CP := Lib.hid (placesWhere_with S.f.t (w.heap.size + 1) (fun l => l.contains x) wB (hSA.2.on hbB) (by omega) (fun r hr u hu => setsWith1_any r x (w.heap.size + 1) u (((hSA.2.2 r hr).on hbB).on hu) (by have := h8 r.l (List.mem_map.2 ⟨r, hr, rfl⟩); omega) ((hu.cell (p := ⟨w.heap.size + 1, 0, none⟩) hglt).trans hg)))
  have HB : Hid (wB = (w.alloc (Obj.cells #[.int .i64 S.n, .slice S.f.t.a S.f.t.R.length S.f.t.c, .slice S.f.o.a S.f.o.l.length S.f.o.c] 29)).alloc (.cells #[.int .i64 x] 3)) := Lib.hid (by rw [hB, hA])
  have HL : Hid (picks (fun l => l.contains x) S.f.t.con S.f.t.R.length = withEl S.f.t.con x) := Lib.hid (by unfold withEl; rw [con_length])
  rw [HB.out] at x1
  clear hS h8 hA bx hSA hB hbB hg hglt hb
  go_enter Try.func56, Try.ntmps56
  go_wp2_with fail
  rw [← HB.out]
  refine (show Calls _ _ _ _ _ from CP.out).mono ?_
  rintro e W ⟨t, rfl, htl, hto, hti, hb2⟩
  have HTL := Lib.hid htl
  have hsz := hbw.size
  clear htl x1
  go_wp2
  go_ret
  exact ⟨t, rfl, by rw [HTL.out, HL.out], hto, hti.wide hsz (Nat.le_refl _), hbw.trans (hb2.mono hsz)⟩

end Go.Proofs.Ytbngmjmcmdfphaa

namespace Go.Proofs.Ytbngmjmcmdfphaa
open Go.RowKit

set_option maxRecDepth 16000 in
set_option maxHeartbeats 1000000 in
theorem mul64_one (m : Nat) (hm : m ≤ 8) (w : World) :
    Calls Try.prog 92 #[.int .u64 1, .int .u64 (m : Int)] w fun e w' => e = .returned (.tuple #[.int .u64 0, .int .u64 (m : Int)]) ∧ w' = w := by
  have hc : m = 0 ∨ m = 1 ∨ m = 2 ∨ m = 3 ∨ m = 4 ∨ m = 5 ∨ m = 6 ∨ m = 7 ∨ m = 8 := by omega
  rcases hc with rfl | rfl | rfl | rfl | rfl | rfl | rfl | rfl | rfl
  all_goals
    go_enter Try.func92, Try.ntmps92
    go_wp2
    go_ret2
    exact ⟨rfl, rfl⟩

set_option maxRecDepth 16000 in
set_option maxHeartbeats 1000000 in
theorem mul_one (m : Nat) (hm : m ≤ 8) (w : World) :
    Calls Try.prog 79 #[.int .u64 1, .int .u64 (m : Int)] w fun e w' => e = .returned (.tuple #[.int .u64 0, .int .u64 (m : Int)]) ∧ w' = w := by
  have C := Lib.hid (mul64_one m hm w)
  have hmi : (m : Int) ≤ 8 := by omega
  clear hm
  go_enter Try.func79, Try.ntmps79
  go_wp2_with fail
  refine C.out.mono ?_
  rintro e W ⟨rfl, rfl⟩
  go_wp2
  go_ret2
  exact ⟨rfl, rfl⟩

/-- k ones, then zeros. -/
def ones (m k : Nat) : List Int := List.replicate k 1 ++ List.replicate (m - k) 0
theorem ones_len {m k : Nat} (h : k ≤ m) : (ones m k).length = m := by unfold ones; simp; omega
theorem ones_splice {m k c : Nat} (h : k + c ≤ m) : splice (iv (ones m k)) k (iv (List.replicate c 1)) = iv (ones m (k + c)) := by
  unfold splice ones
  have e1 : (iv (List.replicate k 1 ++ List.replicate (m - k) 0)).take k = iv (List.replicate k 1) := by
    unfold iv; rw [List.map_append, List.take_append_of_le_length (by simp), List.take_of_length_le (by simp)]
  have e2 : (iv (List.replicate k 1 ++ List.replicate (m - k) 0)).drop (k + (iv (List.replicate c (1 : Int))).length) = iv (List.replicate (m - (k + c)) 0) := by
    unfold iv
    rw [List.map_append, List.length_map, List.length_replicate, List.drop_append]
    simp only [List.length_map, List.length_replicate]
    rw [List.drop_eq_nil_iff.2 (by simp), List.nil_append, List.map_replicate, List.map_replicate, List.drop_replicate]
    congr 1; omega
  rw [e1, e2]
  simp only [iv, List.map_append, List.map_replicate]
  rw [← List.replicate_append_replicate, List.append_assoc]
theorem iv_ones_one (c : Nat) : ∀ v ∈ iv (List.replicate c 1), v.oneCell' = true := fun v hv => by
  obtain ⟨x, _, rfl⟩ := List.mem_map.1 hv
  simp [Value.oneCell']
theorem ones_at {m k j : Nat} {v : Value} {c : Nat} (h : c ≤ k) (hv : (iv (List.replicate c (1 : Int)))[j]? = some v) : (iv (ones m k))[j]? = some v := by
  obtain ⟨hj, he⟩ := List.getElem?_eq_some_iff.1 hv
  rw [iv_length, List.length_replicate] at hj
  unfold ones iv
  have h5 : j < k := by omega
  rw [List.map_append, List.getElem?_append_left (by rw [List.length_map, List.length_replicate]; exact h5), ← he]
  simp [iv, h5]

set_option maxRecDepth 16000 in
set_option maxHeartbeats 2000000 in
theorem repeatOne_any (r : Row) (m : Nat) (w : World) (hr : r.At w) (hrl : r.l = [1]) (hm : m ≤ 8) :
    Calls Try.prog 71 #[.slice r.a r.l.length r.c, .int .i64 (m : Int)] w fun e w' => ∃ t : Row, e = .returned (.slice t.a t.l.length t.c) ∧ t.l = List.replicate m 1 ∧ t.Own 3 w' ∧ t.In w.heap.size w'.heap.size w' ∧ Below w.heap.size w w' := by
  obtain ⟨a, c, l⟩ := r
  simp only at hrl
  subst hrl
  obtain ⟨q1, q2, q3⟩ := hr
  rcases q3 with h3 | ⟨b, o, ha, hb, hcell⟩
  · exact absurd (iv_nil h3) (by simp)
  simp only at ha q1 q2
  subst ha
  have hc0 := hcell 0 (.int .i64 1) rfl
  have CM := Lib.hid (mul_one m hm w)
  have hmi : (m : Int) ≤ 8 := by omega
  have hmk := run_make_row' (P := Try.prog) 23 3 (.int .i64 0) 8 Try.underlying23 infoIntW rfl .i64 .i64 m (by omega) (by omega)
  obtain ⟨W1, hW1⟩ : ∃ u, u = w.alloc (.cells (madeCells #[.int .i64 0] m) 3) := ⟨_, rfl⟩
  have hg1 : W1.heap[w.heap.size]? = some (.cells (iv (ones m 0)).toArray 3 (0, 0)) := by
    rw [hW1]
    have h := heap_alloc_new w (.cells (madeCells #[.int .i64 0] m) 3)
    rw [h]
    have h2 : (madeCells #[Value.int .i64 0] m).toList = List.replicate m (Value.int .i64 0) := made_row _ _
    have h3 : iv (ones m 0) = List.replicate m (Value.int .i64 0) := by unfold ones iv; simp
    rw [h3, ← h2]
  have HB1 : Hid (Below w.heap.size w W1) := Lib.hid (by rw [hW1]; exact below_alloc _ _)
  obtain ⟨k0, hk0⟩ : ∃ k0, k0 = Nat.min 1 m := ⟨_, rfl⟩
  have hk01 : k0 ≤ m := by rw [hk0]; exact Nat.min_le_right _ _
  have hk02 : 0 < m → 1 ≤ k0 := fun h => by rw [hk0]; exact Nat.le_min.2 ⟨Nat.le_refl _, h⟩
  have hk03 : k0 ≤ 1 := by rw [hk0]; exact Nat.min_le_left _ _
  obtain ⟨w2, hr1, hg2, hb2⟩ := copy_run W1 w 3 w.heap.size 0 w.heap.size m 1 m c ⟨b, o, none⟩ (iv (ones m 0)) (iv (List.replicate k0 1)) hg1 (by rw [iv_length, List.length_replicate, hk0])
    (fun j v hv => by
      have hj := (List.getElem?_eq_some_iff.1 hv).1
      rw [iv_length, List.length_replicate] at hj
      obtain rfl : j = 0 := by omega
      have hv1 : v = .int .i64 1 := by
        have := (List.getElem?_eq_some_iff.1 hv).2
        rw [← this]; simp [iv]
      rw [hv1, addr_at]
      exact (HB1.out.cell (p := ⟨b, o + 0, none⟩) hb).trans hc0)
    (by rw [iv_length, iv_length, List.length_replicate, ones_len (Nat.zero_le _)]; omega) (iv_ones_one _) HB1.out (Nat.le_refl _)
  rw [hW1, iv_length, List.length_replicate] at hr1
  have h4 := ones_splice (m := m) (k := 0) (c := k0) (by omega)
  rw [Nat.zero_add] at h4
  rw [h4] at hg2
  have HG2 := Lib.hid hg2
  have HB2 := Lib.hid hb2
  have hk0i : (k0 : Int) ≤ 1 := by omega
  have HK := Lib.hid hk02
  have HK1 := Lib.hid hk01
  clear hcell hg1 hW1 hg2 hb2 h4 hk02 hk0 hc0
  show Calls _ _ #[.slice (some ⟨b, o, none⟩) 1 c, .int .i64 (m : Int)] w _
  go_enter Try.func71, Try.ntmps71
  go_wp2_with fail
  refine (show Calls _ _ #[.int .u64 1, .int .u64 (m : Int)] _ _ from CM.out).mono ?_
  rintro e W ⟨rfl, rfl⟩
  go_wp2
  go_loopw [8] (fun nv wr => ∃ k : Nat, k ≤ m ∧ nv = .int .i64 (k : Int) ∧ (0 < m → 1 ≤ k) ∧ wr.heap[W.heap.size]? = some (.cells (iv (ones m k)).toArray 3 (0, 0)) ∧ Below W.heap.size W wr) (fun nv _ => m - (intOf nv).toNat)
  case atStart => exact ⟨k0, HK1.out, rfl, HK.out, HG2.out, HB2.out⟩
  case round =>
    obtain ⟨k, hk, rfl, hk1, hg, hnx⟩ := hrel
    by_cases hlt : k < m
    · have hlti : (k : Int) < (m : Int) := by omega
      obtain ⟨e, he⟩ : ∃ e, e = Nat.min k (m - k) := ⟨_, rfl⟩
      have he1 : 1 ≤ e := by rw [he]; exact Nat.le_min.2 ⟨hk1 (by omega), by omega⟩
      have he2 : e ≤ k := by rw [he]; exact Nat.min_le_left _ _
      have he3 : k + e ≤ m := by have : e ≤ m - k := by rw [he]; exact Nat.min_le_right _ _
                                 omega
      have hbl : W.heap.size < wr.heap.size := (Array.getElem?_eq_some_iff.1 hg).1
      obtain ⟨w4, hr4, hg4, hb4⟩ := copy_run wr.drew W 3 W.heap.size k W.heap.size (m - k) k (m - k) m ⟨W.heap.size, 0, none⟩ (iv (ones m k)) (iv (List.replicate e 1)) hg (by rw [iv_length, List.length_replicate, he])
        (fun j v hv => by
          have h1 := ones_at (m := m) he2 hv
          have hj := (List.getElem?_eq_some_iff.1 h1).1
          rw [addr_at, Nat.zero_add]
          show wr.cell? ⟨W.heap.size, j, none⟩ = some v
          unfold World.cell?
          simp only [hg]
          simpa using h1)
        (by rw [iv_length, iv_length, List.length_replicate, ones_len hk]; exact he3) (iv_ones_one _) hnx.drew (Nat.le_refl _)
      rw [iv_length, List.length_replicate] at hr4
      rw [ones_splice he3] at hg4
      have HG4 := Lib.hid hg4
      have HB4 := Lib.hid hb4
      have hei : (e : Int) ≤ 8 := by omega
      clear hg hg4 hb4 hnx he he2
      go_wp2
      go_region
      all_goals
        go_wp2
        go_roundw
        case rel => exact ⟨k + e, he3, by go_num, fun _ => by omega, HG4.out, HB4.out⟩
        case measure => simp [intOf]; omega
    · obtain rfl : k = m := by omega
      have HG := Lib.hid hg
      have HB := Lib.hid hnx
      clear hg hnx
      go_wp2
      go_ret
      have hl : (ones k k).length = k := ones_len (Nat.le_refl _)
      have h1 : ones k k = List.replicate k 1 := by unfold ones; simp
      have ho := row_of_block HG.out (Nat.le_refl _) (by rw [hl]; unfold maxLen; omega)
      obtain ⟨t, ht, htl, hto, hti⟩ := row_of_own ho
      rw [hl] at ht
      exact ⟨t, congrArg Ending.returned ht, by rw [htl, h1], hto, hti, HB.out⟩

end Go.Proofs.Ytbngmjmcmdfphaa

namespace Go.Proofs.Ytbngmjmcmdfphaa
open Go.RowKit Go.Shelf

theorem Grows.tab {B : Nat} {w' : World} {v : Value} {Q : List Row} (h : Grows B w' v Q) : ∃ T : Tab, v = .slice T.a T.R.length T.c ∧ T.R = Q ∧ T.Own 3 w' ∧ T.In B w'.heap.size w' := by
  have hsp : ∃ T : Tab, v = .slice T.a T.R.length T.c ∧ T.R = Q ∧ RowIn B w'.heap.size w' T.a T.c (tv Q) ∧ (∀ x, T.a = some x → Q ≠ [] → v.ownBlock = some x.block) := by
    rcases id h.own.2 with ⟨hv, h0⟩ | ⟨g, cap, cur, hv, hBg, _⟩
    · have hQ : Q = [] := List.eq_nil_of_length_eq_zero h0
      subst hQ
      exact ⟨⟨none, 0, []⟩, hv, rfl, ⟨by simp [tv], by decide, .inl rfl⟩, fun x hx => by cases hx⟩
    · subst hv
      refine ⟨⟨some ⟨g, 0, none⟩, cap, Q⟩, rfl, rfl, ?_, fun x hx _ => by cases hx; rfl⟩
      obtain ⟨q1, q2, q3⟩ := row_of_owns h.own
      refine ⟨q1, q2, ?_⟩
      rcases q3 with q3 | ⟨b', o, e0, hb', hc⟩
      · exact .inl q3
      · simp only [Option.some.injEq, Addr.mk.injEq] at e0
        obtain ⟨rfl, rfl, _⟩ := e0
        exact .inr ⟨_, _, rfl, hBg, hb', hb', hc⟩
  obtain ⟨T, hv, hR, hrow, hblk⟩ := hsp
  refine ⟨T, hv, hR, ⟨by rw [hR]; exact h.lots, fun r hr x y h1 h2 e1 e2 he => ?_⟩, ⟨by rw [hR]; exact hrow, fun r hr => by rw [hR] at hr; exact h.ins r hr⟩⟩
  rw [hR] at hr h2
  have := hblk y e2 h2
  exact h.off r hr h1 x e1 (by rw [this, he])

/-- A table and a list that lies behind it are a Field's memory. -/
theorem fld_own {e : TypeId} {lo mid hi : Nat} {w : World} {T : Tab} {t : Row} (hTi : T.In lo mid w) (hTo : T.Own e w) (hti : t.In mid hi w) (hto : t.Own e w) : Fld.Own e w ⟨t, T⟩ := by
  have hap : ∀ r ∈ T.R, t.Apart r := fun r hr x y h1 h2 e1 e2 => by
    obtain ⟨_, _, q3⟩ := hTi.2 r hr
    obtain ⟨_, _, p3⟩ := hti
    rcases q3 with q3 | ⟨b', o', e', _, hhi, _, _⟩
    · exact absurd (iv_nil q3) h2
    rcases p3 with p3 | ⟨b, o, e0, hlo, _, _, _⟩
    · exact absurd (iv_nil p3) h1
    rw [e2] at e'; rw [e1] at e0
    simp only [Option.some.injEq] at e' e0
    subst e' e0
    simp only; omega
  have hoff : ∀ x y, t.l ≠ [] → T.R ≠ [] → t.a = some x → T.a = some y → x.block ≠ y.block := fun x y h1 h2 e1 e2 => by
    obtain ⟨_, _, q3⟩ := hTi.1
    obtain ⟨_, _, p3⟩ := hti
    rcases q3 with q3 | ⟨b', o', e', _, hhi, _, _⟩
    · exact absurd (List.eq_nil_of_length_eq_zero (by rw [← tv_length, q3]; rfl)) h2
    rcases p3 with p3 | ⟨b, o, e0, hlo, _, _, _⟩
    · exact absurd (iv_nil p3) h1
    rw [e2] at e'; rw [e1] at e0
    simp only [Option.some.injEq] at e' e0
    subst e' e0
    simp only; omega
  refine ⟨⟨fun r hr => ?_, List.pairwise_cons.2 ⟨hap, hTo.1.2⟩⟩, fun r hr => ?_⟩
  · rcases List.mem_cons.1 hr with hr | hr
    · subst hr; exact hto
    · exact hTo.1.1 r hr
  · rcases List.mem_cons.1 hr with hr | hr
    · subst hr; exact hoff
    · exact hTo.2 r hr

set_option maxRecDepth 8000 in
set_option maxHeartbeats 1000000 in
theorem unitSystem_any (z : Int) (a : Option Addr) (m c : Nat) (w : World) (hm : m ≤ 8) :
    Calls Try.prog 57 #[.int .i64 z, .slice a m c] w fun e w' => ∃ t : Row, e = .returned (.agg #[.int .i64 z, .slice a m c, .slice t.a t.l.length t.c]) ∧ t.l = List.replicate m 1 ∧ t.Own 3 w' ∧ t.In (w.heap.size + 2) w'.heap.size w' ∧ Below w.heap.size w w' := by
  obtain ⟨wB, hB⟩ : ∃ u, u = (w.alloc (Obj.cells #[.int .i64 0, .slice none 0 0, .slice none 0 0] 29)).alloc (.cells #[.int .i64 1] 3) := ⟨_, rfl⟩
  have hb : Below w.heap.size w wB := by rw [hB]; exact ((Below.refl _ _).alloc (Nat.le_refl _) _).alloc (by rw [size_alloc]; omega) _
  have hsz : wB.heap.size = w.heap.size + 2 := by rw [hB, size_alloc, size_alloc]
  have bx : Box3 wB w.heap.size (.int .i64 0) (.slice none 0 0) (.slice none 0 0) 29 := by rw [hB]; exact (Box3.made w _ _ _ _).later _
  have hrow : wB.ownsRow (w.heap.size + 1) 3 1 (.slice (some ⟨w.heap.size + 1, 0, none⟩) 1 1) ([1] : List Int).length (iv [1]) := by
    rw [hB]
    have h : ((w.alloc (Obj.cells #[.int .i64 0, .slice none 0 0, .slice none 0 0] 29)).alloc (.cells #[.int .i64 1] 3)).ownsRow (w.alloc (Obj.cells #[.int .i64 0, .slice none 0 0, .slice none 0 0] 29)).heap.size 3 1 (.slice (some ⟨(w.alloc (Obj.cells #[.int .i64 0, .slice none 0 0, .slice none 0 0] 29)).heap.size, 0, none⟩) 1 1) ([1] : List Int).length (iv [1]) := World.ownsRow_lit (w.alloc (Obj.cells #[.int .i64 0, .slice none 0 0, .slice none 0 0] 29)) #[.int .i64 1] 1 (Nat.le_refl _) (by decide) rfl
    rw [size_alloc] at h
    exact h
  have hra := row_of_owns hrow
  have CR := Lib.hid (repeatOne_any ⟨some ⟨w.heap.size + 1, 0, none⟩, 1, [1]⟩ m wB hra rfl hm)
  have HB := Lib.hid hB
  have HBX := Lib.hid bx
  have hmi : (m : Int) ≤ 8 := by omega
  clear hB bx hrow hra
  go_enter Try.func57, Try.ntmps57
  go_wp2_with fail
  rw [← HB.out]
  refine (show Calls _ _ _ _ _ from CR.out).mono ?_
  rintro e w2 ⟨t, rfl, htl, hto, hti, hb2⟩
  have bx2 := HBX.out.on hb2
  have y0 := bx2.c0
  have y1 := bx2.c1
  have y2 := bx2.c2
  have f0 := bx2.fr 0
  have f1 := bx2.fr 1
  have f2 := bx2.fr 2
  have HX := Lib.hid bx2
  have HTL := Lib.hid htl
  have HTO := Lib.hid hto
  have HTI := Lib.hid hti
  have HB2 := Lib.hid hb2
  clear bx2 htl hto hti hb2
  go_wp2
  obtain ⟨wF, hF⟩ : ∃ wF, wF = ((w2.setCell ⟨w.heap.size, 0, none⟩ (.int .i64 z)).setCell ⟨w.heap.size, 1, none⟩ (.slice a m c)).setCell ⟨w.heap.size, 2, none⟩ (.slice t.a t.l.length t.c) := ⟨_, rfl⟩
  rw [← hF]
  have bF : Box3 wF w.heap.size (.int .i64 z) (.slice a m c) (.slice t.a t.l.length t.c) 29 := by rw [hF]; exact ((HX.out.set0 _).set1 _).set2 _
  have tF : Touch w.heap.size (w.heap.size + 1) w2 wF := by
    rw [hF]
    exact (((Touch.refl _ _ w2).set (by omega) (by omega) _ _).set (by omega) (by omega) _ _).set (by omega) (by omega) _ _
  have r0 := bF.c0
  have r1 := bF.c1
  have r2 := bF.c2
  have hs2 := HB2.out.size
  clear y0 y1 y2 f0 f1 f2 hF
  refine bodyPost_ret (v := .agg #[.int .i64 z, .slice a m c, .slice t.a t.l.length t.c]) (by simp [results, Try.results57, go_sem, r0, r1, r2]) rfl ?_
  have hti : t.In (w.heap.size + 2) w2.heap.size w2 := HTI.out.wide (by omega) (Nat.le_refl _)
  exact ⟨t, rfl, HTL.out, HTO.out.touch hti tF (.inr (by omega)), (hti.touch tF (.inr (by omega))).wide (Nat.le_refl _) tF.size, (hb.trans (HB2.out.mono (by omega))).trans (tF.below (Nat.le_refl _) (by omega))⟩

end Go.Proofs.Ytbngmjmcmdfphaa

namespace Go.Proofs.Ytbngmjmcmdfphaa
open Go.RowKit Go.Shelf

/-- A System of these numbers. -/
def mkSys (n : Int) (o : List Int) (d : List (List Int)) : Sys := ⟨n, ⟨⟨none, 0, o⟩, ⟨none, 0, d.map fun l => ⟨none, 0, l⟩⟩⟩⟩
theorem mkSys_con (n : Int) (o : List Int) (d : List (List Int)) : (mkSys n o d).f.t.con = d := by
  unfold mkSys Tab.con
  simp only [List.map_map]
  exact List.map_id' d
/-- The turned System. -/
def turnS (S : Sys) : Sys := mkSys S.f.t.con.length (List.replicate S.n.toNat 1) (turnD S.n.toNat S.f.t.con)
def ansT (S : Sys) : Sys := if S.good then turnS S else mkSys 0 [] []
theorem ansT_like {S U : Sys} (hl : U.Like S) : ansT U = ansT S := by unfold ansT turnS; rw [hl.good, hl.1, hl.2.2]

theorem sys_end {W w' : World} {lo : Nat} {K : Sys} {b : Bool} {z : Int} {T : Tab} {t : Row} {mid : Nat} (hz : z = K.n) (hd : T.con = K.f.t.con) (ho : t.l = K.f.o.l) (hTi : T.In lo mid w') (hTo : T.Own 3 w') (hti : t.In mid w'.heap.size w') (hto : t.Own 3 w') (hlo : W.heap.size ≤ lo) (hm : lo ≤ mid) (hm2 : mid ≤ w'.heap.size) (hb : Below W.heap.size W w') :
    PSys K b W (.returned (.tuple #[.agg #[.int .i64 z, .slice T.a T.R.length T.c, .slice t.a t.l.length t.c], .bool b])) w' :=
  ⟨⟨z, ⟨t, T⟩⟩, rfl, ⟨hz, ho, hd⟩, fld_own hTi hTo hti hto, ⟨hti.wide (by omega) (Nat.le_refl _), hTi.wide hlo hm2⟩, hb⟩

set_option maxRecDepth 16000 in
set_option maxHeartbeats 2000000 in
theorem implTurnSystem_any (S : Sys) (w : World) (hS : S.At w) :
    Calls Try.prog 37 #[.agg #[.int .i64 S.n, .slice S.f.t.a S.f.t.R.length S.f.t.c, .slice S.f.o.a S.f.o.l.length S.f.o.c]] w (PSys (ansT S) S.good w) := by
  obtain ⟨j0, hj, hj0, hj1, hj2⟩ := info_parts infoInts
  obtain ⟨wA, hA, hb, bx, hSA, hszA⟩ := laid_sys S w 29 hS
  obtain ⟨wB, hB⟩ : ∃ u, u = wA.alloc (Obj.cells #[.int .i64 0, .slice none 0 0, .slice none 0 0] 29) := ⟨_, rfl⟩
  have hbB : Below wA.heap.size wA wB := by rw [hB]; exact below_alloc _ _
  have hszB : wB.heap.size = w.heap.size + 2 := by rw [hB, size_alloc, hszA]
  have bx1 := bx.on hbB
  have by1 : Box3 wB (w.heap.size + 1) (.int .i64 0) (.slice none 0 0) (.slice none 0 0) 29 := by rw [hB, ← hszA]; exact Box3.made _ _ _ _ _
  have hbw := hb.trans (hbB.mono hb.size)
  have hSB : S.f.At wB := hSA.on hbB
  have HSB := Lib.hid hSB
  have HBX := Lib.hid bx1
  have HBY := Lib.hid by1
  have HB : Hid (wB = (w.alloc (Obj.cells #[.int .i64 S.n, .slice S.f.t.a S.f.t.R.length S.f.t.c, .slice S.f.o.a S.f.o.l.length S.f.o.c] 29)).alloc (Obj.cells #[.int .i64 0, .slice none 0 0, .slice none 0 0] 29)) := Lib.hid (by rw [hB, hA])
  have x0 := bx1.c0
  have x1 := bx1.c1
  have x2 := bx1.c2
  rw [HB.out] at x0 x1 x2
  obtain ⟨v, hv⟩ : ∃ v, v = S.good := ⟨_, rfl⟩
  have CG := implIsSystem_any S wB hSB
  rw [← hv] at CG ⊢
  have CG1 := Lib.hid CG
  have HV := Lib.hid hv
  clear hS hA bx hSA hB hbB bx1 by1 hSB CG hv hszA hb
  go_enter Try.func37, Try.ntmps37
  go_wp2_with fail
  rw [← HB.out]
  refine (show Calls _ _ _ _ _ from CG1.out).mono ?_
  rintro e W1 ⟨rfl, hb1⟩
  have hbw1 := hbw.trans (hb1.mono hbw.size)
  have hs1 := hb1.size
  have by1 := HBY.out.on hb1
  have y0 := by1.c0
  have y1 := by1.c1
  have y2 := by1.c2
  have f0 := by1.fr 0
  have f1 := by1.fr 1
  have f2 := by1.fr 2
  have HY1 := Lib.hid by1
  have HB1 := Lib.hid hb1
  clear x0 x1 x2 by1 hb1
  cases v with
  | false =>
    go_wp2
    obtain ⟨wF, hF⟩ : ∃ wF, wF = ((W1.setCell ⟨w.heap.size + 1, 0, none⟩ (.int .i64 0)).setCell ⟨w.heap.size + 1, 1, none⟩ (.slice none 0 0)).setCell ⟨w.heap.size + 1, 2, none⟩ (.slice none 0 0) := ⟨_, rfl⟩
    rw [← hF]
    have bF : Box3 wF (w.heap.size + 1) (.int .i64 0) (.slice none 0 0) (.slice none 0 0) 29 := by rw [hF]; exact ((HY1.out.set0 _).set1 _).set2 _
    have tF : Touch (w.heap.size + 1) (w.heap.size + 2) W1 wF := by
      rw [hF]
      exact (((Touch.refl _ _ W1).set (by omega) (by omega) _ _).set (by omega) (by omega) _ _).set (by omega) (by omega) _ _
    have r0 := bF.c0
    have r1 := bF.c1
    have r2 := bF.c2
    have hsF := tF.size
    clear y0 y1 y2 f0 f1 f2 hF
    refine bodyPost_ret (v := .tuple #[.agg #[.int .i64 0, .slice none 0 0, .slice none 0 0], .bool false]) (by simp [results, Try.results37, go_sem, r0, r1, r2]) rfl ?_
    have hK : ansT S = mkSys 0 [] [] := by unfold ansT; rw [← HV.out]; rfl
    rw [hK]
    have hbf := hbw1.trans (tF.below (by omega) (by omega))
    exact sys_end (T := ⟨none, 0, []⟩) (t := ⟨none, 0, []⟩) (lo := w.heap.size) (mid := w.heap.size) rfl rfl rfl ⟨⟨by simp [tv], by decide, .inl rfl⟩, by simp⟩ ⟨⟨by simp, List.Pairwise.nil⟩, by intro r hr; simp at hr⟩ ⟨by simp [iv], by decide, .inl rfl⟩ (.inl rfl) (Nat.le_refl _) (Nat.le_refl _) hbf.size hbf
  | true =>
    obtain ⟨n, hn, hn8, hm8, hom, hcost, hset⟩ := good_n HV.out.symm
    have h8 := good_row8 HV.out.symm
    have hcl := con_length S.f.t
    have hmi : (S.f.t.R.length : Int) ≤ 8 := by omega
    have hni : (n : Int) ≤ 8 := by omega
    have HK : Hid (ansT S = mkSys (S.f.t.R.length : Int) (List.replicate n 1) (turnD n S.f.t.con)) := Lib.hid (by unfold ansT turnS; rw [← HV.out, hn, Int.toNat_natCast, hcl]; rfl)
    have bx1 := HBX.out.on HB1.out
    have z0 := (bx1.on (below_alloc W1 (.cells #[] 23))).c0
    rw [hn] at z0
    have HSN := Lib.hid hn
    have H8 := Lib.hid h8
    have hgr0 := tab_empty W1
    have hbe := below_alloc W1 (.cells #[] 23)
    have HG0 := Lib.hid hgr0
    have HB0 := Lib.hid hbe
    have CW := Lib.hid fun (x : Int) (u : World) (hu : Below W1.heap.size W1 u) => setsWith_any S x u ((show Sys.At wB S from HSB.out).on (HB1.out.trans (hu.mono hs1))) h8 (by omega)
    have hm8' : S.f.t.R.length ≤ 8 := by omega
    clear y0 y1 y2 f0 f1 f2 hn hm8 hom hcost hset h8 hcl bx1 hgr0 hbe
    go_wp2
    go_loopw [4, 5, 13] (fun sv _ iv_ wr => ∃ (k : Nat) (Q : List Row), k ≤ n ∧ iv_ = .int .i64 k ∧ Q.length = k ∧ Q.map Row.l = (turnD n S.f.t.con).take k ∧ Grows W1.heap.size wr sv Q ∧ Below W1.heap.size W1 wr) (fun _ _ iv_ _ => n - (intOf iv_).toNat)
    case atStart => exact ⟨0, [], Nat.zero_le _, rfl, rfl, rfl, HG0.out, HB0.out⟩
    case round =>
      obtain ⟨k, Q, hk, rfl, hQl, hQm, hgr, hnx⟩ := hrel
      have HNX := Lib.hid hnx
      have hszr := hnx.size
      have HGR := Lib.hid hgr
      have HQL := Lib.hid hQl
      have HQM := Lib.hid hQm
      have HBR : Hid (Below wB.heap.size wB wr) := Lib.hid (HB1.out.trans (hnx.mono hs1))
      by_cases hlt : k < n
      · have hlti : (k : Int) < (n : Int) := by omega
        have bxr := HBX.out.on HBR.out
        have z0 := bxr.c0
        have z1 := bxr.c1
        have z2 := bxr.c2
        have CC := Lib.hid (CW.out (k : Int) wr hnx)
        have HQ : Hid (Q.map Row.l ++ [withEl S.f.t.con (k : Int)] = (turnD n S.f.t.con).take (k + 1)) := Lib.hid (by
          rw [hQm, List.take_succ_eq_append_getElem (by rw [turnD_len]; exact hlt), turnD_get n _ hlt])
        clear hgr hnx hQl hQm bxr
        go_wp2_with fail
        refine (show Calls _ _ _ _ _ from CC.out).mono ?_
        rintro e W2 ⟨t, rfl, htl, hto, hti, hb2⟩
        have hfr := HGR.out.fresh hti
        have HAP := Lib.hid hfr.1
        have HOF := Lib.hid hfr.2
        have hG2 := HGR.out.on hb2
        have hown := hG2.own
        rw [HQL.out] at hown
        have HG2 := Lib.hid hG2
        have HTO := Lib.hid hto
        have HTI := Lib.hid (show t.In W1.heap.size W2.heap.size W2 from hti.wide (by omega) (Nat.le_refl _))
        have HTL := Lib.hid htl
        have HN2 := Lib.hid (HNX.out.trans (hb2.mono hszr))
        have hs2 := hb2.size
        clear hfr hG2 hto hti htl hb2 z0 z1 z2
        go_wp2_with (at_builtin; refine wpList_append_own_at _ rfl _ _ 22 rfl W1.heap.size 23 j0 (.slice none 0 0) 1 24 Try.underlying22 hj hj0 hj1 hj2 rfl (by decide) _ _ _ rfl (hown.alloc _) ⟨W2.heap.size, 0, none⟩ 1 1 [.slice t.a t.l.length t.c] rfl rfl (one_cell _ _ _) (by simp [Value.oneCell']) (by unfold maxLen; omega) (by omega) (by simp; omega) ?_; intro v' w1 hown' hgrow _ hloc)
        have hba := below_alloc W2 (.cells #[.slice t.a t.l.length t.c] 23)
        have R1 := Lib.hid ((HG2.out.on hba).append (HTO.out.on hba) ((HTI.out.on hba).wide (Nat.le_refl _) hba.size) HAP.out HOF.out (by rw [HQL.out]; exact hown') hgrow (hloc.imp id fun h => ⟨_, h, Nat.le_refl _⟩))
        have R2 := Lib.hid ((HN2.out.alloc (by omega) _).grown hgrow (by simp; omega) (fun j hj => (hown.lt j hj).1))
        clear hown' hgrow hown hloc hba
        go_wp2
        go_roundw
        case rel => exact ⟨k + 1, Q ++ [t], by omega, by go_num, by rw [List.length_append, HQL.out]; rfl, by rw [List.map_append, ← HQ.out, ← HTL.out]; rfl, R1.out, R2.out⟩
        case measure => simp [intOf]; omega
      · obtain rfl : k = n := by omega
        obtain ⟨T, hTv, hTR, hTo, hTi⟩ := hgr.tab
        have hTl : T.R.length = k := by rw [hTR, hQl]
        have hTc : T.con = turnD k S.f.t.con := by
          show T.R.map Row.l = _
          rw [hTR, hQm, List.take_of_length_le (by rw [turnD_len]; exact Nat.le_refl _)]
        rw [hTv, hTl]
        have bxr := HBX.out.on HBR.out
        have z1 := bxr.c1
        have CU := Lib.hid (unitSystem_any (S.f.t.R.length : Int) T.a k T.c wr hn8)
        have HTO := Lib.hid hTo
        have HTI := Lib.hid hTi
        have HTC := Lib.hid hTc
        have HTL := Lib.hid hTl
        clear hgr hnx hQl hQm bxr hTo hTi hTc hTl hTR hTv
        go_wp2_with fail
        refine (show Calls _ _ _ _ _ from CU.out).mono ?_
        rintro e W3 ⟨t, rfl, htl, hto, hti, hb3⟩
        have HB3 : Hid (Below wB.heap.size wB W3) := Lib.hid (HBR.out.trans (hb3.mono HBR.out.size))
        have byr := HBY.out.on HB3.out
        have y0 := byr.c0
        have y1 := byr.c1
        have y2 := byr.c2
        have f0 := byr.fr 0
        have f1 := byr.fr 1
        have f2 := byr.fr 2
        have HY3 := Lib.hid byr
        have HTI3 := Lib.hid (HTI.out.on hb3)
        have HTO3 := Lib.hid (HTO.out.on hb3)
        have Hti := Lib.hid (show t.In wr.heap.size W3.heap.size W3 from hti.wide (by omega) (Nat.le_refl _))
        have Hto := Lib.hid hto
        have Htl := Lib.hid htl
        have hs3 := hb3.size
        have HBW3 := Lib.hid (hbw.trans (HB3.out.mono hbw.size))
        clear byr hti hto htl hb3 z1
        go_wp2
        obtain ⟨wF, hF⟩ : ∃ wF, wF = ((W3.setCell ⟨w.heap.size + 1, 0, none⟩ (.int .i64 (S.f.t.R.length : Int))).setCell ⟨w.heap.size + 1, 1, none⟩ (.slice T.a k T.c)).setCell ⟨w.heap.size + 1, 2, none⟩ (.slice t.a t.l.length t.c) := ⟨_, rfl⟩
        rw [← hF]
        have bF : Box3 wF (w.heap.size + 1) (.int .i64 (S.f.t.R.length : Int)) (.slice T.a k T.c) (.slice t.a t.l.length t.c) 29 := by rw [hF]; exact ((HY3.out.set0 _).set1 _).set2 _
        have tF : Touch (w.heap.size + 1) (w.heap.size + 2) W3 wF := by
          rw [hF]
          exact (((Touch.refl _ _ W3).set (by omega) (by omega) _ _).set (by omega) (by omega) _ _).set (by omega) (by omega) _ _
        have r0 := bF.c0
        have r1 := bF.c1
        have r2 := bF.c2
        have hsF := tF.size
        clear y0 y1 y2 f0 f1 f2 hF
        refine bodyPost_ret (v := .tuple #[.agg #[.int .i64 (S.f.t.R.length : Int), .slice T.a k T.c, .slice t.a t.l.length t.c], .bool true]) (by simp [results, Try.results37, go_sem, r0, r1, r2]) rfl ?_
        have hbf := HBW3.out.trans (tF.below (by omega) (by omega))
        rw [← HTL.out]
        exact sys_end (lo := W1.heap.size) (mid := wr.heap.size) (by rw [HK.out]; rfl) (by rw [HTC.out, HK.out, mkSys_con]) (by rw [Htl.out, HK.out]; rfl) (HTI3.out.touch tF (.inr (by omega))) (HTO3.out.touch HTI3.out tF (.inr (by omega))) ((Hti.out.touch tF (.inr (by omega))).wide (Nat.le_refl _) hsF) (Hto.out.touch Hti.out tF (.inr (by omega))) (by omega) hszr (by omega) hbf

end Go.Proofs.Ytbngmjmcmdfphaa

namespace Go.Proofs.Ytbngmjmcmdfphaa
open Go.RowKit Go.Shelf

def newE (cov l : List Int) : List Int := l.filter fun x => !cov.contains x
theorem newE_step {cov l : List Int} {k : Nat} (h : k < l.length) : newE cov (l.take (k + 1)) = if cov.contains l[k] then newE cov (l.take k) else newE cov (l.take k) ++ [l[k]] := by
  unfold newE
  rw [List.take_succ_eq_append_getElem h, List.filter_append]
  by_cases hc : cov.contains l[k] = true
  · rw [if_pos hc]; simpa using hc
  · rw [if_neg hc]; simpa using hc
theorem newE_le (cov l : List Int) : (newE cov l).length ≤ l.length := List.length_filter_le _ _

set_option maxHeartbeats 1000000 in
theorem l6New_any (r c : Row) (w : World) (hr : r.At w) (hc : c.At w) (hs : r.l.length ≤ 1048576) :
    Calls Try.prog 59 #[.slice r.a r.l.length r.c, .slice c.a c.l.length c.c] w fun e w' => e = .returned (.int .i64 ((newE c.l r.l).length : Int)) ∧ w' = w := by
  have hni : (r.l.length : Int) ≤ 1048576 := by omega
  have HR := Lib.hid hr
  have CH := Lib.hid fun x => l1Has_any c x w hc
  have HB : Hid (∀ k, (newE c.l (r.l.take k)).length ≤ k) := Lib.hid fun k => by
    have := newE_le c.l (r.l.take k)
    rw [List.length_take] at this; omega
  have HST : Hid (∀ k, (h : k < r.l.length) → (newE c.l (r.l.take (k + 1))).length = if c.l.contains r.l[k] then (newE c.l (r.l.take k)).length else (newE c.l (r.l.take k)).length + 1) := Lib.hid fun k h => by
    rw [newE_step h]; split <;> simp
  have HF : Hid (newE c.l (r.l.take r.l.length) = newE c.l r.l) := Lib.hid (by rw [List.take_length])
  clear hr hc hs
  go_enter Try.func59, Try.ntmps59
  go_wp2
  go_loopw [5, 6] (fun cv i wr => ∃ k : Nat, k ≤ r.l.length ∧ i = .int .i64 k ∧ cv = .int .i64 ((newE c.l (r.l.take k)).length : Int) ∧ w = wr) (fun _ i _ => r.l.length - (intOf i).toNat)
  case atStart => exact ⟨0, Nat.zero_le _, rfl, by simp [newE], rfl⟩
  case round =>
    obtain ⟨k, hk, rfl, rfl, rfl⟩ := hrel
    by_cases hlt : k < r.l.length
    · have hlti : (k : Int) < (r.l.length : Int) := by omega
      obtain ⟨b, o, ha, hcl⟩ : ∃ b o, r.a = some ⟨b, o, none⟩ ∧ w.cell? ⟨b, o + k, none⟩ = some (.int .i64 r.l[k]) := by
        rcases HR.out.2.2 with h3 | ⟨b, o, h5, _, hc5⟩
        · have := congrArg List.length (iv_nil h3); rw [List.length_nil] at this; omega
        · exact ⟨b, o, h5, hc5 k _ (iv_at hlt)⟩
      have hst := HST.out k hlt
      have hbk := HB.out k
      obtain ⟨x, hx⟩ : ∃ x, x = r.l[k] := ⟨_, rfl⟩
      obtain ⟨q, hq⟩ : ∃ q, q = (newE c.l (r.l.take k)).length := ⟨_, rfl⟩
      rw [← hx] at hcl hst
      rw [← hq] at hst hbk ⊢
      obtain ⟨v, hv⟩ : ∃ v, v = c.l.contains x := ⟨_, rfl⟩
      have C1 := Lib.hid (by have := CH.out x; rw [show hasI c.l x = v from hv.symm] at this; exact this)
      rw [← hv] at hst
      have HS := Lib.hid hst
      have hqi : (q : Int) ≤ 1048576 := by omega
      rw [ha]
      clear hst hx hq hv ha
      go_wp2_with fail
      refine (show Calls _ _ _ _ _ from C1.out).mono ?_
      rintro e W ⟨rfl, rfl⟩
      cases v with
      | true =>
        have HE : Hid ((newE c.l (r.l.take (k + 1))).length = q) := Lib.hid (by rw [HS.out]; rfl)
        go_wp2
        go_roundw
        case rel => exact ⟨k + 1, by omega, by go_num, by rw [HE.out], by first | rfl | trivial⟩
        case measure => simp [intOf]; omega
      | false =>
        have HE : Hid ((newE c.l (r.l.take (k + 1))).length = q + 1) := Lib.hid (by rw [HS.out]; rfl)
        go_wp2
        go_roundw
        case rel => exact ⟨k + 1, by omega, by go_num, by rw [HE.out]; first | done | (push_cast; rfl) | go_num, by first | rfl | trivial⟩
        case measure => simp [intOf]; omega
    · obtain rfl : k = r.l.length := by omega
      rw [HF.out]
      go_wp2
      go_ret
      exact ⟨rfl, rfl⟩

end Go.Proofs.Ytbngmjmcmdfphaa

namespace Go.Proofs.Ytbngmjmcmdfphaa

/-- Each set has one of these elements. -/
def hitsB (d : List (List Int)) (E : List Int) : Bool := d.all fun l => l.any fun x => E.contains x
theorem newE_all {cov l : List Int} : (newE cov l).length = l.length ↔ l.any (fun x => cov.contains x) = false := by
  unfold newE
  rw [List.length_filter_eq_length_iff, List.any_eq_false]
  simp
theorem nums_rise (m : Nat) : ((List.range m).map fun (i : Nat) => (i : Int)).Pairwise (· < ·) := by
  rw [List.pairwise_map]
  exact List.pairwise_lt_range.imp (fun h => by omega)
/-- A rising list of numbers below m has m of them exactly if it has all. -/
theorem full_iff {l : List Int} {m : Nat} (hr : l.Pairwise (· < ·)) (hb : ∀ x ∈ l, 0 ≤ x ∧ x < m) : l.length = m ↔ ∀ i : Nat, i < m → (i : Int) ∈ l := by
  have he : l = ((List.range m).map fun (i : Nat) => (i : Int)).filter (fun x => l.contains x) := by
    refine rises_same _ _ hr ((nums_rise m).filter _) fun x => ?_
    rw [List.mem_filter, List.mem_map]
    constructor
    · intro hx
      have := hb x hx
      exact ⟨⟨x.toNat, List.mem_range.2 (by omega), by omega⟩, List.contains_iff_mem.2 hx⟩
    · rintro ⟨_, hx⟩
      exact List.contains_iff_mem.1 hx
  have hl : ((List.range m).map fun (i : Nat) => (i : Int)).length = m := by simp
  rw [show (l.length = m) = ((((List.range m).map fun (i : Nat) => (i : Int)).filter (fun x => l.contains x)).length = ((List.range m).map fun (i : Nat) => (i : Int)).length) by rw [hl, ← he]]
  rw [List.length_filter_eq_length_iff]
  constructor
  · intro h i hi
    exact List.contains_iff_mem.1 (h _ (List.mem_map.2 ⟨i, List.mem_range.2 hi, rfl⟩))
  · intro h x hx
    obtain ⟨i, hi, rfl⟩ := List.mem_map.1 hx
    exact List.contains_iff_mem.2 (h i (List.mem_range.1 hi))
theorem flatS_mem {d : List (List Int)} {T : List Nat} {x : Int} : x ∈ flatS d T ↔ ∃ m ∈ T, x ∈ d.getD m [] := by
  unfold flatS
  rw [List.mem_flatten]
  constructor
  · rintro ⟨l, hl, hx⟩
    obtain ⟨m, hm, rfl⟩ := List.mem_map.1 hl
    exact ⟨m, hm, hx⟩
  · rintro ⟨m, hm, hx⟩
    exact ⟨_, List.mem_map.2 ⟨m, hm, rfl⟩, hx⟩
theorem turnD_getD (n : Nat) (d : List (List Int)) {k : Nat} (h : k < n) : (turnD n d).getD k [] = withEl d (k : Int) := by
  rw [List.getD_eq_getElem?_getD, List.getElem?_eq_getElem (by rw [turnD_len]; exact h), Option.getD_some, turnD_get n d h]
theorem hits_cover (d : List (List Int)) (n : Nat) (T : List Nat) (hT : ∀ k ∈ T, k < n) : (((elsT (turnD n d) T).length : Int) == (d.length : Int)) = hitsB d (up T) := by
  have hmem : ∀ x : Int, x ∈ elsT (turnD n d) T ↔ ∃ k ∈ T, ∃ i : Nat, x = i ∧ i < d.length ∧ (d.getD i []).contains (k : Int) = true := fun x => by
    unfold elsT
    rw [putAll_mem, flatS_mem]
    constructor
    · rintro ⟨k, hk, hx⟩
      rw [turnD_getD n d (hT k hk)] at hx
      obtain ⟨i, h1, h2, h3⟩ := (picks_mem _ _ _ _).1 hx
      exact ⟨k, hk, i, h1, h2, h3⟩
    · rintro ⟨k, hk, i, h1, h2, h3⟩
      refine ⟨k, hk, ?_⟩
      rw [turnD_getD n d (hT k hk)]
      exact (picks_mem _ _ _ _).2 ⟨i, h1, h2, h3⟩
  have hf := full_iff (l := elsT (turnD n d) T) (m := d.length) (putAll_rises _) (fun x hx => by
    obtain ⟨k, _, i, h1, h2, _⟩ := (hmem x).1 hx
    omega)
  rw [nat_eqB, Bool.eq_iff_iff, decide_eq_true_eq, hf]
  unfold hitsB
  rw [List.all_eq_true]
  constructor
  · intro h l hl
    obtain ⟨i, hi, rfl⟩ := List.mem_iff_getElem.1 hl
    obtain ⟨k, hk, j, h1, h2, h3⟩ := (hmem _).1 (h i hi)
    obtain rfl : i = j := by omega
    rw [List.getD_eq_getElem?_getD, List.getElem?_eq_getElem hi, Option.getD_some] at h3
    rw [List.any_eq_true]
    exact ⟨(k : Int), List.contains_iff_mem.1 h3, List.contains_iff_mem.2 (List.mem_map.2 ⟨k, hk, rfl⟩)⟩
  · intro h i hi
    obtain ⟨x, hx, hx2⟩ := List.any_eq_true.1 (h d[i] (List.getElem_mem hi))
    obtain ⟨k, hk, rfl⟩ := List.mem_map.1 (List.contains_iff_mem.1 hx2)
    refine (hmem _).2 ⟨k, hk, i, rfl, hi, ?_⟩
    rw [List.getD_eq_getElem?_getD, List.getElem?_eq_getElem hi, Option.getD_some]
    exact List.contains_iff_mem.2 hx

/-- The turned System of a valid one is valid. -/
theorem turnS_good {S : Sys} (h : S.good = true) : (turnS S).good = true := by
  obtain ⟨n, hn, hn8, hm8, _, _, _⟩ := good_n h
  have hnn : S.n.toNat = n := by omega
  unfold Sys.good turnS
  rw [mkSys_con, hnn]
  have h1 : (mkSys (S.f.t.con.length : Int) (List.replicate n 1) (turnD n S.f.t.con)).n = (S.f.t.con.length : Int) := rfl
  have h2 : (mkSys (S.f.t.con.length : Int) (List.replicate n 1) (turnD n S.f.t.con)).f.o.l = List.replicate n 1 := rfl
  rw [h1, h2]
  refine sysB_iff.2 ⟨by omega, by omega, by rw [turnD_len]; exact hn8, by rw [turnD_len, List.length_replicate], ?_, ?_⟩
  · rw [List.all_eq_true]
    intro x hx
    rw [(List.mem_replicate.1 hx).2]; decide
  · rw [List.all_eq_true, Int.toNat_natCast]
    intro l hl
    unfold turnD at hl
    obtain ⟨x, _, rfl⟩ := List.mem_map.1 hl
    exact picks_set _ _ _

end Go.Proofs.Ytbngmjmcmdfphaa

namespace Go.Proofs.Ytbngmjmcmdfphaa
open Go.RowKit

end Go.Proofs.Ytbngmjmcmdfphaa

namespace Go.Proofs.Ytbngmjmcmdfphaa
open Go.RowKit

theorem owns_touch {B p q n : Nat} {e : TypeId} {w w' : World} {v : Value} {xs : List Value} (h : w.ownsRow B e 1 v n xs) (t : Touch p q w w') (hn : ∀ g, v.ownBlock = some g → ¬ (p ≤ g ∧ g < q)) : w'.ownsRow B e 1 v n xs := by
  obtain ⟨h1, h2⟩ := id h
  refine ⟨h1, ?_⟩
  rcases h2 with h2 | ⟨g, cap, cur, rfl, hB, hg, r⟩
  · exact .inl h2
  · exact .inr ⟨g, cap, cur, rfl, hB, (t.block g (Array.getElem?_eq_some_iff.1 hg).1 (hn g rfl)).trans hg, r⟩
/-- A table that grows, a write into one block apart. -/
theorem Grows.touch {B R : Nat} {w w' : World} {v : Value} {Q : List Row} (h : Grows B w v Q) (t : Touch R (R + 1) w w') (hv : v.ownBlock ≠ some R) (hr : ∀ r ∈ Q, r.In (R + 1) w.heap.size w) : Grows B w' v Q :=
  ⟨owns_touch h.own t (fun g hg hn => hv (by rw [hg]; congr 1; omega)), ⟨fun r hq => (h.lots.1 r hq).touch (hr r hq) t (.inr (Nat.le_refl _)), h.lots.2⟩,
    fun r hq => by
      obtain ⟨a1, a2, a3⟩ := (hr r hq).touch t (.inr (Nat.le_refl _))
      obtain ⟨_, _, c3⟩ := h.ins r hq
      refine ⟨a1, a2, ?_⟩
      rcases a3 with a3 | ⟨b, o, e, hl, hh, hb, hc⟩
      · exact .inl a3
      · rcases c3 with c3 | ⟨b', o', e', hl', hh', hb', hc'⟩
        · exact .inl c3
        · rw [e] at e'
          simp only [Option.some.injEq, Addr.mk.injEq] at e'
          obtain ⟨rfl, rfl, _⟩ := e'
          exact .inr ⟨b, o, e, hl', Nat.lt_of_lt_of_le hh' t.size, hb, hc⟩, h.off⟩

theorem Row.In.mix {r : Row} {lo hi lo' hi' : Nat} {w w' : World} (h : r.In lo hi w) (h' : r.In lo' hi' w') : r.In lo hi' w' := by
  obtain ⟨_, _, a3⟩ := h
  obtain ⟨c1, c2, c3⟩ := h'
  refine ⟨c1, c2, ?_⟩
  rcases c3 with c3 | ⟨b, o, e, hl, hh, hb, hc⟩
  · exact .inl c3
  · rcases a3 with a3 | ⟨b', o', e', hl', _, _, _⟩
    · exact .inl a3
    · rw [e] at e'
      simp only [Option.some.injEq, Addr.mk.injEq] at e'
      obtain ⟨rfl, rfl, _⟩ := e'
      exact .inr ⟨b, o, e, hl', hh, hb, hc⟩
/-- The table that has grown, by its parts. -/
theorem tab_of {w' : World} {B : Nat} {v : Value} {Q : List Row} (h : Grows B w' v Q) : ∃ T : Tab, v = .slice T.a T.R.length T.c ∧ T.R = Q ∧ T.Own 3 w' ∧ T.In B w'.heap.size w' := by
  have hsp : ∃ T : Tab, v = .slice T.a T.R.length T.c ∧ T.R = Q ∧ RowIn B w'.heap.size w' T.a T.c (tv Q) ∧ (∀ x, T.a = some x → Q ≠ [] → v.ownBlock = some x.block) := by
    rcases id h.own.2 with ⟨hv, h0⟩ | ⟨g, cap, cur, hv, hBg, _⟩
    · have hQ : Q = [] := List.eq_nil_of_length_eq_zero h0
      subst hQ
      exact ⟨⟨none, 0, []⟩, hv, rfl, ⟨by simp [tv], by decide, .inl rfl⟩, fun x hx => by cases hx⟩
    · subst hv
      refine ⟨⟨some ⟨g, 0, none⟩, cap, Q⟩, rfl, rfl, ?_, fun x hx _ => by cases hx; rfl⟩
      obtain ⟨q1, q2, q3⟩ := row_of_owns h.own
      refine ⟨q1, q2, ?_⟩
      rcases q3 with q3 | ⟨b', o, e0, hb', hc⟩
      · exact .inl q3
      · simp only [Option.some.injEq, Addr.mk.injEq] at e0
        obtain ⟨rfl, rfl, _⟩ := e0
        exact .inr ⟨_, _, rfl, hBg, hb', hb', hc⟩
  obtain ⟨T, hv, hR, hrow, hblk⟩ := hsp
  refine ⟨T, hv, hR, ⟨by rw [hR]; exact h.lots, fun r hr x y h1 h2 e1 e2 he => ?_⟩, ⟨by rw [hR]; exact hrow, fun r hr => by rw [hR] at hr; exact h.ins r hr⟩⟩
  rw [hR] at hr h2
  have := hblk y e2 h2
  exact h.off r hr h1 x e1 (by rw [this, he])
/-- A row and a table of the call's own make a Field of its own. -/
theorem fld_join {w : World} {lo mid hi : Nat} {s : Row} {T : Tab} (hso : s.Own 3 w) (hsi : s.In lo mid w) (hTo : T.Own 3 w) (hTi : T.In mid hi w) (h1 : lo ≤ mid) (h2 : mid ≤ hi) : (Fld.mk s T).Own 3 w ∧ (Fld.mk s T).In lo hi w := by
  have hap : ∀ r ∈ T.R, s.Apart r := fun r hr x y h1 h2 e1 e2 => by
    obtain ⟨_, _, q3⟩ := hTi.2 r hr
    obtain ⟨_, _, p3⟩ := hsi
    rcases q3 with q3 | ⟨b', o', e', hlo, _, _, _⟩
    · exact absurd (iv_nil q3) h2
    rcases p3 with p3 | ⟨b, o, e0, _, hhi, _, _⟩
    · exact absurd (iv_nil p3) h1
    rw [e2] at e'; rw [e1] at e0
    simp only [Option.some.injEq] at e' e0
    subst e' e0
    simp only; omega
  refine ⟨⟨⟨fun r hr => ?_, List.pairwise_cons.2 ⟨hap, hTo.1.2⟩⟩, fun r hr x y h1 h2 e1 e2 => ?_⟩, ⟨hsi.wide (Nat.le_refl _) h2, hTi.wide h1 (Nat.le_refl _)⟩⟩
  · rcases List.mem_cons.1 hr with hr | hr
    · subst hr; exact hso
    · exact hTo.1.1 r hr
  · rcases List.mem_cons.1 hr with hr | hr
    · subst hr
      obtain ⟨_, _, q3⟩ := hTi.1
      obtain ⟨_, _, p3⟩ := hsi
      rcases q3 with q3 | ⟨b', o', e', hlo, _, _, _⟩
      · exact absurd (List.eq_nil_of_length_eq_zero (by rw [← tv_length, q3]; rfl)) h2
      rcases p3 with p3 | ⟨b, o, e0, _, hhi, _, _⟩
      · exact absurd (iv_nil p3) h1
      simp only at e2
      rw [e2] at e'; rw [e1] at e0
      simp only [Option.some.injEq] at e' e0
      subst e' e0
      simp only; omega
    · exact hTo.2 r hr x y h1 h2 e1 e2

end Go.Proofs.Ytbngmjmcmdfphaa

namespace Go.Proofs.Ytbngmjmcmdfphaa
open Go.RowKit Go.Shelf

/-- k sets and j costs of the sets D have been laid into the variable in block b + 2; nothing below b has been written. -/
structure Turn (b : Nat) (m : Int) (D : List (List Int)) (V : World) (k j : Nat) (Q : List Row) (vs vc : Value) (W : World) : Prop where
  len : Q.length = k
  con : Q.map Row.l = D.take k
  grows : Grows b W vs Q
  box : Box3 W (b + 2) (.int .i64 m) vs vc 29
  own : W.ownsRow b 3 1 vc j (iv (List.replicate j 1))
  ns : vs.ownBlock ≠ some (b + 2)
  nc : vc.ownBlock ≠ some (b + 2)
  sc : ∀ g, vs.ownBlock = some g → vc.ownBlock ≠ some g
  ins : ∀ r ∈ Q, r.In (b + 3) W.heap.size W
  off : ∀ r ∈ Q, r.l ≠ [] → ∀ x, r.a = some x → vc.ownBlock ≠ some x.block
  below : Below b V W
  base : b ≤ V.heap.size

theorem owns_keep {w w' : World} {B n : Nat} {e : TypeId} {v : Value} {xs : List Value} (h : w.ownsRow B e 1 v n xs) (hb : ∀ g, v.ownBlock = some g → g < w.heap.size → w'.heap[g]? = w.heap[g]?) : w'.ownsRow B e 1 v n xs := by
  obtain ⟨h1, h2⟩ := id h
  refine ⟨h1, ?_⟩
  rcases h2 with h2 | ⟨g, cap, cur, rfl, hB, hg, r⟩
  · exact .inl h2
  · exact .inr ⟨g, cap, cur, rfl, hB, (hb g rfl (Array.getElem?_eq_some_iff.1 hg).1).trans hg, r⟩
theorem Turn.size {b : Nat} {m : Int} {D : List (List Int)} {V W : World} {k j : Nat} {Q : List Row} {vs vc : Value} (h : Turn b m D V k j Q vs vc W) : b + 3 ≤ W.heap.size := h.box.lt
theorem Turn.on {b : Nat} {m : Int} {D : List (List Int)} {V W W' : World} {k j : Nat} {Q : List Row} {vs vc : Value} (h : Turn b m D V k j Q vs vc W) (t : Below W.heap.size W W') : Turn b m D V k j Q vs vc W' :=
  ⟨h.len, h.con, h.grows.on t, h.box.on t, owns_below h.own t, h.ns, h.nc, h.sc, fun r hr => ((h.ins r hr).on t).wide (Nat.le_refl _) t.size, h.off, h.below.trans (t.mono (by have := h.size; omega)), h.base⟩

theorem Turn.sets {b : Nat} {m : Int} {D : List (List Int)} {V W0 W w1 : World} {k j : Nat} {Q : List Row} {vs vc vs' : Value} {t : Row} {o : Obj} (h : Turn b m D V k j Q vs vc W0) (hb : Below W0.heap.size W0 W) (hk : k < D.length) (htl : t.l = D[k]) (hto : t.Own 3 W) (hti : t.In W0.heap.size W.heap.size W)
    (hown' : w1.ownsRow b 23 1 vs' (k + 1) (tv Q ++ [.slice t.a t.l.length t.c])) (hgrow : (W.alloc o).grownBy w1 vs.ownBlock) (hloc : vs'.ownBlock = vs.ownBlock ∨ vs'.ownBlock = some (W.alloc o).heap.size) :
    Turn b m D V (k + 1) j (Q ++ [t]) vs' vc (w1.setCell ⟨b + 2, 1, none⟩ vs') := by
  have hsz := h.size
  have hba := below_alloc W o
  have hW := hb.trans (hba.mono hb.size)
  have hs1 := hb.size
  have hs2 : (W.alloc o).heap.size = W.heap.size + 1 := size_alloc _ _
  have hfr := h.grows.fresh hti
  have hlen := h.len
  have hti3 : t.In (b + 3) W.heap.size W := hti.wide (by omega) (Nat.le_refl _)
  have R1 := ((h.grows.on hb).on hba).append (hto.on hba) (((hti3.wide (by omega) (Nat.le_refl _)).on hba).wide (Nat.le_refl _) hba.size) hfr.1 hfr.2 (by rw [hlen]; exact hown') hgrow (hloc.imp id fun h => ⟨_, h, Nat.le_refl _⟩)
  have hbx : Box3 w1 (b + 2) (.int .i64 m) vs vc 29 := (hgrow.block (b + 2) (by omega) (fun e => h.ns e.symm)).trans (h.box.on hW)
  have hns : vs'.ownBlock ≠ some (b + 2) := by
    rcases hloc with h1 | h1
    · rw [h1]; exact h.ns
    · rw [h1]; intro e; simp only [Option.some.injEq] at e; omega
  have hall : ∀ r ∈ Q ++ [t], r.In (b + 3) w1.heap.size w1 := fun r hr => by
    have h1 := R1.ins r hr
    rcases List.mem_append.1 hr with hr | hr
    · exact ((h.ins r hr).on hW).mix h1
    · rw [List.mem_singleton] at hr; subst hr; exact hti3.mix h1
  have hown1 : w1.ownsRow b 3 1 vc j (iv (List.replicate j 1)) := owns_keep (owns_below h.own hW) fun g hg hlt => hgrow.block g hlt fun e => h.sc g e.symm hg
  have hst := set_touch w1 (b + 2) 1 vs'
  refine ⟨by rw [List.length_append, hlen]; rfl, ?_, R1.touch hst hns hall, hbx.set1 vs', owns_keep hown1 fun g hg hlt => hst.block g hlt (fun e => h.nc (by rw [hg]; congr 1; omega)), hns, h.nc, ?_, fun r hr => ((hall r hr).touch hst (.inr (Nat.le_refl _))).wide (Nat.le_refl _) hst.size, ?_, ?_, h.base⟩
  · rw [List.map_append, h.con, List.take_succ_eq_append_getElem hk, ← htl]; rfl
  · intro g hg hc
    rcases hloc with h1 | h1
    · exact h.sc g (by rw [← h1]; exact hg) hc
    · rw [h1] at hg
      simp only [Option.some.injEq] at hg
      have := (h.own.lt g hc).2
      omega
  · intro r hr hl x hx hc
    rcases List.mem_append.1 hr with hr | hr
    · exact h.off r hr hl x hx hc
    · rw [List.mem_singleton] at hr; subst hr
      have h1 := (h.own.lt _ hc).2
      obtain ⟨_, _, h3⟩ := hti
      rcases h3 with h3 | ⟨b', o', e, hl', _, _, _⟩
      · exact hl (iv_nil h3)
      · rw [hx] at e
        simp only [Option.some.injEq] at e
        subst e
        simp only at h1; omega
  · exact ((h.below.trans (hW.mono (by omega))).grown hgrow (by omega) (fun g hg => ((h.grows.own.lt g hg)).1)).setCell (p := ⟨b + 2, 1, none⟩) (by show b ≤ b + 2; omega) vs'

theorem Turn.costs {b : Nat} {m : Int} {D : List (List Int)} {V W w1 : World} {k j : Nat} {Q : List Row} {vs vc vc' : Value} {o : Obj} (h : Turn b m D V k j Q vs vc W)
    (hown' : w1.ownsRow b 3 1 vc' (j + 1) (iv (List.replicate j 1) ++ [.int .i64 1])) (hgrow : (W.alloc o).grownBy w1 vc.ownBlock) (hloc : vc'.ownBlock = vc.ownBlock ∨ vc'.ownBlock = some (W.alloc o).heap.size) :
    Turn b m D V k (j + 1) Q vs vc' (w1.setCell ⟨b + 2, 2, none⟩ vc') := by
  have hsz := h.size
  have hW := below_alloc W o
  have hs2 : (W.alloc o).heap.size = W.heap.size + 1 := size_alloc _ _
  have hbx : Box3 w1 (b + 2) (.int .i64 m) vs vc 29 := (hgrow.block (b + 2) (by omega) (fun e => h.nc e.symm)).trans (h.box.on hW)
  have hnc : vc'.ownBlock ≠ some (b + 2) := by
    rcases hloc with h1 | h1
    · rw [h1]; exact h.nc
    · rw [h1]; intro e; simp only [Option.some.injEq] at e; omega
  have hgo := h.grows.on hW
  -- the sets lie apart from the costs
  have keepRow : ∀ r ∈ Q, r.In (b + 3) w1.heap.size w1 := fun r hr => by
    obtain ⟨a1, a2, a3⟩ := (h.ins r hr).on hW
    refine ⟨a1, a2, ?_⟩
    rcases a3 with a3 | ⟨b', o', e, hl, hh, hb', hc⟩
    · exact .inl a3
    · by_cases hx : r.l = []
      · exact .inl (by rw [hx]; rfl)
      · refine .inr ⟨b', o', e, hl, Nat.lt_of_lt_of_le hh (by have := hgrow.size; omega), Nat.lt_of_lt_of_le hb' hgrow.size, fun i x hi => ?_⟩
        rw [← hc i x hi]
        exact World.cell?_of_block (w := W.alloc o) (hgrow.block b' hb' (fun e' => h.off r hr hx _ e e'.symm))
  have keepOwn : ∀ r ∈ Q, r.Own 3 w1 := fun r hr => by
    refine (hgo.lots.1 r hr).keep fun g hl hg => ?_
    obtain ⟨_, _, h3⟩ := (h.ins r hr).on hW
    rcases h3 with h3 | ⟨b', o', e, _, _, hb', _⟩
    · exact absurd (iv_nil h3) hl
    · rw [hg] at e
      simp only [Option.some.injEq, Addr.mk.injEq] at e
      obtain ⟨rfl, _⟩ := e
      exact hgrow.block g hb' (fun e' => h.off r hr hl _ hg e'.symm)
  have hgr1 : Grows b w1 vs Q := ⟨owns_keep hgo.own fun g hg hlt => hgrow.block g hlt fun e => h.sc g hg e.symm, ⟨keepOwn, hgo.lots.2⟩, fun r hr => (keepRow r hr).wide (by omega) (Nat.le_refl _), hgo.off⟩
  have hst := set_touch w1 (b + 2) 2 vc'
  have hrep : iv (List.replicate j 1) ++ [Value.int .i64 1] = iv (List.replicate (j + 1) 1) := by
    rw [List.replicate_succ']; simp [iv]
  rw [hrep] at hown'
  refine ⟨h.len, h.con, hgr1.touch hst h.ns keepRow, hbx.set2 vc', owns_keep hown' fun g hg hlt => hst.block g hlt (fun e => hnc (by rw [hg]; congr 1; omega)), h.ns, hnc, ?_, fun r hr => ((keepRow r hr).touch hst (.inr (Nat.le_refl _))).wide (Nat.le_refl _) hst.size, ?_, ?_, h.base⟩
  · intro g hg hc
    rcases hloc with h1 | h1
    · exact h.sc g hg (by rw [← h1]; exact hc)
    · rw [h1] at hc
      simp only [Option.some.injEq] at hc
      have := (h.grows.own.lt g hg).2
      omega
  · intro r hr hl x hx hc
    rcases hloc with h1 | h1
    · exact h.off r hr hl x hx (by rw [← h1]; exact hc)
    · rw [h1] at hc
      simp only [Option.some.injEq] at hc
      obtain ⟨_, _, h3⟩ := h.ins r hr
      rcases h3 with h3 | ⟨b', o', e, _, hh, _, _⟩
      · exact hl (iv_nil h3)
      · rw [hx] at e
        simp only [Option.some.injEq] at e
        subst e
        simp only at hc; omega
  · exact ((h.below.trans (hW.mono (by omega))).grown hgrow (by omega) (fun g hg => ((h.own.lt g hg)).1)).setCell (p := ⟨b + 2, 2, none⟩) (by show b ≤ b + 2; omega) vc'

/-- The parts of the System that has been made. -/
theorem Turn.parts {b : Nat} {m : Int} {D : List (List Int)} {V W : World} {k j : Nat} {Q : List Row} {vs vc : Value} (h : Turn b m D V k j Q vs vc W) : ∃ (T : Tab) (t : Row), vs = .slice T.a T.R.length T.c ∧ vc = .slice t.a t.l.length t.c ∧ T.con = D.take k ∧ t.l = List.replicate j 1 ∧
    Fld.Own 3 W ⟨t, T⟩ ∧ Fld.In b W.heap.size W ⟨t, T⟩ := by
  have hsp : ∃ T : Tab, vs = .slice T.a T.R.length T.c ∧ T.R = Q ∧ T.Own 3 W ∧ T.In b W.heap.size W ∧ (∀ x, T.a = some x → T.R ≠ [] → vs.ownBlock = some x.block) := by
    obtain ⟨T, h1, h2, h3, h4⟩ := h.grows.tab
    refine ⟨T, h1, h2, h3, h4, fun x hx hne => ?_⟩
    rcases id h.grows.own.2 with ⟨hv, h0⟩ | ⟨g, cap, cur, hv, _⟩
    · exact absurd (by rw [h2]; exact List.eq_nil_of_length_eq_zero h0) hne
    · rw [h1] at hv ⊢
      simp only [Value.slice.injEq] at hv
      rw [hx] at hv
      simp only [Option.some.injEq] at hv
      rw [hx, hv.1]
      rfl
  obtain ⟨T, hTv, hTR, hTo, hTi, hblk⟩ := hsp
  obtain ⟨t, htv, htl, hto, hti⟩ := rowN_of_own (l := List.replicate j 1) (by simp) h.own
  have htb : t.l ≠ [] → ∀ x, t.a = some x → vc.ownBlock = some x.block := fun hl x hx => by
    rcases id h.own.2 with ⟨hv, h0⟩ | ⟨g, cap, cur, hv, _⟩
    · exact absurd (by rw [htl, h0]; rfl) hl
    · rw [htv] at hv ⊢
      simp only [Value.slice.injEq] at hv
      rw [hx] at hv
      simp only [Option.some.injEq] at hv
      rw [hx, hv.1]
      rfl
  refine ⟨T, t, hTv, htv, by show T.R.map Row.l = _; rw [hTR, h.con], htl, ⟨⟨fun r hr => ?_, List.pairwise_cons.2 ⟨fun r hr x y h1 h2 e1 e2 he => ?_, hTo.1.2⟩⟩, fun r hr => ?_⟩, ⟨hti, hTi⟩⟩
  · rcases List.mem_cons.1 hr with hr | hr
    · subst hr; exact hto
    · exact hTo.1.1 r hr
  · exact h.off r (by rw [← hTR]; exact hr) h2 y e2 (by rw [htb h1 x e1, he])
  · rcases List.mem_cons.1 hr with hr | hr
    · subst hr
      intro x y h1 h2 e1 e2 he
      exact h.sc y.block (hblk y e2 h2) (by rw [htb h1 x e1, he])
    · exact hTo.2 r hr

end Go.Proofs.Ytbngmjmcmdfphaa

namespace Go.Proofs.Ytbngmjmcmdfphaa
open Go.RowKit Go.Shelf

theorem own_sliceT {w : World} {B k : Nat} {e : TypeId} {v : Value} {xs : List Value} (h : w.ownsRow B e 1 v (k + 1) xs) : ∃ g cap, v = .slice (some ⟨g, 0, none⟩) (k + 1) cap := by
  rcases id h.2 with ⟨_, h0⟩ | ⟨g, cap, cur, hv, _⟩
  · omega
  · exact ⟨g, cap, hv⟩

theorem own_baseT {w : World} {B B' : Nat} {e : TypeId} {v : Value} {n : Nat} {xs : List Value} (h : w.ownsRow B e 1 v n xs) (hB : B' ≤ B) : w.ownsRow B' e 1 v n xs := by
  obtain ⟨h1, h2⟩ := id h
  refine ⟨h1, ?_⟩
  rcases h2 with h2 | ⟨g, cap, cur, rfl, hg, r⟩
  · exact .inl h2
  · exact .inr ⟨g, cap, cur, rfl, by omega, r⟩

set_option maxRecDepth 16000 in
set_option maxHeartbeats 4000000 in
theorem l6Turned_any (S : Sys) (w : World) (hS : S.At w) (hg : S.good = true) :
    Calls Try.prog 36 #[.agg #[.int .i64 S.n, .slice S.f.t.a S.f.t.R.length S.f.t.c, .slice S.f.o.a S.f.o.l.length S.f.o.c]] w fun e w' => ∃ (T : Tab) (t : Row), e = .returned (.agg #[.int .i64 (S.f.t.R.length : Int), .slice T.a T.R.length T.c, .slice t.a t.l.length t.c]) ∧ T.con = turnD S.n.toNat S.f.t.con ∧ t.l = List.replicate S.n.toNat 1 ∧
      Fld.Own 3 w' ⟨t, T⟩ ∧ Fld.In w.heap.size w'.heap.size w' ⟨t, T⟩ ∧ Below w.heap.size w w' := by
  obtain ⟨j0, hj, hj0, hj1, hj2⟩ := info_parts infoInts
  obtain ⟨i0, hi, hz0, hz1, hz2⟩ := info_parts infoInt
  obtain ⟨wA, hA, hb, bx, hSA, hszA⟩ := laid_sys S w 29 hS
  obtain ⟨n, hn, hn8, hm8, hom, hcost, hset⟩ := good_n hg
  have h8 := good_row8 hg
  have hcl := con_length S.f.t
  rw [show S.n.toNat = n by omega]
  obtain ⟨M, hM⟩ : ∃ M : Int, M = (S.f.t.R.length : Int) := ⟨_, rfl⟩
  obtain ⟨D, hD⟩ : ∃ D, D = turnD n S.f.t.con := ⟨_, rfl⟩
  obtain ⟨wR, hR⟩ : ∃ u, u = wA.alloc (Obj.cells #[.int .i64 0, .slice none 0 0, .slice none 0 0] 29) := ⟨_, rfl⟩
  have hbR : Below wA.heap.size wA wR := by rw [hR]; exact below_alloc _ _
  have hszR : wR.heap.size = w.heap.size + 2 := by rw [hR, size_alloc, hszA]
  have bxR := bx.on hbR
  have byR : Box3 wR (w.heap.size + 1) (.int .i64 0) (.slice none 0 0) (.slice none 0 0) 29 := by rw [hR, ← hszA]; exact Box3.made _ _ _ _ _
  obtain ⟨b, hbb⟩ : ∃ b, b = w.heap.size + 2 := ⟨_, rfl⟩
  obtain ⟨V, hV⟩ : ∃ V, V = ((wR.alloc (.cells #[] 23)).alloc (.cells #[] 3)).alloc (Obj.cells #[.int .i64 M, .slice (some ⟨b, 0, none⟩) 0 0, .slice (some ⟨b + 1, 0, none⟩) 0 0] 29) := ⟨_, rfl⟩
  have hb1 := below_alloc wR (.cells #[] 23)
  have hs1 : (wR.alloc (.cells #[] 23)).heap.size = b + 1 := by rw [size_alloc, hszR, hbb]
  have hb2 := below_alloc (wR.alloc (.cells #[] 23)) (.cells #[] 3)
  have hs2 : ((wR.alloc (.cells #[] 23)).alloc (.cells #[] 3)).heap.size = b + 2 := by rw [size_alloc, hs1]
  have hb3 : Below (b + 2) ((wR.alloc (.cells #[] 23)).alloc (.cells #[] 3)) V := by rw [hV, ← hs2]; exact below_alloc _ _
  have hszV : V.heap.size = b + 3 := by rw [hV, size_alloc, hs2]
  have hbRV : Below wR.heap.size wR V := (hb1.trans (hb2.mono hb1.size)).trans (hb3.mono (by omega))
  have T0 : Turn b M D wR 0 0 [] (.slice (some ⟨b, 0, none⟩) 0 0) (.slice (some ⟨b + 1, 0, none⟩) 0 0) V := by
    refine ⟨rfl, rfl, ?_, ?_, ?_, by simp [Value.ownBlock], by simp [Value.ownBlock], by simp [Value.ownBlock], by simp, by simp, by rw [show b = wR.heap.size by omega]; exact hbRV, by omega⟩
    · have h1 := (tab_empty wR).on (hb2.mono (Nat.le_refl _))
      rw [hszR, ← hbb] at h1
      exact h1.on (by rw [hs2]; exact hb3)
    · rw [hV, ← hs2]; exact Box3.made _ _ _ _ _
    · have h1 := empty_own (wR.alloc (.cells #[] 23))
      rw [hs1] at h1
      exact own_baseT (owns_below h1 (by rw [hs2]; exact hb3)) (by omega)
  have HV : Hid (V = ((((w.alloc (Obj.cells #[.int .i64 S.n, .slice S.f.t.a S.f.t.R.length S.f.t.c, .slice S.f.o.a S.f.o.l.length S.f.o.c] 29)).alloc (Obj.cells #[.int .i64 0, .slice none 0 0, .slice none 0 0] 29)).alloc (.cells #[] 23)).alloc (.cells #[] 3)).alloc (Obj.cells #[.int .i64 M, .slice (some ⟨w.heap.size + 1 + 1, 0, none⟩) 0 0, .slice (some ⟨w.heap.size + 1 + 1 + 1, 0, none⟩) 0 0] 29)) := Lib.hid (by rw [hV, hR, hA, hbb])
  have HAV := Lib.hid ((hbR.trans (hbRV.mono hbR.size)) : Below wA.heap.size wA V)
  have HBX := Lib.hid bxR
  have HBY := Lib.hid byR
  have HSV := Lib.hid (show Sys.At wR S from hSA.on hbR)
  have HBWR := Lib.hid (hb.trans (hbR.mono hb.size))
  have HT0 := Lib.hid T0
  have HBB := Lib.hid hbb
  have HSZ := Lib.hid hszV
  have HSR := Lib.hid hszR
  have HCL := Lib.hid hcl
  have H8 := Lib.hid h8
  have HDL : Hid (D.length = n) := Lib.hid (by rw [hD, turnD_len])
  have HDG : Hid (∀ k, (hk : k < n) → (hd : k < D.length) → D[k] = withEl S.f.t.con (k : Int)) := Lib.hid (fun k hk hd => by simp only [hD]; exact turnD_get n _ hk)
  have HM := Lib.hid hM
  have hMi : M ≤ 8 := by omega
  have hmR8 : S.f.t.R.length ≤ 8 := by omega
  have hni : (n : Int) ≤ 8 := by omega
  have HBW := Lib.hid (hb.trans (HAV.out.mono hb.size))
  have x0 : (w.alloc (Obj.cells #[.int .i64 S.n, .slice S.f.t.a S.f.t.R.length S.f.t.c, .slice S.f.o.a S.f.o.l.length S.f.o.c] 29)).cell? ⟨w.heap.size, 1, none⟩ = some (.slice S.f.t.a S.f.t.R.length S.f.t.c) := by have := bx.c1; rw [hA] at this; exact this
  have HN := Lib.hid hn
  rw [hM] at HV
  rw [← hD]
  clear hS hA bx hSA hR hbR bxR byR hV hb1 hb2 hb3 hbRV T0 hbb hszV hszR hcl h8 hD hM hn hom hcost hset hg hs1 hs2 hm8 hszA hb
  go_enter Try.func36, Try.ntmps36
  go_wp2_with fail
  rw [← HV.out]
  rw [show w.heap.size + 1 + 1 + 1 + 1 = b + 2 by have := HBB.out; omega]
  go_loopw [4, 5, 6] (fun xv _ _ wr => ∃ (k : Nat) (Q : List Row) (vs vc : Value), k ≤ n ∧ xv = .int .i64 k ∧ Turn b M D wR k k Q vs vc wr) (fun xv _ _ _ => n - (intOf xv).toNat)
  case atStart => exact ⟨0, [], _, _, Nat.zero_le _, rfl, by have := HT0.out; rw [HBB.out] at this ⊢; exact this⟩
  case round =>
    obtain ⟨k, Q, vs, vc, hk, rfl, hT⟩ := hrel
    have HT := Lib.hid hT
    have hBW : Below wR.heap.size wR wr := by rw [HSR.out, ← HBB.out]; exact hT.below
    have HBR := Lib.hid hBW
    have y0 := (HBX.out.on hBW).c0
    have y1 := (HBX.out.on hBW).c1
    rw [HN.out] at y0
    by_cases hlt : k < n
    · have hlti : (k : Int) < (n : Int) := by omega
      have hown0 := empty_own wr
      have hbe := below_alloc wr (.cells #[] 3)
      have HO0 := Lib.hid hown0
      have HE0 := Lib.hid hbe
      have hszr := hT.size
      clear hT hBW hown0 hbe
      go_wp2
      go_loopw [5, 6] (fun rv jv w3 => ∃ j : Nat, j ≤ S.f.t.R.length ∧ jv = .int .i64 j ∧ w3.ownsRow wr.heap.size 3 1 rv (picks (fun l => l.contains (k : Int)) S.f.t.con j).length (iv (picks (fun l => l.contains (k : Int)) S.f.t.con j)) ∧ Below wr.heap.size wr w3) (fun _ jv _ => S.f.t.R.length - (intOf jv).toNat)
      case atStart => exact ⟨0, Nat.zero_le _, rfl, HO0.out, HE0.out⟩
      case round =>
        obtain ⟨j, hjle, rfl, hownj, hnx⟩ := hrel
        have HNX := Lib.hid hnx
        have hszn := hnx.size
        have HBR3 := Lib.hid (HBR.out.trans (hnx.mono HBR.out.size))
        have z1 := (HBX.out.on HBR3.out).c1
        by_cases hltj : j < S.f.t.R.length
        · have hltji : (j : Int) < (S.f.t.R.length : Int) := by omega
          obtain ⟨bt, ot, r, hta, hcr, hrat, hrl, hrm⟩ := tab_cells HSV.out.2 HBR3.out hltj
          have hr8 := H8.out r.l (List.mem_map.2 ⟨r, hrm, rfl⟩)
          obtain ⟨v, hv⟩ : ∃ v, v = r.l.contains (k : Int) := ⟨_, rfl⟩
          have CH := Lib.hid (by have := l1Has_any r (k : Int) wr hrat; rw [show hasI r.l (k : Int) = v from hv.symm] at this; exact this)
          have HOW := Lib.hid hownj
          have hpl := picks_len (fun l => l.contains (k : Int)) S.f.t.con j
          have HV0 : Hid ((fun l : List Int => l.contains (k : Int)) (S.f.t.con.getD j []) = v) := Lib.hid (by rw [hrl]; exact hv.symm)
          rw [hta] at z1
          clear hta hrat hrl hrm hv hnx hownj
          go_wp2_with fail
          refine (show Calls _ _ _ _ _ from CH.out).mono ?_
          rintro e W6 ⟨rfl, rfl⟩
          cases v with
          | false =>
            have HE : Hid (picks (fun l => l.contains (k : Int)) S.f.t.con (j + 1) = picks (fun l => l.contains (k : Int)) S.f.t.con j) := Lib.hid (picks_no HV0.out)
            go_wp2
            go_roundw
            case rel => exact ⟨j + 1, by omega, by go_num, by rw [HE.out]; exact HOW.out, HNX.out⟩
            case measure => simp [intOf]; omega
          | true =>
            have HE : Hid (picks (fun l => l.contains (k : Int)) S.f.t.con (j + 1) = picks (fun l => l.contains (k : Int)) S.f.t.con j ++ [(j : Int)]) := Lib.hid (picks_yes HV0.out)
            have hown := HOW.out
            go_wp2_with (at_builtin; refine wpList_append_own _ rfl _ _ 23 rfl _ 3 i0 (.int .i64 0) 1 8 Try.underlying23 hi hz0 hz1 hz2 rfl (by decide) _ _ _ rfl (hown.alloc _) ⟨W6.heap.size, 0, none⟩ 1 1 [.int .i64 (j : Int)] rfl rfl (one_cell _ _ _) (by simp [Value.oneCell']) (by unfold maxLen; omega) (by omega) (by simp; omega) ?_; intro v' w1 hown' hgrow _)
            have R1 := Lib.hid (by have h9 := own_snoc rfl hown'; rw [← HE.out] at h9; exact h9)
            have R2 := Lib.hid ((HNX.out.alloc (by omega) _).grown hgrow (by simp; omega) (fun j hj => (hown.lt j hj).1))
            clear hown' hgrow hown
            go_wp2
            go_roundw
            case rel => exact ⟨j + 1, by omega, by go_num, R1.out, R2.out⟩
            case measure => simp [intOf]; omega
        · obtain rfl : j = S.f.t.R.length := by omega
          obtain ⟨t, ht, htl, hto, hti⟩ := row_of_own hownj
          have HB3 := HNX
          have T0 := HT
          have T3 := Lib.hid (HT.out.on hnx)
          have HTL : Hid (t.l = D[k]'(by rw [HDL.out]; exact hlt)) := Lib.hid (by rw [HDG.out k hlt, htl]; unfold withEl; rw [HCL.out])
          have HTO := Lib.hid hto
          have HTI := Lib.hid hti
          subst ht
          clear htl hto hti hnx hownj
          have hbr := T3.out.box
          have c1' : (wr.alloc (.cells #[.slice t.a t.l.length t.c] 23)).cell? ⟨b + 2, 1, none⟩ = some vs := (hbr.on (below_alloc _ _)).c1
          have c1w : wr.cell? ⟨b + 2, 1, none⟩ = some vs := hbr.c1
          have hown := T3.out.grows.own
          rw [T3.out.len] at hown
          have hsz3 := T3.out.size
          clear hbr
          have HHL : Hid (k < D.length) := Lib.hid (by rw [HDL.out]; exact hlt)
          go_wp2_with (first | (at_builtin; refine wpList_append_own_at _ rfl _ _ 22 rfl b 23 j0 (.slice none 0 0) 1 24 Try.underlying22 hj hj0 hj1 hj2 rfl (by decide) _ _ _ rfl (hown.alloc _) ⟨wr.heap.size, 0, none⟩ 1 1 [.slice t.a t.l.length t.c] rfl rfl (one_cell _ _ _) (by simp [Value.oneCell']) (by unfold maxLen; omega) (by omega) (by simp; omega) ?_; intro v' w1 hown' hgrow _ hloc; obtain ⟨g', cap', rfl⟩ := own_sliceT hown'; have hbx1 : Box3 w1 (b + 2) (.int .i64 M) vs vc 29 := (hgrow.block (b + 2) (by rw [size_alloc]; omega) (fun e => T3.out.ns e.symm)).trans (T3.out.box.on (below_alloc _ _)); have c1 := hbx1.c1; have c2 := hbx1.c2; have f1 := hbx1.fr 1; have HT5 := Lib.hid (T0.out.sets (o := .cells #[.slice t.a t.l.length t.c] 23) HB3.out HHL.out HTL.out HTO.out HTI.out hown' hgrow hloc); have d2 := HT5.out.box.c2; have hsz5 := HT5.out.size; have hown5 := HT5.out.own; clear hown hown' hgrow hloc hbx1) | (at_builtin; refine wpList_append_own_at _ rfl _ _ 23 rfl b 3 i0 (.int .i64 0) 1 8 Try.underlying23 hi hz0 hz1 hz2 rfl (by decide) _ _ _ rfl (hown5.alloc _) ⟨w1.heap.size, 0, none⟩ 1 1 [.int .i64 1] rfl rfl (by rw [show w1.heap.size = (w1.setCell ⟨b + 2, 1, none⟩ (.slice (some ⟨g', 0, none⟩) (k + 1) cap')).heap.size by simp [World.setCell]]; exact one_cell _ _ _) (by simp [Value.oneCell']) (by unfold maxLen; omega) (by omega) (by rw [size_alloc]; omega) ?_; intro v6 w6 hown6 hgrow6 _ hloc6; obtain ⟨g6, cap6, rfl⟩ := own_sliceT hown6; have hbx6 := (hgrow6.block (b + 2) (by rw [size_alloc]; omega) (fun e => HT5.out.nc e.symm)).trans (HT5.out.box.on (below_alloc _ _)); have c6 := Box3.c2 hbx6; have f6 := Box3.fr hbx6 2; have T7 := Lib.hid (HT5.out.costs (o := .cells #[.int .i64 1] 3) hown6 hgrow6 hloc6); clear hown5 hown6 hgrow6 hloc6 hbx6))
          go_roundw
          case rel => exact ⟨k + 1, Q ++ [t], _, _, by omega, by go_num, T7.out⟩
          case measure => simp [intOf]; omega
    · obtain rfl : k = n := by omega
      have hb := HT.out.box
      have e0 := hb.c0
      have e1 := hb.c1
      have e2 := hb.c2
      have byr := HBY.out.on hBW
      have f0 := byr.c0
      have f1 := byr.c1
      have f2 := byr.c2
      have q0 := byr.fr 0
      have q1 := byr.fr 1
      have q2 := byr.fr 2
      have HYR := Lib.hid byr
      have HBW2 := Lib.hid (HBWR.out.trans (hBW.mono HBWR.out.size))
      obtain ⟨T, t, hTv, htv, hTc, htl, hFo, hFi⟩ := HT.out.parts
      subst hTv htv
      have HTC : Hid (T.con = D) := Lib.hid (by rw [hTc, List.take_of_length_le (by rw [HDL.out]; exact Nat.le_refl _)])
      have HTL := Lib.hid htl
      have HFO := Lib.hid hFo
      have HFI := Lib.hid hFi
      have hszr := hT.size
      clear hT hBW hb byr hTc htl hFo hFi y1
      go_wp2
      obtain ⟨wF, hF⟩ : ∃ wF, wF = ((wr.setCell ⟨w.heap.size + 1, 0, none⟩ (.int .i64 M)).setCell ⟨w.heap.size + 1, 1, none⟩ (.slice T.a T.R.length T.c)).setCell ⟨w.heap.size + 1, 2, none⟩ (.slice t.a t.l.length t.c) := ⟨_, rfl⟩
      rw [← hF]
      have bF : Box3 wF (w.heap.size + 1) (.int .i64 M) (.slice T.a T.R.length T.c) (.slice t.a t.l.length t.c) 29 := by rw [hF]; exact ((HYR.out.set0 _).set1 _).set2 _
      have hsR := HSR.out
      have hbbo := HBB.out
      have tF : Touch (w.heap.size + 1) (w.heap.size + 2) wr wF := by
        rw [hF]
        exact (((Touch.refl _ _ wr).set (by omega) (by omega) _ _).set (by omega) (by omega) _ _).set (by omega) (by omega) _ _
      have hsF := tF.size
      have HEQ := Lib.hid (And.intro hsR hbbo)
      clear hsR hbbo
      have r0 := bF.c0
      have r1 := bF.c1
      have r2 := bF.c2
      clear e0 e1 e2 f0 f1 f2 q0 q1 q2 hF
      refine bodyPost_ret (v := .agg #[.int .i64 M, .slice T.a T.R.length T.c, .slice t.a t.l.length t.c]) (by simp [results, Try.results36, go_sem, r0, r1, r2]) rfl ?_
      obtain ⟨hsR, hbbo⟩ := HEQ.out
      have h1 := HFI.out
      have h2 : Fld.In b wF.heap.size wF ⟨t, T⟩ := (h1.touch tF (.inr (by omega))).wide (Nat.le_refl _) hsF
      exact ⟨T, t, by rw [HM.out], HTC.out, HTL.out, HFO.out.touch h1 tF (.inr (by omega)), h2.wide (by omega) (Nat.le_refl _), HBW2.out.trans (tF.below (by omega) (by omega))⟩
end Go.Proofs.Ytbngmjmcmdfphaa

namespace Go.Proofs.Ytbngmjmcmdfphaa
open Go.RowKit Go.Shelf

theorem turnS_like {S U : Sys} (hl : U.Like S) : turnS U = turnS S := by unfold turnS; rw [hl.1, hl.2.2]
def hitAsk (S : Sys) : Bool := S.good && hasC (turnS S)
def hitL (S : Sys) : List Int := if hitAsk S then up (leastC (turnS S)) else []
theorem hitAsk_like {S U : Sys} (hl : U.Like S) : hitAsk U = hitAsk S := by unfold hitAsk; rw [hl.good, turnS_like hl]
theorem hitL_like {S U : Sys} (hl : U.Like S) : hitL U = hitL S := by unfold hitL; rw [hitAsk_like hl, turnS_like hl]

set_option maxHeartbeats 1000000 in
theorem specHitting_any (S : Sys) (w : World) (hS : S.At w) (l : List Int) (b : Bool) (hb0 : b = hitAsk S) (hl0 : l = hitL S) :
    Calls Try.prog 16 #[.agg #[.int .i64 S.n, .slice S.f.t.a S.f.t.R.length S.f.t.c, .slice S.f.o.a S.f.o.l.length S.f.o.c]] w (PInts l b w) := by
  obtain ⟨wA, hA, hb, bx, hSA, hszA⟩ := laid_sys S w 29 hS
  have x0 := bx.c0
  have x1 := bx.c1
  have x2 := bx.c2
  rw [hA] at x0 x1 x2
  obtain ⟨v, hv⟩ : ∃ v, v = S.good := ⟨_, rfl⟩
  have cg := l6Good_any S wA hSA
  rw [← hv] at cg
  have CG := Lib.hid cg
  have HSA := Lib.hid hSA
  have HBX := Lib.hid bx
  have HA := Lib.hid hA
  have HV := Lib.hid hv
  have HB0 := Lib.hid hb0
  have HL0 := Lib.hid hl0
  clear hS hA bx hSA cg hb0 hl0 hv hszA
  go_enter Try.func16, Try.ntmps16
  go_wp2_with fail
  rw [← HA.out]
  refine (show Calls _ _ _ _ _ from CG.out).mono ?_
  rintro e W1 ⟨rfl, hb1⟩
  have hbw := hb.trans (hb1.mono hb.size)
  have HB1 := Lib.hid hb1
  clear x0 x1 x2
  cases v with
  | false =>
    have HEND : Hid (PInts l b w (.returned (.tuple #[.slice (some ⟨W1.heap.size, 0, none⟩) 0 0, .bool false])) (W1.alloc (.cells #[] 3))) := Lib.hid (by
      have hbf : hitAsk S = false := by unfold hitAsk; rw [← HV.out]; rfl
      have h1 : b = false := HB0.out.trans hbf
      have h2 : l = [] := by rw [HL0.out]; unfold hitL; rw [hbf]; rfl
      subst h1 h2
      exact ints_end rfl (empty_own W1) hbw.size (hbw.trans ((below_alloc W1 _).mono hbw.size)))
    clear hb1 hbw
    go_wp2
    go_ret2
    exact HEND.out
  | true =>
    have y0 := (HBX.out.on HB1.out).c0
    have y1 := (HBX.out.on HB1.out).c1
    have y2 := (HBX.out.on HB1.out).c2
    have CT := Lib.hid (l6Turned_any S W1 (Sys.At.on (show S.At wA from HSA.out) hb1) HV.out.symm)
    have HBW := Lib.hid hbw
    clear hb1 hbw
    go_wp2_with fail
    refine (show Calls _ _ _ _ _ from CT.out).mono ?_
    rintro e W2 ⟨T, t, rfl, hTc, htl, -, hfi, hb2⟩
    have hbw2 := HBW.out.trans (hb2.mono HBW.out.size)
    have hlk : Sys.Like ⟨(S.f.t.R.length : Int), ⟨t, T⟩⟩ (turnS S) := ⟨by show (S.f.t.R.length : Int) = ((S.f.t.con.length : Nat) : Int); rw [con_length], htl, by unfold turnS; rw [mkSys_con]; exact hTc⟩
    have hgt : Sys.good ⟨(S.f.t.R.length : Int), ⟨t, T⟩⟩ = true := hlk.good.trans (turnS_good HV.out.symm)
    have hba : b = hasC ⟨(S.f.t.R.length : Int), ⟨t, T⟩⟩ := by rw [hasC_like hlk, HB0.out]; unfold hitAsk; rw [← HV.out]; rfl
    have hla : l = if b then up (leastC ⟨(S.f.t.R.length : Int), ⟨t, T⟩⟩) else [] := by rw [leastC_like hlk, HL0.out]; unfold hitL; rw [← HB0.out]
    have CL := Lib.hid (l6Least_any ⟨(S.f.t.R.length : Int), ⟨t, T⟩⟩ W2 hfi.at hgt b (by rw [hba]; unfold hasC; rw [hgt, con_length]; rfl) l hla)
    have HBW2 := Lib.hid hbw2
    clear hTc htl hfi hb2 hbw2 hlk hgt hba hla y0 y1 y2
    go_wp2_with fail
    refine (show Calls _ _ _ _ _ from CL.out).mono ?_
    rintro e W3 ⟨s, rfl, hsl, hso, hsi, hb3⟩
    have HEND : Hid (PInts l b w (.returned (.tuple #[.slice s.a s.l.length s.c, .bool b])) W3) := Lib.hid ⟨s, rfl, hsl, hso, hsi.wide HBW2.out.size (Nat.le_refl _), HBW2.out.trans (hb3.mono HBW2.out.size)⟩
    clear hsl hso hsi hb3
    go_wp2
    go_ret2
    exact HEND.out

set_option maxHeartbeats 1000000 in
theorem implHitting_any (S : Sys) (w : World) (hS : S.At w) (l : List Int) (b : Bool) (hb0 : b = hitAsk S) (hl0 : l = hitL S) :
    Calls Try.prog 17 #[.agg #[.int .i64 S.n, .slice S.f.t.a S.f.t.R.length S.f.t.c, .slice S.f.o.a S.f.o.l.length S.f.o.c]] w (PInts l b w) := by
  obtain ⟨wA, hA, hb, bx, hSA, hszA⟩ := laid_sys S w 29 hS
  have x0 := bx.c0
  have x1 := bx.c1
  have x2 := bx.c2
  rw [hA] at x0 x1 x2
  have HA := Lib.hid hA
  obtain ⟨v, hv⟩ : ∃ v, v = S.good := ⟨_, rfl⟩
  have CG := implTurnSystem_any S wA hSA
  rw [← hv] at CG
  have CG1 := Lib.hid CG
  have HV := Lib.hid hv
  have HB0 := Lib.hid hb0
  have HL0 := Lib.hid hl0
  clear hS bx hSA hA hv CG hb0 hl0 hszA
  go_enter Try.func17, Try.ntmps17
  go_wp2_with fail
  rw [← HA.out]
  refine (show Calls _ _ _ _ _ from CG1.out).mono ?_
  rintro e W1 ⟨G, rfl, hlike, -, hGi, hb1⟩
  have hbw := hb.trans (hb1.mono hb.size)
  have HB1 := Lib.hid hb1
  have HLK := Lib.hid hlike
  have HGI := Lib.hid hGi
  clear x0 x1 x2 hb1 hlike hGi
  cases v with
  | false =>
    have HEND : Hid (PInts l b w (.returned (.tuple #[.slice (some ⟨W1.heap.size + 1, 0, none⟩) 0 0, .bool false])) ((W1.alloc (Obj.cells #[.int .i64 G.n, .slice G.f.t.a G.f.t.R.length G.f.t.c, .slice G.f.o.a G.f.o.l.length G.f.o.c] 29)).alloc (.cells #[] 3))) := Lib.hid (by
      have hbf : hitAsk S = false := by unfold hitAsk; rw [← HV.out]; rfl
      have h1 : b = false := HB0.out.trans hbf
      have h2 : l = [] := by rw [HL0.out]; unfold hitL; rw [hbf]; rfl
      subst h1 h2
      have e := empty_own (W1.alloc (Obj.cells #[.int .i64 G.n, .slice G.f.t.a G.f.t.R.length G.f.t.c, .slice G.f.o.a G.f.o.l.length G.f.o.c] 29))
      have hbB := hbw.trans ((below_alloc W1 (Obj.cells #[.int .i64 G.n, .slice G.f.t.a G.f.t.R.length G.f.t.c, .slice G.f.o.a G.f.o.l.length G.f.o.c] 29)).mono hbw.size)
      rw [size_alloc] at e
      have h3 := hbB.size
      rw [size_alloc] at h3
      exact ints_end rfl e h3 (hbB.trans ((below_alloc _ _).mono hbB.size)))
    clear hbw
    go_wp2
    go_ret2
    exact HEND.out
  | true =>
    have hans : ansT S = turnS S := by unfold ansT; rw [← HV.out]; rfl
    have hlk := HLK.out
    rw [hans] at hlk
    obtain ⟨wB, hB⟩ : ∃ u, u = W1.alloc (Obj.cells #[.int .i64 G.n, .slice G.f.t.a G.f.t.R.length G.f.t.c, .slice G.f.o.a G.f.o.l.length G.f.o.c] 29) := ⟨_, rfl⟩
    have hbB : Below W1.heap.size W1 wB := by rw [hB]; exact below_alloc _ _
    have hGB : G.At wB := HGI.out.at.on hbB
    have hba : b = hasC G := by rw [hasC_like hlk, HB0.out]; unfold hitAsk; rw [← HV.out]; rfl
    have hla : l = if b then up (leastC G) else [] := by rw [leastC_like hlk, HL0.out]; unfold hitL; rw [← HB0.out]
    have CI := Lib.hid (implLeastC_any G wB hGB l b hba hla)
    have HB := Lib.hid hB
    have HBB := Lib.hid (hbw.trans (hbB.mono hbw.size))
    clear hans hlk hB hbB hGB hba hla
    go_wp2_with fail
    rw [← HB.out]
    refine (show Calls _ _ _ _ _ from CI.out).mono ?_
    rintro e W3 ⟨s, rfl, hsl, hso, hsi, hb3⟩
    have HEND : Hid (PInts l b w (.returned (.tuple #[.slice s.a s.l.length s.c, .bool b])) W3) := Lib.hid ⟨s, rfl, hsl, hso, hsi.wide HBB.out.size (Nat.le_refl _), HBB.out.trans (hb3.mono HBB.out.size)⟩
    clear hsl hso hsi hb3
    go_wp2
    go_ret2
    exact HEND.out

theorem leastHitting_pair (S : Sys) (_ : S.Small) : ∃ (l : List Int) (b : Bool) (_ : l.length ≤ 1048576),
    (∀ (G : Sys) (W : World), G.At W → G.Like S → Calls Try.prog 16 #[.agg #[.int .i64 G.n, .slice G.f.t.a G.f.t.R.length G.f.t.c, .slice G.f.o.a G.f.o.l.length G.f.o.c]] W (PInts l b W)) ∧
    (∀ (G : Sys) (W : World), G.At W → G.Like S → Calls Try.prog 17 #[.agg #[.int .i64 G.n, .slice G.f.t.a G.f.t.R.length G.f.t.c, .slice G.f.o.a G.f.o.l.length G.f.o.c]] W (PInts l b W)) := by
  refine ⟨hitL S, hitAsk S, ?_, fun G W hG hl => specHitting_any G W hG _ _ (hitAsk_like hl).symm (hitL_like hl).symm, fun G W hG hl => implHitting_any G W hG _ _ (hitAsk_like hl).symm (hitL_like hl).symm⟩
  unfold hitL
  split
  · rename_i h
    unfold hitAsk at h
    rw [Bool.and_eq_true] at h
    obtain ⟨hg, -⟩ := hasC_iff.1 h.2
    obtain ⟨-, -, -, hN8, -, -, -⟩ := good_n hg
    have := leastC_len (S := turnS S) hN8
    rw [up_length]; omega
  · simp
end Go.Proofs.Ytbngmjmcmdfphaa
