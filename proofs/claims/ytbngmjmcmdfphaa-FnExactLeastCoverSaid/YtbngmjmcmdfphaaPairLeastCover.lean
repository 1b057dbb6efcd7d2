/- Both sides of LeastCover answer alike. Condition: the System reads as such. -/
import Derived.Test.YtbngmjmcmdfphaaPlainFirst2
import Derived.Test.YtbngmjmcmdfphaaPairIsCover
import Derived.Test.YtbngmjmcmdfphaaPairCostOf
import Derived.Test.YtbngmjmcmdfphaaChoiceTab
import Derived.Test.YtbngmjmcmdfphaaSysGood
import Derived.Test.YtbngmjmcmdfphaaEigSizeSeq
import Derived.Test.YtbngmjmcmdfphaaChoices
namespace Go.Proofs.Ytbngmjmcmdfphaa

/-- What the search compares: the cost of a cover, and more than each for all others. -/
def phiC (S : Sys) (T : List Nat) : Int := if covB S T = true then costT S T else 793
theorem costT_bound {S : Sys} (hg : S.good = true) {T : List Nat} (hT : T.length ≤ 8) : 0 ≤ costT S T ∧ costT S T ≤ 792 := by
  have h := costs_take hg T hT T.length
  rw [List.take_of_length_le (by rw [pays_len]; exact Nat.le_refl _)] at h
  exact h
theorem phiC_like {S U : Sys} (h : U.Like S) : phiC U = phiC S := by funext T; unfold phiC; rw [covB_like h, costT_like h]
theorem phiC_bound {S : Sys} (hg : S.good = true) {T : List Nat} (hT : T.length ≤ 8) : 0 ≤ phiC S T ∧ phiC S T ≤ 793 := by
  have := costT_bound hg hT
  unfold phiC; split <;> omega
/-- Whether there is a cover, and the first one with the least cost. -/
def hasC (S : Sys) : Bool := S.good && covB S (List.range S.f.t.con.length)
def leastC (S : Sys) : List Nat := firstE (phiC S) (choL S.f.t.con.length S.f.t.con.length)

/-- The search from the end. -/
def stepL (φ : List Nat → Int) (T b : List Nat) : List Nat := if φ T ≤ φ b then T else b
theorem firstE_cons (φ : List Nat → Int) : ∀ (s : List (List Nat)) (x y : List Nat), firstE φ (x :: (y :: s)) = if φ (firstE φ (y :: s)) < φ x then firstE φ (y :: s) else x := by
  intro s
  induction h : s.length generalizing s with
  | zero =>
    intro x y
    have : s = [] := List.eq_nil_of_length_eq_zero h
    subst this
    rfl
  | succ n ih =>
    intro x y
    obtain ⟨s', t, rfl⟩ : ∃ s' t, s = s' ++ [t] := ⟨s.dropLast, s.getLast (by intro e; rw [e] at h; simp at h), (List.dropLast_concat_getLast _).symm⟩
    have hl : s'.length = n := by rw [List.length_append, List.length_singleton] at h; omega
    have e1 := firstE_snoc φ x (y :: s') t
    have e2 := firstE_snoc φ y s' t
    simp only [List.cons_append] at e1 e2
    rw [e1, e2, ih s' hl x y]
    clear e1 e2 ih h hl
    generalize firstE φ (y :: s') = F
    unfold stepE
    by_cases h1 : φ F < φ x <;> by_cases h2 : φ t < φ F <;> by_cases h3 : φ t < φ x <;> first | (exfalso; omega) | simp only [h1, h2, h3, if_true, if_false]
theorem foldr_first (φ : List Nat → Int) (z : List Nat) : ∀ (r : List (List Nat)) (x : List Nat), (x :: r).foldr (stepL φ) z = if φ (firstE φ (x :: r)) ≤ φ z then firstE φ (x :: r) else z
  | [], x => rfl
  | y :: s, x => by
    rw [List.foldr_cons, foldr_first φ z s y, firstE_cons φ s x y]
    generalize firstE φ (y :: s) = F
    unfold stepL
    by_cases h1 : φ F < φ x <;> by_cases h2 : φ F ≤ φ z <;> by_cases h3 : φ x ≤ φ z <;> by_cases h4 : φ x ≤ φ F <;> first | (exfalso; omega) | simp only [h1, h2, h3, h4, if_true, if_false]
theorem foldr_last (φ : List Nat → Int) (L : List (List Nat)) (z : List Nat) : (L ++ [z]).foldr (stepL φ) z = firstE φ (L ++ [z]) := by
  rw [List.foldr_append]
  simp only [List.foldr_cons, List.foldr_nil]
  rw [show stepL φ z z = z by unfold stepL; simp]
  cases L with
  | nil => simp [firstE]
  | cons x r =>
    rw [foldr_first φ z r x, firstE_snoc]
    generalize firstE φ (x :: r) = F
    unfold stepE
    by_cases h1 : φ F ≤ φ z <;> by_cases h2 : φ z < φ F <;> first | (exfalso; omega) | simp only [h1, h2, if_true, if_false]
theorem cho_last : ∀ n ≤ 8, choL n n = (choL n n).dropLast ++ [List.range n] := by decide +kernel
/-- The model's search: the best one of the choices from the place j on. -/
def stepC (S : Sys) (T b : List Nat) : List Nat := if covB S T = true ∧ costT S T ≤ costT S b then T else b
def leastTo (S : Sys) (L : List (List Nat)) (z : List Nat) (j : Nat) : List Nat := (L.drop j).foldr (stepC S) z
theorem leastTo_end (S : Sys) (L : List (List Nat)) (z : List Nat) : leastTo S L z L.length = z := by simp [leastTo]
theorem leastTo_step (S : Sys) (L : List (List Nat)) (z : List Nat) {j : Nat} (h : j < L.length) : leastTo S L z j = stepC S L[j] (leastTo S L z (j + 1)) := by
  unfold leastTo; rw [List.drop_eq_getElem_cons h]; rfl
theorem leastTo_mem (S : Sys) (L : List (List Nat)) (z : List Nat) : ∀ X : List (List Nat), X.foldr (stepC S) z = z ∨ X.foldr (stepC S) z ∈ X
  | [] => .inl rfl
  | T :: X => by
    rw [List.foldr_cons]
    unfold stepC
    split
    · exact .inr List.mem_cons_self
    · exact (leastTo_mem S L z X).imp id (List.mem_cons_of_mem _)
theorem foldr_same {S : Sys} (hg : S.good = true) (z : List Nat) (hz : covB S z = true) (hz8 : z.length ≤ 8) : ∀ X : List (List Nat), (∀ T ∈ X, T.length ≤ 8) → X.foldr (stepC S) z = X.foldr (stepL (phiC S)) z ∧ covB S (X.foldr (stepC S) z) = true ∧ (X.foldr (stepC S) z).length ≤ 8
  | [], _ => ⟨rfl, hz, hz8⟩
  | T :: X, h => by
    obtain ⟨h1, h2, h3⟩ := foldr_same hg z hz hz8 X fun U hU => h U (List.mem_cons_of_mem _ hU)
    have hT := h T List.mem_cons_self
    have hb := costT_bound hg h3
    rw [List.foldr_cons, List.foldr_cons, ← h1]
    clear h1
    generalize List.foldr (stepC S) z X = Z at h2 h3 hb ⊢
    have e : stepC S T Z = stepL (phiC S) T Z := by
      unfold stepC stepL phiC
      rw [if_pos h2]
      by_cases hc : covB S T = true
      · simp only [hc, true_and, if_true]
      · rw [if_neg (fun h => hc h.1), if_neg hc, if_neg (by omega)]
    refine ⟨e, ?_, ?_⟩
    · unfold stepC
      split
      · rename_i h; exact h.1
      · exact h2
    · unfold stepC
      split
      · exact hT
      · exact h3
theorem leastTo_all {S : Sys} (hg : S.good = true) (hc : covB S (List.range S.f.t.con.length) = true) (hN : S.f.t.con.length ≤ 8) : leastTo S (choL S.f.t.con.length S.f.t.con.length) (List.range S.f.t.con.length) 0 = leastC S := by
  unfold leastTo leastC
  rw [List.drop_zero, (foldr_same hg _ hc (by rw [List.length_range]; exact hN) _ (fun T hT => (cho_ok hN hT).2.1)).1]
  have h := cho_last _ hN
  rw [h]; exact foldr_last _ _ _
theorem hasC_iff {S : Sys} : hasC S = true ↔ S.good = true ∧ covB S (List.range S.f.t.con.length) = true := by unfold hasC; rw [Bool.and_eq_true]
theorem hasC_like {S U : Sys} (h : U.Like S) : hasC U = hasC S := by unfold hasC; rw [h.good, covB_like h, h.2.2]
theorem leastC_like {S U : Sys} (h : U.Like S) : leastC U = leastC S := by unfold leastC; rw [phiC_like h, h.2.2]
theorem bits_full : ∀ n ≤ 8, E8.bitsT n (2 ^ n - 1) = List.range n := by decide +kernel
theorem setB_range : ∀ n ≤ 8, setB n (up (List.range n)) = true := by decide +kernel
theorem leastC_len {S : Sys} (hN : S.f.t.con.length ≤ 8) : (leastC S).length ≤ 8 := by
  have h := cho_last _ hN
  unfold leastC
  have : ∀ (r : List (List Nat)) (x : List Nat), firstE (phiC S) (x :: r) ∈ x :: r := by
    intro r
    induction r with
    | nil => intro x; simp [firstE]
    | cons y s ih => intro x; rw [firstE_cons]; split; exact List.mem_cons_of_mem _ (ih y); exact List.mem_cons_self
  exact (cho_ok hN (this _ _)).2.1
end Go.Proofs.Ytbngmjmcmdfphaa

namespace Go.Proofs.Ytbngmjmcmdfphaa
open Go.RowKit
end Go.Proofs.Ytbngmjmcmdfphaa

namespace Go.Proofs.Ytbngmjmcmdfphaa
open Go.RowKit Go.Shelf

theorem leastTo_ok {S : Sys} {N : Nat} (hN : N ≤ 8) (j : Nat) : setB N (up (leastTo S (choL N N) (List.range N) j)) = true ∧ (leastTo S (choL N N) (List.range N) j).length ≤ 8 ∧ ∀ x ∈ leastTo S (choL N N) (List.range N) j, x < N := by
  rcases leastTo_mem S (choL N N) (List.range N) ((choL N N).drop j) with h | h
  · have e : leastTo S (choL N N) (List.range N) j = List.range N := h
    rw [e]
    exact ⟨setB_range N hN, by rw [List.length_range]; exact hN, fun x hx => List.mem_range.1 hx⟩
  · exact cho_ok hN (List.mem_of_mem_drop h)

set_option maxHeartbeats 1000000 in
theorem l6All_any (S : Sys) (n : Nat) (w : World) (hS : S.At w) (hn : S.f.t.R.length = n) (hn8 : n ≤ 8) :
    Calls Try.prog 49 #[.agg #[.int .i64 S.n, .slice S.f.t.a n S.f.t.c, .slice S.f.o.a S.f.o.l.length S.f.o.c]] w fun e w' => ∃ t : Row, e = .returned (.slice t.a t.l.length t.c) ∧ t.l = up (List.range n) ∧ t.Own 3 w' ∧ t.In w.heap.size w'.heap.size w' ∧ Below w.heap.size w w' := by
  obtain ⟨wA, hA, hb, bx, hSA, hszA⟩ := laid_sys S w 29 hS
  rw [hn] at hA bx
  have HS : Hid (∀ u, Below wA.heap.size wA u → ((u.cell? ⟨w.heap.size, 0, none⟩ = some (.int .i64 S.n) ∧ u.cell? ⟨w.heap.size, 1, none⟩ = some (.slice S.f.t.a n S.f.t.c) ∧ u.cell? ⟨w.heap.size, 2, none⟩ = some (.slice S.f.o.a S.f.o.l.length S.f.o.c)) ∧ Below wA.heap.size wA u)) := Lib.hid fun u hu => sys_cells bx u hu
  have hN : Below wA.heap.size wA wA.drew := (Below.refl _ _).drew
  have s0 := HS.out wA.drew hN
  have hszr := hN.size
  have hp1 : 1 ≤ 2 ^ n := Nat.one_le_two_pow
  have hp2 : 2 ^ n ≤ 256 := by
    have : 2 ^ n ≤ 2 ^ 8 := Nat.pow_le_pow_right (by omega) hn8
    simpa using this
  have CB0 := fun u => E8.l2Bits_any n (2 ^ n - 1) u hn8 (by omega)
  rw [bits_full n hn8] at CB0
  obtain ⟨m, hm⟩ : ∃ m, m = 2 ^ n := ⟨_, rfl⟩
  have hpi : (2 : Int) ^ n = (m : Int) := by rw [hm]; push_cast; rfl
  rw [← hm] at hp1 hp2 CB0
  have hmi : (m : Int) ≤ 256 := by omega
  have hmi1 : 1 ≤ (m : Int) := by omega
  rw [show ((m - 1 : Nat) : Int) = (m : Int) - 1 by omega] at CB0
  have CB := Lib.hid CB0
  have HA := Lib.hid hA
  have HB := Lib.hid hb
  have hni : (n : Int) ≤ 8 := by omega
  have hni0 : (0 : Int) ≤ (n : Int) := by omega
  have HSZ := Lib.hid hszA
  clear hS hA bx hSA hszA hm CB0 hn hb hp1 hp2
  have hw1 : IntKind.i64.wrap (m : Int) = (m : Int) := IntWalk.i64_in _ (by omega)
  have hw2 : IntKind.i64.wrap ((m : Int) - 1) = (m : Int) - 1 := IntWalk.i64_in _ (by omega)
  go_enter Try.func49, Try.ntmps49
  go_wp2_with fail
  rw [← HA.out]
  first | (go_region_held3 (fun u => ((u.cell? ⟨w.heap.size, 0, none⟩ = some (.int .i64 S.n) ∧ u.cell? ⟨w.heap.size, 1, none⟩ = some (.slice S.f.t.a n S.f.t.c) ∧ u.cell? ⟨w.heap.size, 2, none⟩ = some (.slice S.f.o.a S.f.o.l.length S.f.o.c)) ∧ Below wA.heap.size wA u)) (first | exact s0 | exact HS.out _ (by assumption)) ((go_at_call 65; refine (show Calls _ _ _ _ _ from CB.out _).mono ?_; rintro e u1 ⟨t, rfl, htl, hto, hti, hb1⟩; have hB1 : Below wA.heap.size wA u1 := hN.trans (hb1.mono hszr); have HT4 := Lib.hid (And.intro htl (And.intro hto hti)); clear htl hto hti hb1))) | fail
  have HEND : Hid (t.l = up (List.range n) ∧ t.Own 3 u1 ∧ t.In w.heap.size u1.heap.size u1 ∧ Below w.heap.size w u1) := Lib.hid ⟨HT4.out.1, HT4.out.2.1, HT4.out.2.2.wide (by have := HSZ.out; have := hszr; omega) (Nat.le_refl _), HB.out.trans (hB1.mono HB.out.size)⟩
  clear hw1 hw2 hB1
  go_wp2
  go_ret
  exact ⟨t, rfl, HEND.out.1, HEND.out.2.1, HEND.out.2.2.1, HEND.out.2.2.2⟩

set_option linter.unusedSimpArgs false in
set_option maxRecDepth 32000 in
set_option maxHeartbeats 2000000 in
theorem l6Least_any (S : Sys) (w : World) (hS : S.At w) (hg : S.good = true) (q : Bool) (hq : q = covB S (List.range S.f.t.R.length)) (l : List Int) (hl0 : l = if q then up (leastC S) else []) :
    Calls Try.prog 25 #[.agg #[.int .i64 S.n, .slice S.f.t.a S.f.t.R.length S.f.t.c, .slice S.f.o.a S.f.o.l.length S.f.o.c]] w (PInts l q w) := by
  obtain ⟨wA, hA, hb, bx, hSA, hszA⟩ := laid_sys S w 29 hS
  obtain ⟨-, -, -, hN8, -, -, -⟩ := good_n hg
  have hNR : S.f.t.con.length = S.f.t.R.length := con_length S.f.t
  have hR8 : S.f.t.R.length ≤ 8 := by omega
  have hRi : (S.f.t.R.length : Int) ≤ 8 := by omega
  have HS : Hid (∀ u, Below wA.heap.size wA u → ((u.cell? ⟨w.heap.size, 0, none⟩ = some (.int .i64 S.n) ∧ u.cell? ⟨w.heap.size, 1, none⟩ = some (.slice S.f.t.a S.f.t.R.length S.f.t.c) ∧ u.cell? ⟨w.heap.size, 2, none⟩ = some (.slice S.f.o.a S.f.o.l.length S.f.o.c)) ∧ Below wA.heap.size wA u)) := Lib.hid fun u hu => sys_cells bx u hu
  have hN : Below wA.heap.size wA wA.drew := (Below.refl _ _).drew
  have s0 := HS.out wA.drew hN
  have hszr := hN.size
  have CA := Lib.hid (fun u (hu : Below wA.heap.size wA u) => l6All_any S S.f.t.R.length u (Sys.At.on (show S.At wA from hSA) hu) rfl hR8)
  have CC := Lib.hid (fun u (hu : Below wA.heap.size wA u) (y : Row) (hy : y.At u) (hl : y.l = up (List.range S.f.t.R.length)) => by have := l6Cover_any S y (List.range S.f.t.R.length) u (Sys.At.on (show S.At wA from hSA) hu) hy (good_row8 hg) hl (by rw [hNR]; intro m hm; exact List.mem_range.1 hm) (by rw [List.length_range]; exact hR8); rw [← hq] at this; exact this : ∀ u, Below wA.heap.size wA u → ∀ y : Row, y.At u → y.l = up (List.range S.f.t.R.length) → Calls Try.prog 48 #[.agg #[.int .i64 S.n, .slice S.f.t.a S.f.t.R.length S.f.t.c, .slice S.f.o.a S.f.o.l.length S.f.o.c], .slice y.a y.l.length y.c] u fun e w' => e = .returned (.bool q) ∧ Below u.heap.size u w')
  have HA := Lib.hid hA
  have HB := Lib.hid hb
  have HSA := Lib.hid hSA
  have HG := Lib.hid hg
  have HQ := Lib.hid hq
  have HL0 := Lib.hid hl0
  have HNR := Lib.hid hNR
  have HSZ := Lib.hid hszA
  clear hS hA hb bx hSA hszA hg hq hl0 hNR hN8
  go_enter Try.func25, Try.ntmps25
  go_wp2_with fail
  rw [← HA.out]
  first | (go_region_held3 (fun u => ((u.cell? ⟨w.heap.size, 0, none⟩ = some (.int .i64 S.n) ∧ u.cell? ⟨w.heap.size, 1, none⟩ = some (.slice S.f.t.a S.f.t.R.length S.f.t.c) ∧ u.cell? ⟨w.heap.size, 2, none⟩ = some (.slice S.f.o.a S.f.o.l.length S.f.o.c)) ∧ Below wA.heap.size wA u)) (first | exact s0 | exact HS.out _ (by assumption)) (first | (go_at_call 49; refine (show Calls _ _ _ _ _ from CA.out _ hN).mono ?_; rintro e u1 ⟨y, rfl, hyl, -, hyi, hb1⟩; have HY := Lib.hid hyl; have HYI := Lib.hid hyi.at; have hB1 : Below wA.heap.size wA u1 := hN.trans (hb1.mono hszr); have hsz1 := hB1.size; clear hyl hyi hb1) | (go_at_call 48; refine (show Calls _ _ _ _ _ from CC.out _ hB1 y HYI.out HY.out).mono ?_; rintro e u2 ⟨rfl, hb2⟩; have hB2 : Below wA.heap.size wA u2 := hB1.trans (hb2.mono hsz1); have HB2 := Lib.hid hB2; clear hb2))) | fail
  clear s0 hN hszr hB1 hsz1
  have hbw := HB.out.trans (HB2.out.mono HB.out.size)
  have HBW := Lib.hid hbw
  cases q with
  | false =>
    have HEND : Hid (PInts l false w (.returned (.tuple #[.slice (some ⟨u2.heap.size, 0, none⟩) 0 0, .bool false])) (u2.alloc (.cells #[] 3))) := Lib.hid (by
      have : l = [] := HL0.out
      subst this
      exact ints_end rfl (empty_own u2) hbw.size (hbw.trans ((below_alloc u2 _).mono hbw.size)))
    clear hB2 hbw
    go_wp2
    go_ret2
    exact HEND.out
  | true =>
    obtain ⟨⟨z0, z1, z2⟩, -⟩ := HS.out u2 hB2
    have HS2 : Hid (∀ u, Below u2.heap.size u2 u → ((u.cell? ⟨w.heap.size, 0, none⟩ = some (.int .i64 S.n) ∧ u.cell? ⟨w.heap.size, 1, none⟩ = some (.slice S.f.t.a S.f.t.R.length S.f.t.c) ∧ u.cell? ⟨w.heap.size, 2, none⟩ = some (.slice S.f.o.a S.f.o.l.length S.f.o.c)) ∧ Below u2.heap.size u2 u)) := Lib.hid fun u hu => ⟨(HS.out u (HB2.out.trans (hu.mono HB2.out.size))).1, hu⟩
    have hN2 : Below u2.heap.size u2 u2.drew := (Below.refl _ _).drew
    have s2 := HS2.out u2.drew hN2
    have hszr2 := hN2.size
    have CA2 := Lib.hid (fun u (hu : Below u2.heap.size u2 u) => CA.out u (HB2.out.trans (hu.mono HB2.out.size)))
    have CH := fun u => l6Choices_any S.f.t.R.length u hR8
    obtain ⟨L, hL⟩ : ∃ L, L = choL S.f.t.R.length S.f.t.R.length := ⟨_, rfl⟩
    obtain ⟨c, hc⟩ : ∃ c, c = L.length := ⟨_, rfl⟩
    rw [← hL, ← hc] at CH
    have HCH := Lib.hid CH
    have hc256 : c ≤ 256 := by rw [hc, hL]; exact (cho_all _ hR8).2
    have hc1 : 1 ≤ c := by rw [hc, hL]; unfold choL; simp
    have hci : (c : Int) ≤ 256 := by omega
    have hci1 : (1 : Int) ≤ (c : Int) := by omega
    have HLM : Hid (leastTo S L (List.range S.f.t.R.length) 0 = leastC S) := Lib.hid (by
      have := leastTo_all HG.out (by rw [HNR.out]; exact HQ.out.symm) (by rw [HNR.out]; exact hR8)
      rw [hL, ← HNR.out]; exact this)
    have HLL : Hid (l = up (leastC S)) := Lib.hid (by rw [HL0.out, if_pos rfl])
    have HLD := Lib.hid hL
    have HCD := Lib.hid hc
    clear hL hc CH hB2 hbw hc256
    go_wp2_with fail
    first | (go_region_held3 (fun u => ((u.cell? ⟨w.heap.size, 0, none⟩ = some (.int .i64 S.n) ∧ u.cell? ⟨w.heap.size, 1, none⟩ = some (.slice S.f.t.a S.f.t.R.length S.f.t.c) ∧ u.cell? ⟨w.heap.size, 2, none⟩ = some (.slice S.f.o.a S.f.o.l.length S.f.o.c)) ∧ Below u2.heap.size u2 u)) (first | exact s2 | exact HS2.out _ (by assumption)) (first | (go_at_call 49; refine (show Calls _ _ _ _ _ from CA2.out _ hN2).mono ?_; rintro e u3 ⟨y0, rfl, hyl, hyo, hyi, hb3⟩; have HY0 := Lib.hid (And.intro hyl (And.intro hyo hyi)); have hB3 : Below u2.heap.size u2 u3 := hN2.trans (hb3.mono hszr2); have hsz3 := hB3.size; clear hyl hyo hyi hb3) | (go_at_call 38; refine (show Calls _ _ _ _ _ from HCH.out u3).mono ?_; rintro e u4 ⟨g, cap, Q, rfl, hT, hb4⟩; have HT := Lib.hid hT; have HB34 := Lib.hid hb4; have HB3S : Hid (u2.heap.size ≤ u3.heap.size) := Lib.hid hsz3; have hB4 : Below u2.heap.size u2 u4 := hB3.trans (hb4.mono hsz3); have HB4 := Lib.hid hB4; clear hb4 hT))) | fail
    have HQC : Hid (Q.length = c) := Lib.hid (by rw [HT.out.len, HCD.out, HLD.out])
    have hcapi : (c : Int) ≤ (cap : Int) := by have := HT.out.cap; have := HQC.out; omega
    have HBA4 : Hid (Below wA.heap.size wA u4) := Lib.hid (HB2.out.trans (HB4.out.mono HB2.out.size))
    have HYS : Hid (y0.l = up (List.range S.f.t.R.length) ∧ y0.Own 3 u4 ∧ y0.In w.heap.size u4.heap.size u4) := Lib.hid (by
      obtain ⟨h1, h2, h3⟩ := HY0.out
      exact ⟨h1, h2.on HB34.out, (h3.on HB34.out).wide (by have := HBW.out.size; have := hszr2; omega) HB34.out.size⟩)
    clear s2 hN2 hszr2 hB3 hsz3 hB4 z0 z1 z2
    go_wp2
    go_loopw [4, 6] (fun bv iv wr => ∃ (j : Nat) (y : Row), j ≤ c ∧ iv = .int .i64 ((j : Int) - 1) ∧ bv = .slice y.a y.l.length y.c ∧ Hid (y.l = up (leastTo S L (List.range S.f.t.R.length) j) ∧ y.Own 3 wr ∧ y.In w.heap.size wr.heap.size wr) ∧ Below u4.heap.size u4 wr) (fun _ iv _ => (intOf iv + 1).toNat)
    case atStart => exact ⟨c, y0, Nat.le_refl _, rfl, rfl, Lib.hid ⟨by rw [HYS.out.1]; congr 1; rw [HCD.out, leastTo_end], HYS.out.2.1, HYS.out.2.2⟩, Below.refl _ _⟩
    case round =>
      obtain ⟨j1, y, hj, hiv, rfl, HY2, hnx⟩ := hrel
      have HNX := Lib.hid hnx
      rcases Nat.eq_zero_or_pos j1 with rfl | hpos
      · rw [show ((0 : Nat) : Int) - 1 = -1 by rfl] at hiv
        subst hiv
        have HEND : Hid (PInts l true w (.returned (.tuple #[.slice y.a y.l.length y.c, .bool true])) wr) := Lib.hid
          ⟨y, rfl, by rw [HY2.out.1, HLL.out, HLM.out], HY2.out.2.1, HY2.out.2.2, HBW.out.trans ((HB4.out.trans (hnx.mono HB4.out.size)).mono HBW.out.size)⟩
        clear hnx
        go_wp2
        go_ret2
        exact HEND.out
      · obtain ⟨j, rfl⟩ : ∃ j, j1 = j + 1 := ⟨j1 - 1, by omega⟩
        rw [show ((j + 1 : Nat) : Int) - 1 = (j : Int) by push_cast; omega] at hiv
        subst hiv
        have hlt : j < c := by omega
        have hlti : (j : Int) < (c : Int) := by omega
        have hjQ : j < Q.length := by rw [HQC.out]; exact hlt
        have hjL : j < L.length := by rw [← HCD.out]; exact hlt
        obtain ⟨r, hr⟩ : ∃ r, r = Q[j] := ⟨_, rfl⟩
        obtain ⟨T, hTT⟩ : ∃ T, T = L[j] := ⟨_, rfl⟩
        obtain ⟨U, hU⟩ : ∃ U, U = leastTo S L (List.range S.f.t.R.length) (j + 1) := ⟨_, rfl⟩
        have hrl : r.l = up T := by
          rw [hr, hTT]
          have := HT.out.at hjQ (by rw [← HLD.out]; exact hjL)
          rw [this]; congr 1; simp only [HLD.out]
        have hrm : r ∈ Q := by rw [hr]; exact List.getElem_mem _
        have hcl : wr.cell? ⟨g, j, none⟩ = some (.slice r.a r.l.length r.c) := (hnx.cell (p := ⟨g, j, none⟩) HT.out.lt).trans (by rw [hr]; exact HT.out.cell j hjQ)
        have hok := cho_ok hR8 (show T ∈ choL S.f.t.R.length S.f.t.R.length by rw [hTT, ← HLD.out]; exact List.getElem_mem hjL)
        have hUok : setB S.f.t.R.length (up U) = true ∧ U.length ≤ 8 ∧ ∀ x ∈ U, x < S.f.t.R.length := by rw [hU, HLD.out]; exact leastTo_ok hR8 (j + 1)
        have hyl : y.l = up U := by rw [hU]; exact HY2.out.1
        obtain ⟨v, hv⟩ : ∃ v, v = covB S T := ⟨_, rfl⟩
        obtain ⟨zT, hzT⟩ : ∃ z, z = costT S T := ⟨_, rfl⟩
        obtain ⟨zU, hzU⟩ : ∃ z, z = costT S U := ⟨_, rfl⟩
        have HST : Hid (leastTo S L (List.range S.f.t.R.length) j = if v = true ∧ zT ≤ zU then T else U) := Lib.hid (by rw [leastTo_step S L _ hjL, ← hTT, ← hU, hv, hzT, hzU]; rfl)
        have HRR : Hid (∀ u, Below wr.heap.size wr u → r.l = up T ∧ r.Own 3 u ∧ r.In w.heap.size u.heap.size u) := Lib.hid fun u hu => by
          have hW := HNX.out.trans (hu.mono HNX.out.size)
          obtain ⟨h1, h2⟩ := HT.out.rows r hrm
          exact ⟨hrl, h2.on hW, (h1.on hW).wide (by have := HBW.out.size; have := HB4.out.size; have := HB34.out.size; have := HSZ.out; have := HB2.out.size; have := HB3S.out; omega) hW.size⟩
        have HYU : Hid (∀ u, Below wr.heap.size wr u → y.l = up U ∧ y.Own 3 u ∧ y.In w.heap.size u.heap.size u) := Lib.hid fun u hu => ⟨hyl, HY2.out.2.1.on hu, (HY2.out.2.2.on hu).wide (Nat.le_refl _) hu.size⟩
        have HBAr : Hid (Below wA.heap.size wA wr) := Lib.hid (HBA4.out.trans (hnx.mono HBA4.out.size))
        have C1 := Lib.hid (fun u (hu : Below wr.heap.size wr u) => by have := l6Cover_any S r T u (Sys.At.on (show S.At wA from HSA.out) (HBAr.out.trans (hu.mono HBAr.out.size))) (HRR.out u hu).2.2.at (good_row8 HG.out) hrl (by rw [HNR.out]; exact hok.2.2) hok.2.1; rw [← hv] at this; exact this : ∀ u, Below wr.heap.size wr u → Calls Try.prog 48 #[.agg #[.int .i64 S.n, .slice S.f.t.a S.f.t.R.length S.f.t.c, .slice S.f.o.a S.f.o.l.length S.f.o.c], .slice r.a r.l.length r.c] u fun e w' => e = .returned (.bool v) ∧ Below u.heap.size u w')
        have C2 := Lib.hid (fun u (hu : Below wr.heap.size wr u) => by have := l6Cost_any S r T u (Sys.At.on (show S.At wA from HSA.out) (HBAr.out.trans (hu.mono HBAr.out.size))) (HRR.out u hu).2.2.at ⟨HG.out, hrl, by rw [HNR.out]; exact hok.2.2, hok.2.1, by rw [HNR.out]; exact hok.1⟩; rw [← hzT] at this; exact this : ∀ u, Below wr.heap.size wr u → Calls Try.prog 50 #[.agg #[.int .i64 S.n, .slice S.f.t.a S.f.t.R.length S.f.t.c, .slice S.f.o.a S.f.o.l.length S.f.o.c], .slice r.a r.l.length r.c] u fun e w' => e = .returned (.int .i64 zT) ∧ Below u.heap.size u w')
        have C3 := Lib.hid (fun u (hu : Below wr.heap.size wr u) => by have := l6Cost_any S y U u (Sys.At.on (show S.At wA from HSA.out) (HBAr.out.trans (hu.mono HBAr.out.size))) (HYU.out u hu).2.2.at ⟨HG.out, hyl, by rw [HNR.out]; exact hUok.2.2, hUok.2.1, by rw [HNR.out]; exact hUok.1⟩; rw [← hzU] at this; exact this : ∀ u, Below wr.heap.size wr u → Calls Try.prog 50 #[.agg #[.int .i64 S.n, .slice S.f.t.a S.f.t.R.length S.f.t.c, .slice S.f.o.a S.f.o.l.length S.f.o.c], .slice y.a y.l.length y.c] u fun e w' => e = .returned (.int .i64 zU) ∧ Below u.heap.size u w')
        have HS3 : Hid (∀ u, Below wr.heap.size wr u → ((u.cell? ⟨g, j, none⟩ = some (.slice r.a r.l.length r.c) ∧ u.cell? ⟨w.heap.size, 0, none⟩ = some (.int .i64 S.n) ∧ u.cell? ⟨w.heap.size, 1, none⟩ = some (.slice S.f.t.a S.f.t.R.length S.f.t.c) ∧ u.cell? ⟨w.heap.size, 2, none⟩ = some (.slice S.f.o.a S.f.o.l.length S.f.o.c)) ∧ Below wr.heap.size wr u)) := Lib.hid fun u hu => by
          have hu2 := HBAr.out.trans (hu.mono HBAr.out.size)
          exact ⟨⟨(hu.cell (p := ⟨g, j, none⟩) (Nat.lt_of_lt_of_le HT.out.lt HNX.out.size)).trans hcl, (HS.out u hu2).1⟩, hu⟩
        have s3 := HS3.out wr.drew (Below.refl _ _).drew
        have hji : (0 : Int) ≤ (j : Int) := by omega
        clear hr hTT hU hrl hrm hcl hok hUok hyl hv hzT hzU hnx hlt hjQ hjL hpos hj
        have FIN : Hid (∀ W8, Below wr.heap.size wr W8 → v = true ∧ zT ≤ zU → Hid (r.l = up (leastTo S L (List.range S.f.t.R.length) j) ∧ r.Own 3 W8 ∧ r.In w.heap.size W8.heap.size W8)) := Lib.hid fun W8 h8 h => Lib.hid (by rw [HST.out, if_pos h]; exact HRR.out W8 h8)
        have FIU : Hid (∀ W8, Below wr.heap.size wr W8 → ¬ (v = true ∧ zT ≤ zU) → Hid (y.l = up (leastTo S L (List.range S.f.t.R.length) j) ∧ y.Own 3 W8 ∧ y.In w.heap.size W8.heap.size W8)) := Lib.hid fun W8 h8 h => Lib.hid (by rw [HST.out, if_neg h]; exact HYU.out W8 h8)
        cases v with
        | false =>
          go_wp2_with fail
          refine wp_region_held_drew (S := fun u => ((u.cell? ⟨g, j, none⟩ = some (.slice r.a r.l.length r.c) ∧ u.cell? ⟨w.heap.size, 0, none⟩ = some (.int .i64 S.n) ∧ u.cell? ⟨w.heap.size, 1, none⟩ = some (.slice S.f.t.a S.f.t.R.length S.f.t.c) ∧ u.cell? ⟨w.heap.size, 2, none⟩ = some (.slice S.f.o.a S.f.o.l.length S.f.o.c)) ∧ Below wr.heap.size wr u)) (by kernel_rfl) s3 (fun hHeld => ?_)
          refine wpAnyH_take (i := 0) (v := ?vv0) rfl (by kernel_rfl) (by kernel_rfl) (by kernel_rfl) (fun _ _ _ h => h) (Or.inl ⟨by rfl, ?hy0⟩) (by assumption) ?rest0
          case hy0 => (intro w hSw; (try dsimp only at hSw); (try simp only [List.getElem_toArray, List.getElem_cons_zero, List.getElem_cons_succ]); go_simp <;> with_reducible rfl)
          try simp only [Act.put, List.getElem_toArray, List.getElem_cons_zero, List.getElem_cons_succ, List.setIfInBounds_toArray, List.set_cons_zero, List.set_cons_succ]
          refine wpAnyH_take (i := 1) (v := ?vv1) rfl (by kernel_rfl) (by kernel_rfl) (by kernel_rfl) (fun _ _ _ h => h) (Or.inl ⟨by rfl, ?hy1⟩) (by assumption) ?rest1
          case hy1 => (intro w hSw; (try dsimp only at hSw); (try simp only [List.getElem_toArray, List.getElem_cons_zero, List.getElem_cons_succ]); go_simp <;> with_reducible rfl)
          try simp only [Act.put, List.getElem_toArray, List.getElem_cons_zero, List.getElem_cons_succ, List.setIfInBounds_toArray, List.set_cons_zero, List.set_cons_succ]
          refine wpAnyH_take (i := 2) (v := ?vv2) rfl (by kernel_rfl) (by kernel_rfl) (by kernel_rfl) (fun _ _ _ h => h) (Or.inl ⟨by rfl, ?hy2⟩) (by assumption) ?rest2
          case hy2 => (intro w hSw; (try dsimp only at hSw); (try simp only [List.getElem_toArray, List.getElem_cons_zero, List.getElem_cons_succ]); go_simp <;> with_reducible rfl)
          try simp only [Act.put, List.getElem_toArray, List.getElem_cons_zero, List.getElem_cons_succ, List.setIfInBounds_toArray, List.set_cons_zero, List.set_cons_succ]
          refine wpAnyH_take (i := 3) (v := ?vv3) rfl (by kernel_rfl) (by kernel_rfl) (by kernel_rfl) (fun _ _ _ h => h) (Or.inl ⟨by rfl, ?hy3⟩) (by assumption) ?rest3
          case hy3 => (intro w hSw; (try dsimp only at hSw); (try simp only [List.getElem_toArray, List.getElem_cons_zero, List.getElem_cons_succ]); go_simp <;> with_reducible rfl)
          try simp only [Act.put, List.getElem_toArray, List.getElem_cons_zero, List.getElem_cons_succ, List.setIfInBounds_toArray, List.set_cons_zero, List.set_cons_succ]
          refine wpAnyH_take (i := 4) (v := ?vv4) rfl (by kernel_rfl) (by kernel_rfl) (by kernel_rfl) (fun _ _ _ h => h) (Or.inl ⟨by rfl, ?hy4⟩) (by assumption) ?rest4
          case hy4 => (intro w hSw; (try dsimp only at hSw); (try simp only [List.getElem_toArray, List.getElem_cons_zero, List.getElem_cons_succ]); go_simp <;> with_reducible rfl)
          try simp only [Act.put, List.getElem_toArray, List.getElem_cons_zero, List.getElem_cons_succ, List.setIfInBounds_toArray, List.set_cons_zero, List.set_cons_succ]
          refine wpAnyH_ready (rs := [5]) (by kernel_rfl) (by simp) ?_
          refine AllReadyH.cons rfl (fun K hK => ?_) AllReadyH.nil
          try simp only [List.getElem_toArray, List.getElem_cons_zero, List.getElem_cons_succ]
          go_simp
          go_at_call 48
          refine (show Calls _ _ _ _ _ from C1.out _ (by first | assumption | exact And.right (by assumption))).mono ?_
          rintro e u1 ⟨rfl, hb1⟩
          have hB1 := keep_reg HS3.out (by first | assumption | exact And.right (by assumption)) hb1
          go_wp2_with fail
          refine hK.out _ _ hB1 (fun hHeld1 => ?_)
          clear hK
          try simp only [Act.put, List.getElem_toArray, List.getElem_cons_zero, List.getElem_cons_succ, List.setIfInBounds_toArray, List.set_cons_zero, List.set_cons_succ]
          refine wpAnyH_take (i := 6) (v := ?vv6) rfl (by kernel_rfl) (by kernel_rfl) (by kernel_rfl) (fun _ _ _ h => h) (Or.inl ⟨by rfl, ?hy6⟩) (by assumption) ?rest6
          case hy6 => (intro w hSw; (try dsimp only at hSw); (try simp only [List.getElem_toArray, List.getElem_cons_zero, List.getElem_cons_succ]); go_simp <;> with_reducible rfl)
          try simp only [Act.put, List.getElem_toArray, List.getElem_cons_zero, List.getElem_cons_succ, List.setIfInBounds_toArray, List.set_cons_zero, List.set_cons_succ]
          refine wpAnyH_take (i := 7) (v := undef) rfl (by kernel_rfl) (by kernel_rfl) (by kernel_rfl) (fun _ _ _ h => h) (Or.inr ⟨by rfl, rfl⟩) (by assumption) ?_
          try simp only [Act.put, List.getElem_toArray, List.getElem_cons_zero, List.getElem_cons_succ, List.setIfInBounds_toArray, List.set_cons_zero, List.set_cons_succ]
          refine wpAnyH_take (i := 8) (v := undef) rfl (by kernel_rfl) (by kernel_rfl) (by kernel_rfl) (fun _ _ _ h => h) (Or.inr ⟨by rfl, rfl⟩) (by assumption) ?_
          try simp only [Act.put, List.getElem_toArray, List.getElem_cons_zero, List.getElem_cons_succ, List.setIfInBounds_toArray, List.set_cons_zero, List.set_cons_succ]
          refine wpAnyH_take (i := 9) (v := undef) rfl (by kernel_rfl) (by kernel_rfl) (by kernel_rfl) (fun _ _ _ h => h) (Or.inr ⟨by rfl, rfl⟩) (by assumption) ?_
          try simp only [Act.put, List.getElem_toArray, List.getElem_cons_zero, List.getElem_cons_succ, List.setIfInBounds_toArray, List.set_cons_zero, List.set_cons_succ]
          refine wpAnyH_take (i := 10) (v := undef) rfl (by kernel_rfl) (by kernel_rfl) (by kernel_rfl) (fun _ _ _ h => h) (Or.inr ⟨by rfl, rfl⟩) (by assumption) ?_
          try simp only [Act.put, List.getElem_toArray, List.getElem_cons_zero, List.getElem_cons_succ, List.setIfInBounds_toArray, List.set_cons_zero, List.set_cons_succ]
          refine wpAnyH_take (i := 11) (v := undef) rfl (by kernel_rfl) (by kernel_rfl) (by kernel_rfl) (fun _ _ _ h => h) (Or.inr ⟨by rfl, rfl⟩) (by assumption) ?_
          try simp only [Act.put, List.getElem_toArray, List.getElem_cons_zero, List.getElem_cons_succ, List.setIfInBounds_toArray, List.set_cons_zero, List.set_cons_succ]
          refine wpAnyH_take (i := 12) (v := undef) rfl (by kernel_rfl) (by kernel_rfl) (by kernel_rfl) (fun _ _ _ h => h) (Or.inr ⟨by rfl, rfl⟩) (by assumption) ?_
          try simp only [Act.put, List.getElem_toArray, List.getElem_cons_zero, List.getElem_cons_succ, List.setIfInBounds_toArray, List.set_cons_zero, List.set_cons_succ]
          refine wpAnyH_take (i := 13) (v := undef) rfl (by kernel_rfl) (by kernel_rfl) (by kernel_rfl) (fun _ _ _ h => h) (Or.inr ⟨by rfl, rfl⟩) (by assumption) ?_
          try simp only [Act.put, List.getElem_toArray, List.getElem_cons_zero, List.getElem_cons_succ, List.setIfInBounds_toArray, List.set_cons_zero, List.set_cons_succ]
          refine wpAnyH_take (i := 14) (v := undef) rfl (by kernel_rfl) (by kernel_rfl) (by kernel_rfl) (fun _ _ _ h => h) (Or.inr ⟨by rfl, rfl⟩) (by assumption) ?_
          try simp only [Act.put, List.getElem_toArray, List.getElem_cons_zero, List.getElem_cons_succ, List.setIfInBounds_toArray, List.set_cons_zero, List.set_cons_succ]
          refine wpAnyH_take (i := 15) (v := undef) rfl (by kernel_rfl) (by kernel_rfl) (by kernel_rfl) (fun _ _ _ h => h) (Or.inr ⟨by rfl, rfl⟩) (by assumption) ?_
          try simp only [Act.put, List.getElem_toArray, List.getElem_cons_zero, List.getElem_cons_succ, List.setIfInBounds_toArray, List.set_cons_zero, List.set_cons_succ]
          refine wpAnyH_take (i := 16) (v := undef) rfl (by kernel_rfl) (by kernel_rfl) (by kernel_rfl) (fun _ _ _ h => h) (Or.inr ⟨by rfl, rfl⟩) (by assumption) ?_
          try simp only [Act.put, List.getElem_toArray, List.getElem_cons_zero, List.getElem_cons_succ, List.setIfInBounds_toArray, List.set_cons_zero, List.set_cons_succ]
          refine wpAnyH_take (i := 17) (v := ?vv17) rfl (by kernel_rfl) (by kernel_rfl) (by kernel_rfl) (fun _ _ _ h => h) (Or.inl ⟨by rfl, ?hy17⟩) (by assumption) ?rest17
          case hy17 => (intro w hSw; (try dsimp only at hSw); (try simp only [List.getElem_toArray, List.getElem_cons_zero, List.getElem_cons_succ]); go_simp <;> with_reducible rfl)
          try simp only [Act.put, List.getElem_toArray, List.getElem_cons_zero, List.getElem_cons_succ, List.setIfInBounds_toArray, List.set_cons_zero, List.set_cons_succ]
          refine wpAnyH_done (by kernel_rfl) ?_ _
          refine at_exit (W := wr) hB1.2 ?_
          intro W8 hb8
          have R1 := FIU.out W8 hb8 (fun h => Bool.noConfusion h.1)
          have R2 := HNX.out.trans (hb8.mono HNX.out.size)
          clear s3 hb8 hHeld hHeld1 hB1 hb1
          go_wp2
          go_roundw
          case rel => exact ⟨j, y, by omega, by go_num, rfl, R1, R2⟩
          case measure => simp [intOf] <;> omega
        | true =>
          by_cases hle : zT ≤ zU
          · go_wp2_with fail
            first | (go_region_held3 (fun u => ((u.cell? ⟨g, j, none⟩ = some (.slice r.a r.l.length r.c) ∧ u.cell? ⟨w.heap.size, 0, none⟩ = some (.int .i64 S.n) ∧ u.cell? ⟨w.heap.size, 1, none⟩ = some (.slice S.f.t.a S.f.t.R.length S.f.t.c) ∧ u.cell? ⟨w.heap.size, 2, none⟩ = some (.slice S.f.o.a S.f.o.l.length S.f.o.c)) ∧ Below wr.heap.size wr u)) (first | exact s3 | exact keep_reg HS3.out (by first | assumption | exact And.right (by assumption)) hb1) (first | (go_at_call 48; refine (show Calls _ _ _ _ _ from C1.out _ (by first | assumption | exact And.right (by assumption))).mono ?_; rintro e u1 ⟨rfl, hb1⟩) | (go_at_call 50; with_reducible change Calls _ _ #[_, .slice r.a _ _] _ _; refine (show Calls _ _ _ _ _ from C2.out _ (by first | assumption | exact And.right (by assumption))).mono ?_; rintro e u1 ⟨rfl, hb1⟩) | (go_at_call 50; with_reducible change Calls _ _ #[_, .slice y.a _ _] _ _; refine (show Calls _ _ _ _ _ from C3.out _ (by first | assumption | exact And.right (by assumption))).mono ?_; rintro e u1 ⟨rfl, hb1⟩))) | fail
            refine at_exit (W := wr) (by first | assumption | exact And.right (by assumption)) ?_
            intro W8 hb8
            have R1 := FIN.out W8 hb8 ⟨by first | rfl | trivial, hle⟩
            have R2 := HNX.out.trans (hb8.mono HNX.out.size)
            have hc8 : W8.cell? ⟨g, j, none⟩ = some (.slice r.a r.l.length r.c) := (HS3.out W8 hb8).1.1
            clear s3 hb8
            go_wp2
            go_roundw
            case rel => exact ⟨j, r, by omega, by go_num, rfl, R1, R2⟩
            case measure => simp [intOf] <;> omega
          · have hlef : decide (zT ≤ zU) = false := decide_eq_false hle
            go_wp2_with fail
            first | (go_region_held3 (fun u => ((u.cell? ⟨g, j, none⟩ = some (.slice r.a r.l.length r.c) ∧ u.cell? ⟨w.heap.size, 0, none⟩ = some (.int .i64 S.n) ∧ u.cell? ⟨w.heap.size, 1, none⟩ = some (.slice S.f.t.a S.f.t.R.length S.f.t.c) ∧ u.cell? ⟨w.heap.size, 2, none⟩ = some (.slice S.f.o.a S.f.o.l.length S.f.o.c)) ∧ Below wr.heap.size wr u)) (first | exact s3 | exact keep_reg HS3.out (by first | assumption | exact And.right (by assumption)) hb1) (first | (go_at_call 48; refine (show Calls _ _ _ _ _ from C1.out _ (by first | assumption | exact And.right (by assumption))).mono ?_; rintro e u1 ⟨rfl, hb1⟩) | (go_at_call 50; with_reducible change Calls _ _ #[_, .slice r.a _ _] _ _; refine (show Calls _ _ _ _ _ from C2.out _ (by first | assumption | exact And.right (by assumption))).mono ?_; rintro e u1 ⟨rfl, hb1⟩) | (go_at_call 50; with_reducible change Calls _ _ #[_, .slice y.a _ _] _ _; refine (show Calls _ _ _ _ _ from C3.out _ (by first | assumption | exact And.right (by assumption))).mono ?_; rintro e u1 ⟨rfl, hb1⟩))) | fail
            refine at_exit (W := wr) (by first | assumption | exact And.right (by assumption)) ?_
            intro W8 hb8
            have R1 := FIU.out W8 hb8 (fun h => absurd h.2 (by omega))
            have R2 := HNX.out.trans (hb8.mono HNX.out.size)
            clear s3 hb8
            go_wp2
            go_roundw
            case rel => exact ⟨j, y, by omega, by go_num, rfl, R1, R2⟩
            case measure => simp [intOf] <;> omega
end Go.Proofs.Ytbngmjmcmdfphaa

namespace Go.Proofs.Ytbngmjmcmdfphaa
open Go.RowKit Go.Shelf
attribute [local go_sem] Oper.semAt_some

/-- What the search holds between two rounds. -/
structure HoldsCover (B : Nat) (V w : World) (φ : List Nat → Int) (C : List (List Nat)) (k : Nat) (y : Row) (W : World) : Prop where
  b5 : Boxed W (B + 1 + 1) 23 (.slice y.a y.l.length y.c)
  b6 : Boxed W (B + 1 + 1 + 1) 3 (.int .i64 (if k = 0 then 9223372036854775807 else φ (firstE φ (C.take k))))
  b3 : W.heap[B]? = V.heap[B]?
  bl : Below B w W
  yl : y.l = up (firstE φ (C.take k))
  ge : y.Ge B
theorem HoldsCover.keep {B M : Nat} {V w : World} {φ : List Nat → Int} {C : List (List Nat)} {k : Nat} {y : Row} {A A' : World} (h : HoldsCover B V w φ C k y A) (hb : Below M A A') (hM : B + 1 + 1 + 1 + 1 ≤ M) : HoldsCover B V w φ C k y A' :=
  ⟨(hb.block _ (by omega)).trans h.b5, (hb.block _ (by omega)).trans h.b6, (hb.block _ (by omega)).trans h.b3, h.bl.trans (hb.mono (by omega)), h.yl, h.ge⟩

set_option maxRecDepth 100000 in
set_option maxHeartbeats 4000000 in
theorem firstCover_in (n : Nat) (hn : 4 ≤ n) (φ : List Nat → Int) (gf : Nat) (lb : Array Value) (C : List (List Nat)) (Bf p q : Nat) (w0 w : World) (hq : q ≤ w.heap.size)
    (eg : ∀ args w, (callFunc gf args).run Try.prog w = .ok (.enter gf args) w) (hseq : ListSeq Fence.wide (n - 1) Try.prog gf lb (C.map up) p q w0) (hb0 : Below w0.heap.size w0 w)
    (hcl : ∀ (k : Nat) (hk : k < C.length) (x : Row) (W : World), Below w.heap.size w W → x.At W → x.l = up C[k] → Calls Try.prog 31 #[.slice x.a x.l.length x.c, .pointer (some ⟨Bf, 0, none⟩)] W fun e w' => e = .returned (.int .i64 (φ C[k])) ∧ Below W.heap.size W w')
    (hφ : ∀ T ∈ C, -1000000 ≤ φ T ∧ φ T ≤ 1000000) :
    CallsIn Fence.wide n Try.prog 29 #[.func (.func gf) #[] lb, .func (.func 31) #[] #[.pointer (some ⟨Bf, 0, none⟩)]] w fun e w' => ∃ t : Row, e = .returned (.slice t.a t.l.length t.c) ∧ t.l = up (firstE φ C) ∧ t.Own 3 w' ∧ t.In w.heap.size w'.heap.size w' ∧ Below w.heap.size w w' := by
  have h1 : 1 ≤ n := by omega
  refine callsIn_of_wp_marks Try.func29 rfl trivial ?_ rfl
  simp only [Try.ntmps29, List.size_toArray, List.length_cons, List.length_nil, Nat.reduceAdd, Nat.reduceSub, Array.replicate_succ, Array.replicate_zero, List.push_toArray, List.append_toArray, List.nil_append, List.cons_append]
  gi_wp2
  obtain ⟨V, hV⟩ : ∃ V, (((w.alloc (.cells #[.func (.func 31) #[] #[.pointer (some ⟨Bf, 0, none⟩)]] 49)).alloc (.cells #[] 3)).alloc (.cells #[.slice (some ⟨w.heap.size + 1, 0, none⟩) 0 0] 23)).alloc (.cells #[.int .i64 9223372036854775807] 3) = V := ⟨_, rfl⟩
  have hBV : Below w.heap.size w V := by rw [← hV]; exact (((((Below.refl _ w).alloc (Nat.le_refl _) _).alloc (by simp) _).alloc (by simp; omega) _).alloc (by simp; omega) _)
  have szV : V.heap.size = w.heap.size + 1 + 1 + 1 + 1 := by rw [← hV]; simp only [World.size_alloc]
  have v3 : Boxed V w.heap.size 49 (.func (.func 31) #[] #[.pointer (some ⟨Bf, 0, none⟩)]) := by rw [← hV]; exact (((Boxed.new w 49 _).alloc _).alloc _).alloc _
  have v5 : Boxed V (w.heap.size + 1 + 1) 23 (.slice (some ⟨w.heap.size + 1, 0, none⟩) 0 0) := by
    rw [← hV]
    have := (Boxed.new ((w.alloc (.cells #[.func (.func 31) #[] #[.pointer (some ⟨Bf, 0, none⟩)]] 49)).alloc (.cells #[] 3)) 23 (.slice (some ⟨w.heap.size + 1, 0, none⟩) 0 0)).alloc (.cells #[.int .i64 9223372036854775807] 3)
    simp only [World.size_alloc] at this; exact this
  have v6 : Boxed V (w.heap.size + 1 + 1 + 1) 3 (.int .i64 9223372036854775807) := by
    rw [← hV]
    have := Boxed.new (((w.alloc (.cells #[.func (.func 31) #[] #[.pointer (some ⟨Bf, 0, none⟩)]] 49)).alloc (.cells #[] 3)).alloc (.cells #[.slice (some ⟨w.heap.size + 1, 0, none⟩) 0 0] 23)) 3 (.int .i64 9223372036854775807)
    simp only [World.size_alloc] at this; exact this
  have hOw : V.ownsRow (w.heap.size + 1) 3 1 (.slice (some ⟨w.heap.size + 1, 0, none⟩) 0 0) ([] : List Int).length (iv []) := by
    rw [← hV]
    have := ((empty_own (w.alloc (.cells #[.func (.func 31) #[] #[.pointer (some ⟨Bf, 0, none⟩)]] 49))).alloc (.cells #[.slice (some ⟨w.heap.size + 1, 0, none⟩) 0 0] 23)).alloc (.cells #[.int .i64 9223372036854775807] 3)
    simp only [World.size_alloc] at this; exact this
  rw [hV]
  clear hV
  obtain ⟨y0, hy0v, hy0l, hy0o, hy0i⟩ := row_of_own hOw
  have HV3 := Lib.hid v3.cell
  have hy0 : y0.Held V := ⟨hy0o, hy0i.wide (Nat.zero_le _) (Nat.le_refl _)⟩
  have HCLO := Lib.hid hcl
  have HCL : Hid ((C.map up).length = C.length) := Lib.hid (List.length_map _)
  have HCC := Lib.hid hφ
  have HEG := Lib.hid eg
  have HSQ := Lib.hid hseq
  have HSV := Lib.hid szV
  have hsv := hBV.size
  have HB0 := Lib.hid (hb0.trans (hBV.mono hb0.size))
  have hw0 := hb0.size
  have HY0V := Lib.hid hy0v
  have HY0L := Lib.hid hy0l
  clear hcl hφ eg hseq hOw hy0v hy0l
  refine wpIn_rangeLists (F := Fence.wide) rfl h1 (gf := gf) (lb := lb) rfl trivial HEG.out HSQ.out HB0.out rfl (w.heap.size + 1 + 1) (w.heap.size + 1 + 1 + 1 + 1) (.inr (by omega)) (by omega)
    (HoldsCover w.heap.size V w φ C) (fun k y A B h hb => h.keep hb (by omega)) y0 ⟨by rw [← HY0V.out]; exact v5, v6, rfl, hBV, HY0L.out, fun hl => absurd HY0L.out hl⟩ hy0
    (fun x => { tmps := #[.func (.func gf) #[] lb, .func (.func 31) #[] #[.pointer (some ⟨Bf, 0, none⟩)], undef, .pointer (some ⟨w.heap.size, 0, none⟩), .slice none 0 0, .pointer (some ⟨w.heap.size + 1 + 1, 0, none⟩), .pointer (some ⟨w.heap.size + 1 + 1 + 1, 0, none⟩), .slice x.a x.l.length x.c, undef, .slice (some ⟨w.heap.size + 1, 0, none⟩) 0 0, .func (.func gf) #[] lb, .slice x.a x.l.length x.c, undef, undef, undef, undef, undef, undef, undef, undef, undef], defers := [] }) ?assign ?body ?done
  case assign =>
    intro l x W K hK
    gi_wp2
    exact hK
  case body =>
    intro l k y x W hk hx hI hyH hxH hxI hsz
    have hkC : k < C.length := by rw [HCL.out] at hk; exact hk
    have hxC : x.l = up C[k] := by rw [hx, List.getElem_map]
    have hvb := HCC.out _ (List.getElem_mem hkC)
    obtain ⟨v, hv⟩ : ∃ v, v = φ C[k] := ⟨_, rfl⟩
    have CL := Lib.hid (by
      have := HCLO.out k hkC x W hI.bl hxH.2.at hxC
      rw [← hv] at this; exact this)
    have c3 : W.cell? ⟨w.heap.size, 0, none⟩ = some (.func (.func 31) #[] #[.pointer (some ⟨Bf, 0, none⟩)]) := (World.cell?_of_block (a := ⟨w.heap.size, 0, none⟩) hI.b3).trans HV3.out
    have HI := Lib.hid hI
    have HYH := Lib.hid hyH
    have HXH := Lib.hid hxH
    have HXI := Lib.hid hxI
    have HXC := Lib.hid hxC
    have HVV := Lib.hid hv
    rw [← hv] at hvb
    have hvM : v < 9223372036854775807 := by omega
    have hWsz : V.heap.size ≤ W.heap.size := hsz
    clear hx hI hyH hxH hxI hxC hv hsz
    gi_wp2
    refine ⟨trivial, fun _ => by omega, (callsIn_wide.2 CL.out).mono ?_⟩
    rintro e W2 ⟨rfl, hb2⟩
    have hI2 := HI.out.keep hb2 (by omega)
    have HI2 := Lib.hid hI2
    have c5 := hI2.b5.cell
    have c6 := hI2.b6.cell
    have f5 := hI2.b5.frozen
    have f6 := hI2.b6.frozen
    have HYL : Hid (y.l.length = (firstE φ (C.take k)).length) := Lib.hid (by rw [hI2.yl, up_length])
    have HB2 := Lib.hid hb2
    have hsz2 := hb2.size
    have HSTORE : Hid (firstE φ (C.take (k + 1)) = C[k] → ∀ W', W' = (W2.setCell ⟨w.heap.size + 1 + 1, 0, none⟩ (.slice x.a x.l.length x.c)).setCell ⟨w.heap.size + 1 + 1 + 1, 0, none⟩ (.int .i64 v) → RoundEnd (HoldsCover w.heap.size V w φ C) k y x (w.heap.size + 1 + 1) (w.heap.size + 1 + 1 + 1 + 1) W .normal { tmps := #[], defers := [] } W') := Lib.hid (fun hs W' hW' => by
      have t2 : Touch (w.heap.size + 1 + 1) (w.heap.size + 1 + 1 + 1 + 1) W2 W' := by
        rw [hW']; exact ((Touch.refl _ _ W2).set (Nat.le_refl _) (by omega) 0 _).set (by omega) (by omega) 0 _
      have hx2 := HXH.out.on hb2
      have hxi2 : x.In V.heap.size W2.heap.size W2 := (HXI.out.on hb2).wide (Nat.le_refl _) hb2.size
      refine ⟨(Touch.of_below hb2).trans t2, x, .inr rfl, ⟨?_, ?_, ?_, hI2.bl.trans (t2.below (by omega) (by omega)), by rw [hs]; exact HXC.out, fun hl a ha => by have := in_ge HXI.out hl a ha; omega⟩, hx2.1.touch hxi2 t2 (.inr (by omega)), ((hxi2.touch t2 (.inr (by omega))).wide (Nat.zero_le _) t2.size)⟩
      · rw [hW']
        exact (hI2.b5.set (.slice x.a x.l.length x.c)).kept (grownBy_setCell' _ (w.heap.size + 1 + 1 + 1) (.int .i64 v)) (by intro e; injection e with e; omega)
      · rw [hW', hs, if_neg (Nat.succ_ne_zero k), ← HVV.out]
        have h6 : Boxed (W2.setCell ⟨w.heap.size + 1 + 1, 0, none⟩ (.slice x.a x.l.length x.c)) (w.heap.size + 1 + 1 + 1) 3 _ := hI2.b6.kept (grownBy_setCell' _ (w.heap.size + 1 + 1) _) (by intro e; injection e with e; omega)
        exact h6.set (.int .i64 v)
      · exact (t2.block _ (by omega) (by omega)).trans hI2.b3)
    have HKEEP : Hid (firstE φ (C.take (k + 1)) = firstE φ (C.take k) → k ≠ 0 → RoundEnd (HoldsCover w.heap.size V w φ C) k y x (w.heap.size + 1 + 1) (w.heap.size + 1 + 1 + 1 + 1) W .normal { tmps := #[], defers := [] } W2) := Lib.hid (fun hs hk0 => by
      refine ⟨Touch.of_below hb2, y, .inl rfl, ⟨hI2.b5, ?_, hI2.b3, hI2.bl, by rw [hs]; exact hI2.yl, hI2.ge⟩, HYH.out.on hb2⟩
      have := hI2.b6
      rw [if_neg hk0] at this
      rw [hs, if_neg (Nat.succ_ne_zero k)]; exact this)
    clear hI2 hb2 c3
    by_cases hk0 : k = 0
    · rw [if_pos hk0] at c6
      have HS := Lib.hid (HSTORE.out (firstE_zero φ C hkC hk0) _ rfl)
      gi_wp2
      exact HS.out
    · rw [if_neg hk0] at c6
      obtain ⟨z, hz⟩ : ∃ z, z = φ (firstE φ (C.take k)) := ⟨_, rfl⟩
      rw [← hz] at c6
      have HZ := Lib.hid hz
      clear hz
      by_cases hvz : v < z
      · have HS := Lib.hid (HSTORE.out (by rw [firstE_step φ C hkC hk0]; unfold stepE; rw [if_pos (by rw [← HVV.out, ← HZ.out]; exact hvz)]) _ rfl)
        gi_wp2
        exact HS.out
      · have HS := Lib.hid (HKEEP.out (by rw [firstE_step φ C hkC hk0]; unfold stepE; rw [if_neg (by rw [← HVV.out, ← HZ.out]; exact hvz)]) hk0)
        gi_wp2
        exact HS.out
  case done =>
    intro D y W hD hI hyH hK
    have c5 := hI.b5.cell
    have HI := Lib.hid hI
    have HYH := Lib.hid hyH
    have hsv2 := HSV.out
    clear hI hyH
    gi_wp2
    refine ⟨by simp, .inl ⟨_, _, rfl, run_takeDeferred hK, ?_⟩⟩
    refine ⟨_, results_tmp rfl _ _ _, y, rfl, ?_, ?_, ?_, ?_⟩
    · have := HI.out.yl
      rw [HCL.out, List.take_length] at this; exact this
    · exact (held_put HYH.out _ hK rfl).1
    · exact held_in (held_put HYH.out _ hK rfl) HI.out.ge
    · exact HI.out.bl.trans (put_below _ (by omega))
end Go.Proofs.Ytbngmjmcmdfphaa

namespace Go.Proofs.Ytbngmjmcmdfphaa
open Go.RowKit Go.Shelf

set_option maxRecDepth 32000 in
set_option maxHeartbeats 600000 in
theorem leastPhi_any (S : Sys) (c : Row) (T : List Nat) (g : Nat) (w : World) (hS : S.At w) (bx : Box3 w g (.int .i64 S.n) (.slice S.f.t.a S.f.t.R.length S.f.t.c) (.slice S.f.o.a S.f.o.l.length S.f.o.c) 29) (hg : S.good = true) (hc : c.At w) (hcl : c.l = up T) (hlt : ∀ m ∈ T, m < S.f.t.con.length) (hfew : T.length ≤ 8) (hset : setB S.f.t.con.length (up T) = true) :
    Calls Try.prog 31 #[.slice c.a c.l.length c.c, .pointer (some ⟨g, 0, none⟩)] w fun e w' => e = .returned (.int .i64 (phiC S T)) ∧ Below w.heap.size w w' := by
  have x0 := bx.c0
  have x1 := bx.c1
  have x2 := bx.c2
  have HBX := Lib.hid bx
  obtain ⟨v, hv⟩ : ∃ v, v = covB S T := ⟨_, rfl⟩
  obtain ⟨z, hz⟩ : ∃ z, z = costT S T := ⟨_, rfl⟩
  have C1 := coversAll_any S c T w hS hc (good_row8 hg) hcl hlt hfew
  rw [← hv] at C1
  have C1' := Lib.hid C1
  have C2 := Lib.hid (fun u (hu : Below w.heap.size w u) => implCostOf_any S c u (hS.on hu) (hc.on hu) z true (.inr ⟨T, ⟨hg, hcl, hlt, hfew, hset⟩, by unfold twoS; rw [hg, hcl, hset]; rfl, hz, rfl⟩))
  have HE : Hid (phiC S T = if v = true then z else 793) := Lib.hid (by rw [hv, hz]; rfl)
  clear hS bx hg hc hcl hlt hfew hset hv hz C1
  go_enter Try.func31, Try.ntmps31
  go_wp2_with fail
  refine (show Calls _ _ _ _ _ from C1'.out).mono ?_
  rintro e W1 ⟨rfl, hb1⟩
  have y0 := (HBX.out.on hb1).c0
  have y1 := (HBX.out.on hb1).c1
  have y2 := (HBX.out.on hb1).c2
  clear x0 x1 x2
  cases v with
  | false =>
    go_wp2
    go_ret
    exact ⟨by rw [HE.out]; rfl, hb1⟩
  | true =>
    have C2' := Lib.hid (C2.out W1 hb1)
    have HB1 := Lib.hid hb1
    clear hb1
    go_wp2_with fail
    refine (show Calls _ _ _ _ _ from C2'.out).mono ?_
    rintro e W2 ⟨rfl, hb2⟩
    have HB2 := Lib.hid (HB1.out.trans (hb2.mono HB1.out.size))
    clear hb2
    go_wp2
    go_ret
    exact ⟨by rw [HE.out]; rfl, HB2.out⟩

theorem cho_self {n : Nat} (hn : n ≤ 8) {T : List Nat} (hT : T ∈ choL n (min n n)) : setB n (up T) = true ∧ T.length ≤ 8 ∧ ∀ x ∈ T, x < n := by rw [Nat.min_self] at hT; exact cho_ok hn hT

set_option maxHeartbeats 1000000 in
theorem hasCover_any (S : Sys) (w : World) (hS : S.At w) :
    Calls Try.prog 28 #[.agg #[.int .i64 S.n, .slice S.f.t.a S.f.t.R.length S.f.t.c, .slice S.f.o.a S.f.o.l.length S.f.o.c]] w fun e w' => e = .returned (.bool (hasC S)) ∧ Below w.heap.size w w' := by
  obtain ⟨wA, hA, hb, bx, hSA, hszA⟩ := laid_sys S w 29 hS
  have HS : Hid (∀ u, Below wA.heap.size wA u → ((u.cell? ⟨w.heap.size, 0, none⟩ = some (.int .i64 S.n) ∧ u.cell? ⟨w.heap.size, 1, none⟩ = some (.slice S.f.t.a S.f.t.R.length S.f.t.c) ∧ u.cell? ⟨w.heap.size, 2, none⟩ = some (.slice S.f.o.a S.f.o.l.length S.f.o.c)) ∧ Below wA.heap.size wA u)) := Lib.hid fun u hu => sys_cells bx u hu
  have hN : Below wA.heap.size wA wA.drew := (Below.refl _ _).drew
  have s0 := HS.out wA.drew hN
  have hszr := hN.size
  obtain ⟨v, hv⟩ : ∃ v, v = S.good := ⟨_, rfl⟩
  have C1 := Lib.hid (fun u (hu : Below wA.heap.size wA u) => by have := implIsSystem_any S u (Sys.At.on (show S.At wA from hSA) hu); rw [← hv] at this; exact this : ∀ u, Below wA.heap.size wA u → Calls Try.prog 40 #[.agg #[.int .i64 S.n, .slice S.f.t.a S.f.t.R.length S.f.t.c, .slice S.f.o.a S.f.o.l.length S.f.o.c]] u fun e w' => e = .returned (.bool v) ∧ Below u.heap.size u w')
  have HA := Lib.hid hA
  have HB := Lib.hid hb
  cases v with
  | false =>
    have HE : Hid (hasC S = false) := Lib.hid (by unfold hasC; rw [← hv]; rfl)
    have C1' := Lib.hid (C1.out wA.drew hN)
    have HNB : Hid (∀ u, Below wA.drew.heap.size wA.drew u → Below w.heap.size w u) := Lib.hid (fun u hu => hb.trans ((hN.trans (hu.mono hszr)).mono hb.size))
    obtain ⟨⟨z0, z1, z2⟩, -⟩ := s0
    have x0 := bx.c0
    have x1 := bx.c1
    have x2 := bx.c2
    clear hS hA bx hSA hv hszA hb hN hszr
    go_enter Try.func28, Try.ntmps28
    go_wp2_with fail
    rw [← HA.out]
    first | (go_region_law (first | (go_simp; go_at_call 40; refine (show Calls _ _ _ _ _ from C1'.out).mono ?_; rintro e u1 ⟨rfl, hb1⟩))) | fail
    all_goals
      have HBB := Lib.hid (HNB.out _ hb1)
      go_wp2
      go_ret
      exact ⟨by rw [HE.out]; rfl, HBB.out⟩
  | true =>
    have hg : S.good = true := hv.symm
    obtain ⟨-, -, -, hN8, -, -, -⟩ := good_n hg
    have hNR : S.f.t.con.length = S.f.t.R.length := con_length S.f.t
    have hR8 : S.f.t.R.length ≤ 8 := by omega
    have hRi : (S.f.t.R.length : Int) ≤ 8 := by omega
    obtain ⟨q, hq⟩ : ∃ q, q = covB S (List.range S.f.t.R.length) := ⟨_, rfl⟩
    have C2 := Lib.hid (fun u => E8.numbers_any S.f.t.R.length u hR8)
    have C3 := Lib.hid (fun u (hu : Below wA.heap.size wA u) (y : Row) (hy : y.At u) (hl : y.l = up (List.range S.f.t.R.length)) => by have := coversAll_any S y (List.range S.f.t.R.length) u (Sys.At.on (show S.At wA from hSA) hu) hy (good_row8 hg) hl (by rw [hNR]; intro m hm; exact List.mem_range.1 hm) (by rw [List.length_range]; exact hR8); rw [← hq] at this; exact this : ∀ u, Below wA.heap.size wA u → ∀ y : Row, y.At u → y.l = up (List.range S.f.t.R.length) → Calls Try.prog 32 #[.agg #[.int .i64 S.n, .slice S.f.t.a S.f.t.R.length S.f.t.c, .slice S.f.o.a S.f.o.l.length S.f.o.c], .slice y.a y.l.length y.c] u fun e w' => e = .returned (.bool q) ∧ Below u.heap.size u w')
    have HE : Hid (hasC S = q) := Lib.hid (by unfold hasC; rw [← hv, hNR, ← hq]; rfl)
    clear hS hA bx hSA hv hszA hb hg hq hNR hN8
    go_enter Try.func28, Try.ntmps28
    go_wp2_with fail
    rw [← HA.out]
    go_region_held3 (fun u => ((u.cell? ⟨w.heap.size, 0, none⟩ = some (.int .i64 S.n) ∧ u.cell? ⟨w.heap.size, 1, none⟩ = some (.slice S.f.t.a S.f.t.R.length S.f.t.c) ∧ u.cell? ⟨w.heap.size, 2, none⟩ = some (.slice S.f.o.a S.f.o.l.length S.f.o.c)) ∧ Below wA.heap.size wA u)) (first | exact s0 | exact HS.out _ (by assumption)) (first | (go_at_call 40; refine (show Calls _ _ _ _ _ from C1.out _ hN).mono ?_; rintro e u1 ⟨rfl, hb1⟩; have hB1 : Below wA.heap.size wA u1 := hN.trans (hb1.mono hszr); have hsz1 := hB1.size; clear hb1) | (go_at_call 51; refine (show Calls _ _ _ _ _ from C2.out u1).mono ?_; rintro e u2 ⟨y, rfl, hyl, -, hyi, hb2⟩; have HY := Lib.hid hyl; have HYI := Lib.hid hyi.at; have hB2 : Below wA.heap.size wA u2 := hB1.trans (hb2.mono hsz1); have hsz2 := hB2.size; clear hb2 hyl hyi) | (go_at_call 32; refine (show Calls _ _ _ _ _ from C3.out _ hB2 y HYI.out HY.out).mono ?_; rintro e u3 ⟨rfl, hb3⟩; have hB3 : Below wA.heap.size wA u3 := hB2.trans (hb3.mono hsz2); clear hb3))
    have HBB := Lib.hid (HB.out.trans (hB3.mono HB.out.size))
    go_wp2
    go_ret
    exact ⟨by rw [HE.out]; rfl, HBB.out⟩

set_option maxRecDepth 32000 in
set_option maxHeartbeats 2000000 in
theorem implLeastC_any (S : Sys) (w : World) (hS : S.At w) (l : List Int) (b : Bool) (hb0 : b = hasC S) (hl0 : l = if b then up (leastC S) else []) :
    Calls Try.prog 10 #[.agg #[.int .i64 S.n, .slice S.f.t.a S.f.t.R.length S.f.t.c, .slice S.f.o.a S.f.o.l.length S.f.o.c]] w (PInts l b w) := by
  obtain ⟨wA, hA, hb, bx, hSA, hszA⟩ := laid_sys S w 29 hS
  have x0 := bx.c0
  have x1 := bx.c1
  have x2 := bx.c2
  rw [hA] at x0 x1 x2
  have cg := hasCover_any S wA hSA
  rw [← hb0] at cg
  have CG := Lib.hid cg
  have HSA := Lib.hid hSA
  have HBX := Lib.hid bx
  have HA := Lib.hid hA
  have HB0 := Lib.hid hb0
  have HL0 := Lib.hid hl0
  clear hS hA bx hSA cg hb0 hl0
  unfold PInts
  go_enter Try.func10, Try.ntmps10
  go_wp2_with fail
  rw [← HA.out]
  refine (show Calls _ _ _ _ _ from CG.out).mono ?_
  rintro e W1 ⟨rfl, hb1⟩
  have hbw := hb.trans (hb1.mono hb.size)
  have HB1 := Lib.hid hb1
  clear x0 x1 x2
  cases b with
  | false =>
    have HEND : Hid (PInts l false w (.returned (.tuple #[.slice (some ⟨W1.heap.size, 0, none⟩) 0 0, .bool false])) (W1.alloc (.cells #[] 3))) := Lib.hid (by
      have : l = [] := HL0.out
      subst this
      exact ints_end rfl (empty_own W1) hbw.size (hbw.trans ((below_alloc W1 _).mono hbw.size)))
    go_wp2
    go_ret2
    exact HEND.out
  | true =>
    obtain ⟨hg, -⟩ := hasC_iff.1 HB0.out.symm
    obtain ⟨-, -, -, hN8, -, -, -⟩ := good_n hg
    have hNR : S.f.t.con.length = S.f.t.R.length := con_length S.f.t
    have y1 := (HBX.out.on HB1.out).c1
    have CC := Lib.hid (choicesUpTo_any S.f.t.R.length S.f.t.R.length W1)
    have HGD := Lib.hid hg
    have HLL : Hid (l = up (leastC S)) := Lib.hid (by rw [HL0.out, if_pos rfl])
    have hRi : (S.f.t.R.length : Int) ≤ 8 := by omega
    have hk8' : S.f.t.R.length ≤ 8 := by omega
    have HNR := Lib.hid hNR
    clear hg hb1 hNR
    go_wp2_with fail
    refine (show Calls _ _ _ _ _ from CC.out).mono ?_
    rintro e W2 ⟨Bs, Bk, rfl, HBS, HBK, hb2⟩
    have HB2 := Lib.hid (HB1.out.trans (hb2.mono HB1.out.size))
    have hbw2 := hbw.trans (hb2.mono hbw.size)
    have hls : Bs < W2.heap.size := World.block_lt_of_cell? W2 _ HBS.out
    have hlk : Bk < W2.heap.size := World.block_lt_of_cell? W2 _ HBK.out
    have hR8 : S.f.t.R.length ≤ 8 := by omega
    have CF := Lib.hid (callsIn_wide.1 (firstCover_in 8 (by omega) (phiC S) 52 #[.pointer (some ⟨Bs, 0, none⟩), .pointer (some ⟨Bk, 0, none⟩)] (choL S.f.t.R.length (min S.f.t.R.length S.f.t.R.length)) w.heap.size 0 W2.heap.size W2 W2 (Nat.le_refl _)
      (enters_of Try.func52 (by kernel_rfl) rfl) (choices_seqX 7 (by omega) Bs Bk S.f.t.R.length S.f.t.R.length W2 hR8 hk8' HBS.out HBK.out 0 W2.heap.size (Nat.zero_le _) hls (Nat.zero_le _) hlk).all (Below.refl _ _)
      (fun j hj x W hW hx hxl => by
        have hbW := HB2.out.trans (hW.mono HB2.out.size)
        have hok := (cho_self hR8 (List.getElem_mem hj)).2
        exact leastPhi_any S x _ w.heap.size W (Sys.At.on (show S.At wA from HSA.out) hbW) (HBX.out.on hbW) HGD.out hx hxl (by rw [HNR.out]; exact hok.2) hok.1 (by rw [HNR.out]; exact (cho_self hR8 (List.getElem_mem hj)).1))
      (fun T hT => by
        have hok := (cho_self hR8 hT).2
        have := phiC_bound HGD.out hok.1
        omega)))
    have HW2 := Lib.hid hbw2
    clear hb2 hbw hbw2 y1 hls hlk
    go_wp2_with fail
    refine (show Calls _ _ _ _ _ from CF.out).mono ?_
    rintro e W3 ⟨t, rfl, htl, hto, hti, hb3⟩
    have HEND : Hid (PInts l true w (.returned (.tuple #[.slice t.a t.l.length t.c, .bool true])) W3) := Lib.hid ⟨t, rfl, by rw [htl, HLL.out]; unfold leastC; rw [HNR.out, Nat.min_self], hto, hti.wide HW2.out.size (Nat.le_refl _), HW2.out.trans (hb3.mono HW2.out.size)⟩
    clear htl hto hti hb3
    go_wp2
    go_ret2
    exact HEND.out
end Go.Proofs.Ytbngmjmcmdfphaa

namespace Go.Proofs.Ytbngmjmcmdfphaa
open Go.RowKit Go.Shelf

set_option maxHeartbeats 1000000 in
theorem specLeastC_any (S : Sys) (w : World) (hS : S.At w) (l : List Int) (b : Bool) (hb0 : b = hasC S) (hl0 : l = if b then up (leastC S) else []) :
    Calls Try.prog 8 #[.agg #[.int .i64 S.n, .slice S.f.t.a S.f.t.R.length S.f.t.c, .slice S.f.o.a S.f.o.l.length S.f.o.c]] w (PInts l b w) := by
  obtain ⟨wA, hA, hb, bx, hSA, hszA⟩ := laid_sys S w 29 hS
  have x0 := bx.c0
  have x1 := bx.c1
  have x2 := bx.c2
  rw [hA] at x0 x1 x2
  obtain ⟨v, hv⟩ : ∃ v, v = S.good := ⟨_, rfl⟩
  have cg := l6Good_any S wA hSA
  rw [← hv] at cg
  have CG := Lib.hid cg
  have HSA := Lib.hid hSA
  have HBX := Lib.hid bx
  have HA := Lib.hid hA
  have HV := Lib.hid hv
  have HB0 := Lib.hid hb0
  have HL0 := Lib.hid hl0
  clear hS hA bx hSA cg hb0 hl0 hv hszA
  go_enter Try.func8, Try.ntmps8
  go_wp2_with fail
  rw [← HA.out]
  refine (show Calls _ _ _ _ _ from CG.out).mono ?_
  rintro e W1 ⟨rfl, hb1⟩
  have hbw := hb.trans (hb1.mono hb.size)
  have HB1 := Lib.hid hb1
  clear x0 x1 x2
  cases v with
  | false =>
    have HEND : Hid (PInts l b w (.returned (.tuple #[.slice (some ⟨W1.heap.size, 0, none⟩) 0 0, .bool false])) (W1.alloc (.cells #[] 3))) := Lib.hid (by
      have hbf : b = false := by rw [HB0.out]; unfold hasC; rw [← HV.out]; rfl
      subst hbf
      have : l = [] := HL0.out
      subst this
      exact ints_end rfl (empty_own W1) hbw.size (hbw.trans ((below_alloc W1 _).mono hbw.size)))
    clear hb1 hbw
    go_wp2
    go_ret2
    exact HEND.out
  | true =>
    have hbq : b = covB S (List.range S.f.t.R.length) := by rw [HB0.out]; unfold hasC; rw [← HV.out, con_length]; rfl
    have y0 := (HBX.out.on HB1.out).c0
    have y1 := (HBX.out.on HB1.out).c1
    have y2 := (HBX.out.on HB1.out).c2
    have CL := Lib.hid (l6Least_any S W1 (Sys.At.on (show S.At wA from HSA.out) hb1) HV.out.symm b hbq l HL0.out)
    have HBW := Lib.hid hbw
    clear hb1 hbw hbq
    go_wp2_with fail
    refine (show Calls _ _ _ _ _ from CL.out).mono ?_
    rintro e W2 ⟨t, rfl, htl, hto, hti, hb2⟩
    have HEND : Hid (PInts l b w (.returned (.tuple #[.slice t.a t.l.length t.c, .bool b])) W2) := Lib.hid ⟨t, rfl, htl, hto, hti.wide HBW.out.size (Nat.le_refl _), HBW.out.trans (hb2.mono HBW.out.size)⟩
    clear htl hto hti hb2
    go_wp2
    go_ret2
    exact HEND.out

theorem leastCover_pair (S : Sys) (_ : S.Small) : ∃ (l : List Int) (b : Bool) (_ : l.length ≤ 1048576),
    (∀ (G : Sys) (W : World), G.At W → G.Like S → Calls Try.prog 8 #[.agg #[.int .i64 G.n, .slice G.f.t.a G.f.t.R.length G.f.t.c, .slice G.f.o.a G.f.o.l.length G.f.o.c]] W (PInts l b W)) ∧
    (∀ (G : Sys) (W : World), G.At W → G.Like S → Calls Try.prog 10 #[.agg #[.int .i64 G.n, .slice G.f.t.a G.f.t.R.length G.f.t.c, .slice G.f.o.a G.f.o.l.length G.f.o.c]] W (PInts l b W)) := by
  refine ⟨if hasC S = true then up (leastC S) else [], hasC S, ?_, fun G W hG hl => specLeastC_any G W hG _ _ (hasC_like hl).symm (by rw [leastC_like hl]), fun G W hG hl => implLeastC_any G W hG _ _ (hasC_like hl).symm (by rw [leastC_like hl])⟩
  split
  · rename_i h
    obtain ⟨hg, -⟩ := hasC_iff.1 h
    obtain ⟨-, -, -, hN8, -, -, -⟩ := good_n hg
    have := leastC_len (S := S) hN8
    rw [up_length]; omega
  · simp
end Go.Proofs.Ytbngmjmcmdfphaa
