/- Both sides of VotesOf answer alike. Condition: the Field reads as such. -/
import Derived.Test.YtfiijfgclfoeoaaTakenSpec
import Derived.Test.YtfiijfgclfoeoaaWithin
namespace Go.Proofs.Ytfiijfgclfoeoaa
open Go.RowKit

def PInt2 (n m : Int) (b : Bool) (W : World) (e : Ending) (w' : World) : Prop := e = .returned (.tuple #[.int .i64 n, .int .i64 m, .bool b]) ∧ Below W.heap.size W w'

/-- Whether VotesOf is asked well. -/
def voteB (F : Fld) (a b : Int) : Bool := F.good && (upTo ((F.o.l.length : Int) - 1) a && upTo ((F.o.l.length : Int) - 1) b)
theorem voteB_like {F G : Fld} (h : G.Like F) (a b : Int) : voteB G a b = voteB F a b := by unfold voteB; rw [h.good, h.1]
theorem voteB_nat {F : Fld} {a b : Int} (h : voteB F a b = true) : F.good = true ∧ ∃ i j : Nat, a = (i : Int) ∧ b = (j : Int) ∧ i < F.o.l.length ∧ j < F.o.l.length := by
  unfold voteB at h
  simp only [Bool.and_eq_true, upTo_iff] at h
  obtain ⟨hg, ⟨h1, h2⟩, h3, h4⟩ := h
  exact ⟨hg, a.toNat, b.toNat, by omega, by omega, by omega, by omega⟩
def Votes (F : Fld) (a b : Int) (v v2 : Int) (c : Bool) : Prop :=
  (voteB F a b = false ∧ v = 0 ∧ v2 = 0 ∧ c = false) ∨ (voteB F a b = true ∧ v = (votes F.t.con a.toNat b.toNat : Nat) ∧ v2 = (votes F.t.con b.toNat a.toNat : Nat) ∧ c = true)
theorem votes_like {F G : Fld} (h : G.Like F) {a b v v2 : Int} {c : Bool} (hv : Votes F a b v v2 c) : Votes G a b v v2 c := by
  unfold Votes at *; rw [voteB_like h, h.2]; exact hv
theorem votes_some (F : Fld) (a b : Int) : ∃ (v v2 : Int) (c : Bool), Votes F a b v v2 c := by
  cases h : voteB F a b with
  | false => exact ⟨0, 0, false, .inl ⟨h, rfl, rfl, rfl⟩⟩
  | true => exact ⟨_, _, true, .inr ⟨h, rfl, rfl, rfl⟩⟩

set_option maxHeartbeats 1000000 in
theorem votesFor_any (F : Fld) (a b : Nat) (w : World) (hF : F.At w) (hg : F.good = true) (ha : a < F.o.l.length) (hb : b < F.o.l.length) :
    Calls Try.prog 34 #[.agg #[.slice F.o.a F.o.l.length F.o.c, .slice F.t.a F.t.R.length F.t.c], .int .i64 (a : Int), .int .i64 (b : Int)] w fun e w' => e = .returned (.int .i64 ((votes F.t.con a b : Nat) : Int)) ∧ Below w.heap.size w w' := by
  obtain ⟨wA, hA, hbA, bx, hFA, hszA⟩ := laid_fld F w 29 hF
  obtain ⟨wB, hB⟩ : ∃ u, u = wA.alloc (.cells #[.int .i64 (b : Int)] 3) := ⟨_, rfl⟩
  obtain ⟨wC, hC⟩ : ∃ u, u = wB.alloc (.cells #[.int .i64 (a : Int)] 3) := ⟨_, rfl⟩
  have hbB : Below wA.heap.size wA wB := by rw [hB]; exact below_alloc _ _
  have hszB : wB.heap.size = w.heap.size + 1 + 1 := by rw [hB, size_alloc, hszA]
  have hbC : Below wB.heap.size wB wC := by rw [hC]; exact below_alloc _ _
  have hszC : wC.heap.size = w.heap.size + 1 + 1 + 1 := by rw [hC, size_alloc, hszB]
  have cb : wB.cell? ⟨w.heap.size + 1, 0, none⟩ = some (.int .i64 (b : Int)) := by rw [hB, ← hszA]; simp
  have cbC := (hbC.cell (p := ⟨w.heap.size + 1, 0, none⟩) (by show w.heap.size + 1 < _; omega)).trans cb
  have ca : wC.cell? ⟨w.heap.size + 1 + 1, 0, none⟩ = some (.int .i64 (a : Int)) := by rw [hC, ← hszB]; simp
  have rowb : Row.At wC ⟨some ⟨w.heap.size + 1, 0, none⟩, 1, up [b]⟩ := ⟨by simp [iv, up], (show 1 ≤ maxLen by decide), .inr ⟨w.heap.size + 1, 0, rfl, by omega, fun j x hj => by
    have hj1 : j < 1 := by have := (List.getElem?_eq_some_iff.1 hj).1; simpa [iv, up] using this
    obtain rfl : j = 0 := by omega
    rw [show x = .int .i64 (b : Int) by simpa [iv, up] using hj.symm]; exact cbC⟩⟩
  have rowa : Row.At wC ⟨some ⟨w.heap.size + 1 + 1, 0, none⟩, 1, up [a]⟩ := ⟨by simp [iv, up], (show 1 ≤ maxLen by decide), .inr ⟨w.heap.size + 1 + 1, 0, rfl, by omega, fun j x hj => by
    have hj1 : j < 1 := by have := (List.getElem?_eq_some_iff.1 hj).1; simpa [iv, up] using this
    obtain rfl : j = 0 := by omega
    rw [show x = .int .i64 (a : Int) by simpa [iv, up] using hj.symm]; exact ca⟩⟩
  have hbw : Below w.heap.size w wC := (hbA.trans (hbB.mono hbA.size)).trans (hbC.mono (by omega))
  have CC := Lib.hid (takenFrom_any F ⟨some ⟨w.heap.size + 1, 0, none⟩, 1, up [b]⟩ ⟨some ⟨w.heap.size + 1 + 1, 0, none⟩, 1, up [a]⟩ [b] [a] wC (hF.on hbw) hg rowb rfl (by simp) (by simpa using hb) rowa rfl (by simpa using ha))
  have HW : Hid (wC = ((w.alloc (Obj.cells #[.slice F.o.a F.o.l.length F.o.c, .slice F.t.a F.t.R.length F.t.c] 29)).alloc (.cells #[.int .i64 (b : Int)] 3)).alloc (.cells #[.int .i64 (a : Int)] 3)) := Lib.hid (by rw [hC, hB, hA]; rfl)
  have x0 := bx.c0
  have x1 := bx.c1
  rw [hA] at x0 x1
  have HBW := Lib.hid hbw
  have hvl : Hid (((votes F.t.con a b : Nat) : Int) ≤ 7 ∧ (taken F.t.con [b] [a]).length = votes F.t.con a b) := Lib.hid ⟨by have := votes_le F.t.con a b; rw [con_length] at this; have := good_sizes hg; omega, rfl⟩
  clear hA hB hC hbA hszA hbB hszB hbC hszC bx cb cbC ca rowb rowa hbw hF hg ha hb hFA
  go_enter Try.func34, Try.ntmps34
  go_wp2_with fail
  rw [← HW.out]
  refine (show Calls _ _ _ _ _ from CC.out).mono ?_
  rintro e W1 ⟨y, rfl, hyl, hyo, hyi, hb1⟩
  have HYL : Hid (y.l.length = votes F.t.con a b) := Lib.hid (by rw [hyl]; exact hvl.out.2)
  have HB := Lib.hid (HBW.out.trans (hb1.mono HBW.out.size))
  clear hyl hyo hyi hb1 x0 x1
  go_wp2
  go_ret
  exact ⟨by rw [← HYL.out]; rfl, HB.out⟩

set_option maxRecDepth 8000 in
set_option maxHeartbeats 1500000 in
theorem implVotes_any (F : Fld) (a b : Int) (w : World) (hF : F.At w) (v v2 : Int) (c : Bool) (hv : Votes F a b v v2 c) :
    Calls Try.prog 11 #[.agg #[.slice F.o.a F.o.l.length F.o.c, .slice F.t.a F.t.R.length F.t.c], .int .i64 a, .int .i64 b] w (PInt2 v v2 c w) := by
  obtain ⟨wA, hA, hbA, bx, hFA, hszA⟩ := laid_fld F w 29 hF
  have HBX := Lib.hid bx
  have HA := Lib.hid hA
  have HFA := Lib.hid hFA
  have HBA := Lib.hid hbA
  obtain ⟨g, hg⟩ : ∃ g, g = F.good := ⟨_, rfl⟩
  have CG := implIsField_any F wA hFA
  rw [← hg] at CG
  have CG1 := Lib.hid CG
  have HG := Lib.hid hg
  have x0 := bx.c0
  have x1 := bx.c1
  rw [hA] at x0 x1
  have HOI : Hid ((F.o.l.length : Int) ≤ 9223372036854775807) := Lib.hid (by obtain ⟨q1, q2, _⟩ := hF.1; rw [iv_length] at q1; unfold maxLen at q2; omega)
  obtain ⟨n, hn⟩ : ∃ n, n = F.o.l.length := ⟨_, rfl⟩
  have HN := Lib.hid hn
  have hni : (n : Int) ≤ 9223372036854775807 := by rw [hn]; exact HOI.out
  have HV : Hid (voteB F a b = (g && ([a, b].all (upTo ((n : Int) - 1))))) := Lib.hid (by rw [hg, hn]; unfold voteB; simp)
  have HVV := Lib.hid hv
  have x0' : (w.alloc (Obj.cells #[.slice F.o.a n F.o.c, .slice F.t.a F.t.R.length F.t.c] 29)).cell? ⟨w.heap.size, 0, none⟩ = some (.slice F.o.a n F.o.c) := by rw [hn]; exact x0
  have x1' : (w.alloc (Obj.cells #[.slice F.o.a n F.o.c, .slice F.t.a F.t.R.length F.t.c] 29)).cell? ⟨w.heap.size, 1, none⟩ = some (.slice F.t.a F.t.R.length F.t.c) := by rw [hn]; exact x1
  clear hF hA hbA bx hFA hszA hg CG hn hv x0 x1
  show Calls _ _ _ w fun e w' => e = .returned (.tuple #[.int .i64 v, .int .i64 v2, .bool c]) ∧ Below w.heap.size w w'
  rw [show F.o.l.length = n from HN.out.symm]
  have HA1 : Hid (wA = w.alloc (Obj.cells #[.slice F.o.a n F.o.c, .slice F.t.a F.t.R.length F.t.c] 29)) := Lib.hid (by rw [HN.out]; exact HA.out)
  go_enter Try.func11, Try.ntmps11
  go_wp2_with fail
  rw [← HA1.out]
  have CG2 := Lib.hid (by have := CG1.out; unfold Fld.val Row.val Tab.val at this; rw [show F.o.l.length = n from HN.out.symm] at this; exact this)
  refine (show Calls _ _ _ _ _ from CG2.out).mono ?_
  rintro e W1 ⟨rfl, hb1⟩
  have HB1 := Lib.hid hb1
  have HBW1 := Lib.hid (HBA.out.trans (hb1.mono HBA.out.size))
  clear hb1 x0' x1'
  cases g with
  | false =>
    have HE : Hid (v = 0 ∧ v2 = 0 ∧ c = false) := Lib.hid (by
      rcases HVV.out with h | h
      · exact h.2
      · rw [HV.out] at h; exact absurd h.1 (by simp))
    obtain ⟨rfl, rfl, rfl⟩ := HE.out
    go_wp2
    go_ret3
    exact ⟨rfl, HBW1.out⟩
  | true =>
    have hn1 : 1 ≤ n ∧ n ≤ 7 := by have := good_sizes HG.out.symm; rw [← HN.out] at this; omega
    have hn7 : (n : Int) ≤ 7 := by omega
    have hn0 : 1 ≤ (n : Int) := by omega
    have y0 : W1.cell? ⟨w.heap.size, 0, none⟩ = some (.slice F.o.a n F.o.c) := by rw [HN.out]; exact (HBX.out.on HB1.out).c0
    obtain ⟨W2, hW2⟩ : ∃ u, u = W1.alloc (.cells #[.int .i64 a, .int .i64 b] 3) := ⟨_, rfl⟩
    have hb2 : Below W1.heap.size W1 W2 := by rw [hW2]; exact below_alloc _ _
    have hrow : Row.At W2 ⟨some ⟨W1.heap.size, 0, none⟩, 2, [a, b]⟩ := ⟨by simp [iv], (show 2 ≤ maxLen by decide), .inr ⟨W1.heap.size, 0, rfl, by rw [hW2, size_alloc]; omega, fun j x hj => by
      have hj1 : j < 2 := by have := (List.getElem?_eq_some_iff.1 hj).1; simpa [iv] using this
      have hbx : Box2 W2 W1.heap.size (.int .i64 a) (.int .i64 b) 3 := by rw [hW2]; exact Box2.made _ _ _ _
      match j, hj1 with
      | 0, _ => rw [show x = .int .i64 a by simpa [iv] using hj.symm]; exact hbx.c0
      | 1, _ => rw [show x = .int .i64 b by simpa [iv] using hj.symm]; exact hbx.c1⟩⟩
    have CW := allWithinM_any ((n : Int) - 1) ⟨some ⟨W1.heap.size, 0, none⟩, 2, [a, b]⟩ W2 hrow
    obtain ⟨q, hq⟩ : ∃ q, q = [a, b].all (upTo ((n : Int) - 1)) := ⟨_, rfl⟩
    have CW1 : Hid (Calls Try.prog 33 #[.slice (some ⟨W1.heap.size, 0, none⟩) 2 2, .int .i64 ((n : Int) - 1)] W2 fun e w' => e = .returned (.bool q) ∧ Below W2.heap.size W2 w') := Lib.hid (by rw [hq]; exact CW)
    have HQ := Lib.hid hq
    have HW2 := Lib.hid hW2
    have y0' : W2.cell? ⟨w.heap.size, 0, none⟩ = some (.slice F.o.a n F.o.c) := by rw [HN.out]; exact ((HBX.out.on HB1.out).on hb2).c0
    rw [hW2] at y0'
    have HB2 := Lib.hid hb2
    clear hb2 hrow CW hq hW2
    go_wp2_with fail
    rw [← HW2.out]
    refine (show Calls _ _ _ _ _ from CW1.out).mono ?_
    rintro e W3 ⟨rfl, hb3⟩
    have HB13 := Lib.hid (HB2.out.trans (hb3.mono HB2.out.size))
    clear hb3 y0 y0'
    have HBW3 := Lib.hid (HBW1.out.trans (HB13.out.mono HBW1.out.size))
    cases q with
    | false =>
      have HE : Hid (v = 0 ∧ v2 = 0 ∧ c = false) := Lib.hid (by
        rcases HVV.out with h | h
        · exact h.2
        · rw [HV.out, ← HQ.out] at h; exact absurd h.1 (by simp))
      obtain ⟨rfl, rfl, rfl⟩ := HE.out
      go_wp2
      go_ret3
      exact ⟨rfl, HBW3.out⟩
    | true =>
      have HE : Hid (voteB F a b = true ∧ v = (votes F.t.con a.toNat b.toNat : Nat) ∧ v2 = (votes F.t.con b.toNat a.toNat : Nat) ∧ c = true) := Lib.hid (by
        rcases HVV.out with h | h
        · rw [HV.out, ← HQ.out] at h; exact absurd h.1 (by simp)
        · exact h)
      obtain ⟨hvb, rfl, rfl, rfl⟩ := HE.out
      obtain ⟨hgd, i, j, rfl, rfl, hi, hj⟩ := voteB_nat hvb
      have HBA3 := Lib.hid (HB1.out.trans (HB13.out.mono HB1.out.size))
      obtain ⟨p, hp⟩ : ∃ p, p = ((votes F.t.con i j : Nat) : Int) := ⟨_, rfl⟩
      obtain ⟨r, hr⟩ : ∃ p, p = ((votes F.t.con j i : Nat) : Int) := ⟨_, rfl⟩
      have C1 := Lib.hid (fun u (hu : Below W3.heap.size W3 u) => by have := votesFor_any F i j u ((HFA.out.on HBA3.out).on hu) hgd hi hj; rw [← hp, ← HN.out] at this; exact this)
      have C2 := Lib.hid (fun u (hu : Below W3.heap.size W3 u) => by have := votesFor_any F j i u ((HFA.out.on HBA3.out).on hu) hgd hj hi; rw [← hr, ← HN.out] at this; exact this)
      have hbx3 := HBX.out.on HBA3.out
      have HS : Hid (∀ u, Below W3.heap.size W3 u → ((u.cell? ⟨w.heap.size, 0, none⟩ = some (.slice F.o.a n F.o.c) ∧ u.cell? ⟨w.heap.size, 1, none⟩ = some (.slice F.t.a F.t.R.length F.t.c)) ∧ Below W3.heap.size W3 u)) := Lib.hid fun u hu => ⟨⟨by rw [HN.out]; exact (hbx3.on hu).c0, (hbx3.on hu).c1⟩, hu⟩
      have s0 := HS.out W3.drew (Below.refl _ _).drew
      have hszB3 := HBW3.out.size
      have HP : Hid (((votes F.t.con (i : Int).toNat (j : Int).toNat : Nat) : Int) = p) := Lib.hid (by rw [Int.toNat_natCast, Int.toNat_natCast, hp])
      have HR : Hid (((votes F.t.con (j : Int).toNat (i : Int).toNat : Nat) : Int) = r) := Lib.hid (by rw [Int.toNat_natCast, Int.toNat_natCast, hr])
      clear hp hr hvb hgd hi hj hbx3
      go_wp2
      go_region_held3 (fun u => ((u.cell? ⟨w.heap.size, 0, none⟩ = some (.slice F.o.a n F.o.c) ∧ u.cell? ⟨w.heap.size, 1, none⟩ = some (.slice F.t.a F.t.R.length F.t.c)) ∧ Below W3.heap.size W3 u)) (first | exact s0 | exact keep_reg HS.out (by first | assumption | exact And.right (by assumption)) hb1) (first | (go_at_call 34; with_reducible change Calls _ _ #[_, .int .i64 (i : Int), .int .i64 (j : Int)] _ _; refine (show Calls _ _ _ _ _ from C1.out _ (by first | assumption | exact And.right (by assumption))).mono ?_; rintro e u1 ⟨rfl, hb1⟩) | (go_at_call 34; with_reducible change Calls _ _ #[_, .int .i64 (j : Int), .int .i64 (i : Int)] _ _; refine (show Calls _ _ _ _ _ from C2.out _ (by first | assumption | exact And.right (by assumption))).mono ?_; rintro e u1 ⟨rfl, hb1⟩))
      refine at_exit (W := W3) (by first | assumption | exact And.right (by assumption)) ?_
      intro W8 hb8
      go_wp2
      go_ret3
      exact ⟨by rw [HP.out, HR.out]; rfl, HBW3.out.trans (hb8.mono hszB3)⟩

set_option maxRecDepth 8000 in
set_option maxHeartbeats 1500000 in
theorem specVotes_any (F : Fld) (a b : Int) (w : World) (hF : F.At w) (v v2 : Int) (c : Bool) (hv : Votes F a b v v2 c) :
    Calls Try.prog 9 #[.agg #[.slice F.o.a F.o.l.length F.o.c, .slice F.t.a F.t.R.length F.t.c], .int .i64 a, .int .i64 b] w (PInt2 v v2 c w) := by
  obtain ⟨wA, hA, hbA, bx, hFA, hszA⟩ := laid_fld F w 29 hF
  have HBX := Lib.hid bx
  have HFA := Lib.hid hFA
  have HBA := Lib.hid hbA
  obtain ⟨g, hg⟩ : ∃ g, g = F.good := ⟨_, rfl⟩
  have HG := Lib.hid hg
  obtain ⟨n, hn⟩ : ∃ n, n = F.o.l.length := ⟨_, rfl⟩
  have HN := Lib.hid hn
  have hni : (n : Int) ≤ 9223372036854775807 := by rw [hn]; obtain ⟨q1, q2, _⟩ := hF.1; rw [iv_length] at q1; unfold maxLen at q2; omega
  have CG := l2Good_any F wA hFA
  have CG1 := Lib.hid (by have := CG; unfold Fld.val Row.val Tab.val at this; rw [← hg, ← hn] at this; exact this)
  have CI := Lib.hid (fun x W => l1In_any x 0 ((n : Int) - 1) W)
  have HV : Hid (voteB F a b = (g && ((decide (0 ≤ a) && decide (a ≤ (n : Int) - 1)) && (decide (0 ≤ b) && decide (b ≤ (n : Int) - 1))))) := Lib.hid (by rw [hg, hn]; rfl)
  have HVV := Lib.hid hv
  have x0 := bx.c0
  have x1 := bx.c1
  have HA1 : Hid (wA = w.alloc (Obj.cells #[.slice F.o.a n F.o.c, .slice F.t.a F.t.R.length F.t.c] 29)) := Lib.hid (by rw [hn]; exact hA)
  rw [hA] at x0 x1
  have x0' : (w.alloc (Obj.cells #[.slice F.o.a n F.o.c, .slice F.t.a F.t.R.length F.t.c] 29)).cell? ⟨w.heap.size, 0, none⟩ = some (.slice F.o.a n F.o.c) := by rw [hn]; exact x0
  have x1' : (w.alloc (Obj.cells #[.slice F.o.a n F.o.c, .slice F.t.a F.t.R.length F.t.c] 29)).cell? ⟨w.heap.size, 1, none⟩ = some (.slice F.t.a F.t.R.length F.t.c) := by rw [hn]; exact x1
  show Calls _ _ _ w fun e w' => e = .returned (.tuple #[.int .i64 v, .int .i64 v2, .bool c]) ∧ Below w.heap.size w w'
  rw [show F.o.l.length = n from hn.symm]
  clear hF hA hbA bx hFA hszA hg CG hn hv x0 x1
  have HE0 : Hid (voteB F a b = false → v = 0 ∧ v2 = 0 ∧ c = false) := Lib.hid (fun h0 => by
    rcases HVV.out with h | h
    · exact h.2
    · rw [h0] at h; exact absurd h.1 (by simp))
  go_enter Try.func9, Try.ntmps9
  go_wp2_with fail
  rw [← HA1.out]
  refine (show Calls _ _ _ _ _ from CG1.out).mono ?_
  rintro e W1 ⟨rfl, hb1⟩
  have HB1 := Lib.hid hb1
  have HBW1 := Lib.hid (HBA.out.trans (hb1.mono HBA.out.size))
  clear hb1 x0' x1'
  cases g with
  | false =>
    obtain ⟨rfl, rfl, rfl⟩ := HE0.out (by rw [HV.out]; rfl)
    go_wp2
    go_ret3
    exact ⟨rfl, HBW1.out⟩
  | true =>
    have hn1 : 1 ≤ n ∧ n ≤ 7 := by have := good_sizes HG.out.symm; rw [← HN.out] at this; omega
    have hn7 : (n : Int) ≤ 7 := by omega
    have hn0 : 1 ≤ (n : Int) := by omega
    have y0 : W1.cell? ⟨w.heap.size, 0, none⟩ = some (.slice F.o.a n F.o.c) := by rw [HN.out]; exact (HBX.out.on HB1.out).c0
    obtain ⟨p, hp⟩ : ∃ p, p = (decide (0 ≤ a) && decide (a ≤ (n : Int) - 1)) := ⟨_, rfl⟩
    obtain ⟨q, hq⟩ : ∃ p, p = (decide (0 ≤ b) && decide (b ≤ (n : Int) - 1)) := ⟨_, rfl⟩
    have CA := Lib.hid (fun W => by have := CI.out a W; rw [← hp] at this; exact this)
    have CB := Lib.hid (fun W => by have := CI.out b W; rw [← hq] at this; exact this)
    rw [← hp, ← hq] at HV
    clear hp hq
    go_wp2_with fail
    refine (show Calls _ _ _ _ _ from CA.out _).mono ?_
    rintro e W2 ⟨rfl, rfl⟩
    cases p with
    | false =>
      obtain ⟨rfl, rfl, rfl⟩ := HE0.out (by rw [HV.out]; rfl)
      go_wp2
      go_ret3
      exact ⟨rfl, HBW1.out⟩
    | true =>
      go_wp2_with fail
      refine (show Calls _ _ _ _ _ from CB.out _).mono ?_
      rintro e W3 ⟨rfl, rfl⟩
      cases q with
      | false =>
        obtain ⟨rfl, rfl, rfl⟩ := HE0.out (by rw [HV.out]; rfl)
        go_wp2
        go_ret3
        exact ⟨rfl, HBW1.out⟩
      | true =>
        have HE : Hid (voteB F a b = true ∧ v = (votes F.t.con a.toNat b.toNat : Nat) ∧ v2 = (votes F.t.con b.toNat a.toNat : Nat) ∧ c = true) := Lib.hid (by
          rcases HVV.out with h | h
          · rw [HV.out] at h; exact absurd h.1 (by simp)
          · exact h)
        obtain ⟨hvb, rfl, rfl, rfl⟩ := HE.out
        obtain ⟨hgd, i, j, rfl, rfl, hi, hj⟩ := voteB_nat hvb
        obtain ⟨p, hp⟩ : ∃ p, p = ((votes F.t.con i j : Nat) : Int) := ⟨_, rfl⟩
        obtain ⟨r, hr⟩ : ∃ p, p = ((votes F.t.con j i : Nat) : Int) := ⟨_, rfl⟩
        have C1 := Lib.hid (fun u (hu : Below W3.heap.size W3 u) => by have := l9Votes_any F i j u ((HFA.out.on HB1.out).on hu) hgd hi hj; rw [← hp, ← HN.out] at this; exact this)
        have C2 := Lib.hid (fun u (hu : Below W3.heap.size W3 u) => by have := l9Votes_any F j i u ((HFA.out.on HB1.out).on hu) hgd hj hi; rw [← hr, ← HN.out] at this; exact this)
        have hbx3 := HBX.out.on HB1.out
        have HS : Hid (∀ u, Below W3.heap.size W3 u → ((u.cell? ⟨w.heap.size, 0, none⟩ = some (.slice F.o.a n F.o.c) ∧ u.cell? ⟨w.heap.size, 1, none⟩ = some (.slice F.t.a F.t.R.length F.t.c)) ∧ Below W3.heap.size W3 u)) := Lib.hid fun u hu => ⟨⟨by rw [HN.out]; exact (hbx3.on hu).c0, (hbx3.on hu).c1⟩, hu⟩
        have s0 := HS.out W3.drew (Below.refl _ _).drew
        have hszB3 := HBW1.out.size
        have HP : Hid (((votes F.t.con (i : Int).toNat (j : Int).toNat : Nat) : Int) = p) := Lib.hid (by rw [Int.toNat_natCast, Int.toNat_natCast, hp])
        have HR : Hid (((votes F.t.con (j : Int).toNat (i : Int).toNat : Nat) : Int) = r) := Lib.hid (by rw [Int.toNat_natCast, Int.toNat_natCast, hr])
        clear hp hr hvb hgd hi hj hbx3 y0
        go_wp2
        go_region_held3 (fun u => ((u.cell? ⟨w.heap.size, 0, none⟩ = some (.slice F.o.a n F.o.c) ∧ u.cell? ⟨w.heap.size, 1, none⟩ = some (.slice F.t.a F.t.R.length F.t.c)) ∧ Below W3.heap.size W3 u)) (first | exact s0 | exact keep_reg HS.out (by first | assumption | exact And.right (by assumption)) hb1) (first | (go_at_call 30; with_reducible change Calls _ _ #[_, .int .i64 (i : Int), .int .i64 (j : Int)] _ _; refine (show Calls _ _ _ _ _ from C1.out _ (by first | assumption | exact And.right (by assumption))).mono ?_; rintro e u1 ⟨rfl, hb1⟩) | (go_at_call 30; with_reducible change Calls _ _ #[_, .int .i64 (j : Int), .int .i64 (i : Int)] _ _; refine (show Calls _ _ _ _ _ from C2.out _ (by first | assumption | exact And.right (by assumption))).mono ?_; rintro e u1 ⟨rfl, hb1⟩))
        refine at_exit (W := W3) (by first | assumption | exact And.right (by assumption)) ?_
        intro W8 hb8
        go_wp2
        go_ret3
        exact ⟨by rw [HP.out, HR.out]; rfl, HBW1.out.trans (hb8.mono hszB3)⟩

theorem votesOf_pair (F : Fld) (a b : Int) (_ : (Lit.int .i64 a).wf = true) (_ : (Lit.int .i64 b).wf = true) (_ : F.Small) : ∃ (v v2 : Int) (c : Bool),
    (∀ (G : Fld) (W : World), G.At W → G.Like F → Calls Try.prog 9 #[G.val, .int .i64 a, .int .i64 b] W (PInt2 v v2 c W)) ∧
    (∀ (G : Fld) (W : World), G.At W → G.Like F → Calls Try.prog 11 #[G.val, .int .i64 a, .int .i64 b] W (PInt2 v v2 c W)) := by
  obtain ⟨v, v2, c, h⟩ := votes_some F a b
  exact ⟨v, v2, c, fun G W hG hl => specVotes_any G a b W hG v v2 c (votes_like hl h), fun G W hG hl => implVotes_any G a b W hG v v2 c (votes_like hl h)⟩
end Go.Proofs.Ytfiijfgclfoeoaa
