/- Both sides of GapOf answer alike. Condition: the Field reads as such. -/
import Derived.Test.YtlnompeojhaigaaGap
namespace Go.Proofs.Ytlnompeojhaigaa
open Go.RowKit

/-- A client that is there. -/
def cliB (F : Fld) (i : Int) : Bool := decide (0 ≤ i) && decide (i ≤ (F.t.R.length : Int) - 1)
theorem cliB_nat {F : Fld} {i : Int} (h : cliB F i = true) : ∃ m : Nat, i = m ∧ m < F.t.R.length := by
  unfold cliB at h
  simp only [Bool.and_eq_true, decide_eq_true_eq] at h
  exact ⟨i.toNat, by omega, by omega⟩
theorem rows_like {F G : Fld} (h : F.Like G) : F.t.R.length = G.t.R.length := by have := congrArg List.length h.2; rw [con_length, con_length] at this; exact this
theorem cliB_like {F G : Fld} (h : F.Like G) (i : Int) : cliB F i = cliB G i := by unfold cliB; rw [rows_like h]
def Gaps (F : Fld) (i j v : Int) (b : Bool) : Prop :=
  ((F.good && (cliB F i && cliB F j)) = false ∧ v = 0 ∧ b = false) ∨ (∃ m n : Nat, F.good = true ∧ i = m ∧ j = n ∧ m < F.t.R.length ∧ n < F.t.R.length ∧ v = gapA F m n ∧ b = true)
theorem gaps_some (F : Fld) (i j : Int) : ∃ v b, Gaps F i j v b := by
  by_cases h : (F.good && (cliB F i && cliB F j)) = true
  · simp only [Bool.and_eq_true] at h
    obtain ⟨m, h1, h2⟩ := cliB_nat h.2.1
    obtain ⟨n, h3, h4⟩ := cliB_nat h.2.2
    exact ⟨_, _, .inr ⟨m, n, h.1, h1, h3, h2, h4, rfl, rfl⟩⟩
  · exact ⟨_, _, .inl ⟨by simpa using h, rfl, rfl⟩⟩
theorem gaps_like {F G : Fld} {i j v : Int} {b : Bool} (h : Gaps F i j v b) (hl : G.Like F) : Gaps G i j v b := by
  rcases h with ⟨h1, h2, h3⟩ | ⟨m, n, h1, h2, h3, h4, h5, h6, h7⟩
  · exact .inl ⟨by rw [hl.good, cliB_like hl, cliB_like hl]; exact h1, h2, h3⟩
  · exact .inr ⟨m, n, by rw [hl.good]; exact h1, h2, h3, by rw [rows_like hl]; exact h4, by rw [rows_like hl]; exact h5, by rw [gapA_like hl]; exact h6, h7⟩
theorem gaps_ok {F : Fld} {i j v : Int} {b : Bool} (h : Gaps F i j v b) (hg : F.good = true) (hi : cliB F i = true) (hj : cliB F j = true) : ∃ m n : Nat, i = m ∧ j = n ∧ m < F.t.R.length ∧ n < F.t.R.length ∧ v = gapA F m n ∧ b = true := by
  rcases h with ⟨h1, _, _⟩ | ⟨m, n, _, h2, h3, h4, h5, h6, h7⟩
  · rw [hg, hi, hj] at h1; cases h1
  · exact ⟨m, n, h2, h3, h4, h5, h6, h7⟩
theorem gaps_no {F : Fld} {i j v : Int} {b : Bool} (h : Gaps F i j v b) (hn : F.good = false ∨ cliB F i = false ∨ cliB F j = false) : v = 0 ∧ b = false := by
  rcases h with ⟨_, h2, h3⟩ | ⟨m, n, h1, rfl, rfl, h4, h5, _, _⟩
  · exact ⟨h2, h3⟩
  · have e1 : cliB F m = true := by unfold cliB; simp; omega
    have e2 : cliB F n = true := by unfold cliB; simp; omega
    rcases hn with hn | hn | hn
    · rw [h1] at hn; cases hn
    · rw [e1] at hn; cases hn
    · rw [e2] at hn; cases hn

set_option maxHeartbeats 1000000 in
theorem specGap_any (F : Fld) (i j : Int) (w : World) (hF : F.At w) (v : Int) (b : Bool) (hv : Gaps F i j v b) :
    Calls Try.prog 27 #[F.val, .int .i64 i, .int .i64 j] w (PInt v b w) := by
  obtain ⟨wA, hA, hbA, bx, hFA, hszA⟩ := laid_fld F w 29 hF
  have HFA := Lib.hid hFA
  have HBX := Lib.hid bx
  have HA := Lib.hid hA
  have HV := Lib.hid hv
  have CT := Lib.hid (l2Good_any F wA hFA)
  obtain ⟨h1, h2, _⟩ := hFA.2.1
  rw [tv_length] at h1
  have hRi : (F.t.R.length : Int) ≤ 9223372036854775807 := by unfold maxLen at h2; omega
  have wl : IntKind.i64.wrap ((F.t.R.length : Int) - 1) = (F.t.R.length : Int) - 1 := IntWalk.i64_in _ (by omega)
  have CI := Lib.hid fun (x : Int) (W : World) => l1In_any x 0 ((F.t.R.length : Int) - 1) W
  clear hF hA hFA bx hv h1 h2
  show Calls _ _ #[.agg #[F.o.val, F.t.val], _, _] w fun e w' => e = .returned (.tuple #[.int .i64 v, .bool b]) ∧ Below w.heap.size w w'
  obtain ⟨g, hg⟩ : ∃ g, g = F.good := ⟨_, rfl⟩
  obtain ⟨c1, hc1⟩ : ∃ c, c = cliB F i := ⟨_, rfl⟩
  obtain ⟨c2, hc2⟩ : ∃ c, c = cliB F j := ⟨_, rfl⟩
  rw [← hg] at CT
  have C1 := Lib.hid (fun W => by have := CI.out i W; rw [show (decide (0 ≤ i) && decide (i ≤ (F.t.R.length : Int) - 1)) = c1 from hc1.symm] at this; exact this : ∀ W, Calls Try.prog 62 #[.int .i64 i, .int .i64 0, .int .i64 ((F.t.R.length : Int) - 1)] W fun e w' => e = .returned (.bool c1) ∧ w' = W)
  have C2 := Lib.hid (fun W => by have := CI.out j W; rw [show (decide (0 ≤ j) && decide (j ≤ (F.t.R.length : Int) - 1)) = c2 from hc2.symm] at this; exact this : ∀ W, Calls Try.prog 62 #[.int .i64 j, .int .i64 0, .int .i64 ((F.t.R.length : Int) - 1)] W fun e w' => e = .returned (.bool c2) ∧ w' = W)
  have HG := Lib.hid hg
  have H1 := Lib.hid hc1
  have H2 := Lib.hid hc2
  clear hg hc1 hc2 CI
  go_enter Try.func27, Try.ntmps27
  go_wp2_with fail
  rw [show w.alloc (Obj.cells #[F.o.val, F.t.val] 29) = wA from HA.out.symm]
  refine (show Calls _ _ _ _ _ from CT.out).mono ?_
  rintro e W1 ⟨rfl, hb1⟩
  have HB := Lib.hid (hbA.trans (hb1.mono hbA.size))
  have y0 := (HBX.out.on hb1).c0
  have y1 : W1.cell? ⟨w.heap.size, 1, none⟩ = some (.slice F.t.a F.t.R.length F.t.c) := (HBX.out.on hb1).c1
  have HF1 := Lib.hid (HFA.out.on hb1)
  have hsz1 := HB.out.size
  clear hb1
  cases g with
  | false =>
    obtain ⟨rfl, rfl⟩ := gaps_no HV.out (.inl HG.out.symm)
    go_wp2
    go_ret2
    exact ⟨rfl, HB.out⟩
  | true =>
    go_wp2_with fail
    refine (show Calls _ _ _ _ _ from C1.out W1).mono ?_
    rintro e W ⟨rfl, rfl⟩
    cases c1 with
    | false =>
      obtain ⟨rfl, rfl⟩ := gaps_no HV.out (.inr (.inl H1.out.symm))
      go_wp2
      go_ret2
      exact ⟨rfl, HB.out⟩
    | true =>
      go_wp2_with fail
      refine (show Calls _ _ _ _ _ from C2.out W).mono ?_
      rintro e W2 ⟨rfl, rfl⟩
      cases c2 with
      | false =>
        obtain ⟨rfl, rfl⟩ := gaps_no HV.out (.inr (.inr H2.out.symm))
        go_wp2
        go_ret2
        exact ⟨rfl, HB.out⟩
      | true =>
        obtain ⟨m, n, rfl, rfl, hm, hn, hvv, rfl⟩ := gaps_ok HV.out HG.out.symm H1.out.symm H2.out.symm
        have CG := Lib.hid (by have := l5Gap_any F m n W2 HF1.out HG.out.symm hm hn; rw [← hvv] at this; exact this)
        clear hm hn hvv
        go_wp2_with fail
        refine (show Calls _ _ _ _ _ from CG.out).mono ?_
        rintro e W3 ⟨rfl, hb3⟩
        go_wp2
        go_ret2
        exact ⟨rfl, HB.out.trans (hb3.mono hsz1)⟩

set_option maxHeartbeats 1000000 in
theorem implGap_any (F : Fld) (i j : Int) (w : World) (hF : F.At w) (v : Int) (b : Bool) (hv : Gaps F i j v b) :
    Calls Try.prog 28 #[F.val, .int .i64 i, .int .i64 j] w (PInt v b w) := by
  obtain ⟨wA, hA, hbA, bx, hFA, hszA⟩ := laid_fld F w 29 hF
  have HFA := Lib.hid hFA
  have HBX := Lib.hid bx
  have HA := Lib.hid hA
  have HV := Lib.hid hv
  have CT := Lib.hid (implIsField_any F wA hFA)
  obtain ⟨h1, h2, _⟩ := hFA.2.1
  rw [tv_length] at h1
  have hRi : (F.t.R.length : Int) ≤ 9223372036854775807 := by unfold maxLen at h2; omega
  have x0 := bx.c0
  have x1 : wA.cell? ⟨w.heap.size, 1, none⟩ = some (.slice F.t.a F.t.R.length F.t.c) := bx.c1
  rw [hA] at x0 x1
  clear hF hA hFA bx hv h1 h2
  show Calls _ _ #[.agg #[F.o.val, .slice F.t.a F.t.R.length F.t.c], _, _] w fun e w' => e = .returned (.tuple #[.int .i64 v, .bool b]) ∧ Below w.heap.size w w'
  obtain ⟨g, hg⟩ : ∃ g, g = F.good := ⟨_, rfl⟩
  rw [← hg] at CT
  have HG := Lib.hid hg
  clear hg
  go_enter Try.func28, Try.ntmps28
  go_wp2_with fail
  rw [show w.alloc (Obj.cells #[F.o.val, .slice F.t.a F.t.R.length F.t.c] 29) = wA from HA.out.symm]
  refine (show Calls _ _ _ _ _ from CT.out).mono ?_
  rintro e W1 ⟨rfl, hb1⟩
  have HB := Lib.hid (hbA.trans (hb1.mono hbA.size))
  have y0 := (HBX.out.on hb1).c0
  have y1 := (HBX.out.on hb1).c1
  have HF1 := Lib.hid (HFA.out.on hb1)
  have hsz1 := HB.out.size
  clear hb1 x0 x1
  have HNO : Hid (∀ x : Int, x < 0 ∨ (F.t.R.length : Int) ≤ x → cliB F x = false) := Lib.hid fun x h => by unfold cliB; simp; omega
  cases g with
  | false =>
    obtain ⟨rfl, rfl⟩ := gaps_no HV.out (.inl HG.out.symm)
    go_wp2
    go_ret2
    exact ⟨rfl, HB.out⟩
  | true =>
    by_cases i0 : i < 0
    · obtain ⟨rfl, rfl⟩ := gaps_no HV.out (.inr (.inl (HNO.out i (.inl i0))))
      go_wp2
      go_ret2
      exact ⟨rfl, HB.out⟩
    by_cases i1 : (F.t.R.length : Int) ≤ i
    · obtain ⟨rfl, rfl⟩ := gaps_no HV.out (.inr (.inl (HNO.out i (.inr i1))))
      go_wp2
      go_ret2
      exact ⟨rfl, HB.out⟩
    by_cases j0 : j < 0
    · obtain ⟨rfl, rfl⟩ := gaps_no HV.out (.inr (.inr (HNO.out j (.inl j0))))
      go_wp2
      go_ret2
      exact ⟨rfl, HB.out⟩
    by_cases j1 : (F.t.R.length : Int) ≤ j
    · obtain ⟨rfl, rfl⟩ := gaps_no HV.out (.inr (.inr (HNO.out j (.inr j1))))
      go_wp2
      go_ret2
      exact ⟨rfl, HB.out⟩
    obtain ⟨m, n, rfl, rfl, hm, hn, hvv, rfl⟩ := gaps_ok HV.out HG.out.symm (by unfold cliB; simp; omega) (by unfold cliB; simp; omega)
    have CG := Lib.hid (by have := gapBetween_any F m n W1 HF1.out HG.out.symm hm hn; rw [← hvv] at this; exact this)
    clear hm hn hvv
    go_wp2_with fail
    refine (show Calls _ _ _ _ _ from CG.out).mono ?_
    rintro e W3 ⟨rfl, hb3⟩
    go_wp2
    go_ret2
    exact ⟨rfl, HB.out.trans (hb3.mono hsz1)⟩

theorem gapOf_pair (F : Fld) (i j : Int) (_ : (Lit.int .i64 i).wf = true) (_ : (Lit.int .i64 j).wf = true) (_ : F.Small) : ∃ (v : Int) (b : Bool),
    (∀ (G : Fld) (W : World), G.At W → G.Like F → Calls Try.prog 27 #[G.val, .int .i64 i, .int .i64 j] W (PInt v b W)) ∧
    (∀ (G : Fld) (W : World), G.At W → G.Like F → Calls Try.prog 28 #[G.val, .int .i64 i, .int .i64 j] W (PInt v b W)) := by
  obtain ⟨v, b, h⟩ := gaps_some F i j
  exact ⟨v, b, fun G W hG hlk => specGap_any G i j W hG v b (gaps_like h hlk), fun G W hG hlk => implGap_any G i j W hG v b (gaps_like h hlk)⟩
end Go.Proofs.Ytlnompeojhaigaa
