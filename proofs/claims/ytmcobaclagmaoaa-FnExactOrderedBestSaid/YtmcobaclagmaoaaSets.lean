/- The contracts of the tests of sets of sites, on both sides. Condition: Field and set read as such. -/
import Derived.Test.YtmcobaclagmaoaaGood
import Derived.Test.YtmcobaclagmaoaaPlainServe
namespace Go.Proofs.Ytmcobaclagmaoaa
open Go.RowKit

set_option maxHeartbeats 1000000 in
theorem rising_any (s : Row) (n : Nat) (w : World) (hs : s.At w) (_ : (n : Int) ≤ 9223372036854775807) :
    Calls Try.prog 68 #[.slice s.a s.l.length s.c, .int .i64 0, .int .i64 ((n : Int) - 1)] w fun e w' => e = .returned (.bool (setB n s.l)) ∧ DrewTo w w' := by
  obtain ⟨a, c, l⟩ := s
  obtain ⟨h1, h2, h3⟩ := hs
  simp only at h1 h2 h3 ⊢
  rw [iv_length] at h1
  unfold maxLen at h2
  have hni : (l.length : Int) ≤ 9223372036854775807 := by omega
  have HR := Lib.hid h3
  clear h3
  obtain ⟨m, hm⟩ : ∃ m : Int, m = (n : Int) - 1 := ⟨_, rfl⟩
  rw [← hm]
  have HM := Lib.hid hm
  clear hm
  have ci := Lib.hid fun x W => l1In_any x 0 m W
  go_enter Try.func68, Try.ntmps68
  go_wp2
  go_loopw [7] (fun i wr => ∃ k : Nat, k ≤ l.length ∧ i = .int .i64 k ∧ DrewTo w wr ∧ rise n (-1) (l.take k) = true) (fun i _ => l.length - (intOf i).toNat)
  case atStart => exact ⟨0, Nat.zero_le _, rfl, DrewTo.refl _, by simp [rise]⟩
  case round =>
    obtain ⟨k, hk, rfl, hdw, hall⟩ := hrel
    have HALL := Lib.hid hall
    clear hall
    by_cases hlt : k < l.length
    · rcases HR.out with h3 | ⟨b, o, rfl, hb, hcell⟩
      · have h3' := congrArg List.length (iv_nil h3); rw [List.length_nil] at h3'; omega
      obtain ⟨x, hx⟩ : ∃ x, x = l[k] := ⟨_, rfl⟩
      have hcl : wr.cell? ⟨b, o + k, none⟩ = some (.int .i64 x) := by rw [hdw.cell, hx]; exact hcell k _ (iv_at hlt)
      have hlst := rise_lst n (l.take k) (-1) HALL.out
      have HX := Lib.hid hx
      by_cases hin : 0 ≤ x ∧ x ≤ m
      · have ci1 := Lib.hid (fun W => by have := ci.out x W; rw [show (decide (0 ≤ x) && decide (x ≤ m)) = true by simp [hin]] at this; exact this : ∀ W, Calls Try.prog 42 #[.int .i64 x, .int .i64 0, .int .i64 m] W fun e w' => e = .returned (.bool true) ∧ w' = W)
        have hxn : x < n := by have := HM.out; omega
        cases k with
        | zero =>
          rw [Nat.add_zero] at hcl
          have HS := Lib.hid (set_step (n := n) hlt HALL.out (by rw [← hx]; simp only [List.take_zero, lst]; omega) (by rw [← hx]; exact hxn)).1
          clear hlst hx hcell hin
          go_wp2
          go_quiet ((go_at_call 42; exact Calls.quiet_of_same (ci1.out _)))
          go_wp2
          go_roundw
          case rel => exact ⟨1, by omega, by go_num, hdw.more _, HS.out⟩
          case measure => simp [intOf]; omega
        | succ j =>
          have hj : j < l.length := by omega
          obtain ⟨p, hp⟩ : ∃ p, p = l[j] := ⟨_, rfl⟩
          have hcp : wr.cell? ⟨b, o + j, none⟩ = some (.int .i64 p) := by rw [hdw.cell, hp]; exact hcell j _ (iv_at hj)
          have hlj : lst (-1) (l.take (j + 1)) = p := by rw [List.take_succ_eq_append_getElem hj, lst_snoc, hp]
          by_cases hlt2 : p < x
          · have HS := Lib.hid (set_step (n := n) hlt HALL.out (by rw [hlj, ← hx]; exact hlt2) (by rw [← hx]; exact hxn)).1
            clear hlst hx hcell hin hp hlj
            go_wp2
            go_quiet ((go_at_call 42; exact Calls.quiet_of_same (ci1.out _)))
            go_wp2
            go_roundw
            case rel => exact ⟨j + 1 + 1, by omega, by go_num, hdw.more _, HS.out⟩
            case measure => simp [intOf]; omega
          · have HS := Lib.hid (set_out (n := n) hlt (by rw [hlj, ← hx]; omega))
            clear hlst hx hcell hin hp hlj
            go_wp2
            go_quiet ((go_at_call 42; exact Calls.quiet_of_same (ci1.out _)))
            go_wp2
            go_ret
            exact ⟨by rw [HS.out]; rfl, hdw.more _⟩
      · have ci1 := Lib.hid (fun W => by have := ci.out x W; rw [show (decide (0 ≤ x) && decide (x ≤ m)) = false by rw [Bool.and_eq_false_iff, decide_eq_false_iff_not, decide_eq_false_iff_not]; omega] at this; exact this : ∀ W, Calls Try.prog 42 #[.int .i64 x, .int .i64 0, .int .i64 m] W fun e w' => e = .returned (.bool false) ∧ w' = W)
        have HS := Lib.hid (set_out (n := n) hlt (by rw [← hx]; have := HM.out; omega))
        clear hlst hx hcell hin
        go_wp2
        go_quiet ((go_at_call 42; exact Calls.quiet_of_same (ci1.out _)))
        go_wp2
        go_ret
        exact ⟨by rw [HS.out]; rfl, hdw.more _⟩
    · obtain rfl : k = l.length := by omega
      have HS := Lib.hid (set_end HALL.out)
      go_wp2
      go_ret
      exact ⟨by rw [HS.out]; rfl, hdw⟩

/-- A Field that has been laid as a function's own variable. -/
theorem laid_fld (F : Fld) (w : World) (t : TypeId) (hF : F.At w) : ∃ wA, wA = w.alloc (Obj.cells #[F.o.val, F.t.val] t) ∧ Below w.heap.size w wA ∧ Box2 wA w.heap.size F.o.val F.t.val t ∧ F.At wA ∧ wA.heap.size = w.heap.size + 1 :=
  ⟨_, rfl, below_alloc _ _, Box2.made _ _ _ _, hF.on (below_alloc _ _), size_alloc _ _⟩

set_option maxHeartbeats 1000000 in
theorem ascends_any (s : Row) (n : Nat) (w : World) (hs : s.At w) (_ : (n : Int) ≤ 9223372036854775807) :
    Calls Try.prog 71 #[.slice s.a s.l.length s.c, .int .i64 (n : Int)] w fun e w' => e = .returned (.bool (setB n s.l)) ∧ w' = w := by
  obtain ⟨a, c, l⟩ := s
  obtain ⟨h1, h2, h3⟩ := hs
  simp only at h1 h2 h3 ⊢
  rw [iv_length] at h1
  unfold maxLen at h2
  have hni : (l.length : Int) ≤ 9223372036854775807 := by omega
  have HR := Lib.hid h3
  clear h3
  go_enter Try.func71, Try.ntmps71
  go_wp2
  go_loopw [5, 10] (fun bl i wr => ∃ k : Nat, k ≤ l.length ∧ i = .int .i64 k ∧ bl = .int .i64 (lst (-1) (l.take k)) ∧ wr = w ∧ rise n (-1) (l.take k) = true) (fun _ i _ => l.length - (intOf i).toNat)
  case atStart => exact ⟨0, Nat.zero_le _, rfl, rfl, rfl, by simp [rise]⟩
  case round =>
    obtain ⟨k, hk, rfl, rfl, rfl, hall⟩ := hrel
    have HALL := Lib.hid hall
    clear hall
    by_cases hlt : k < l.length
    · have hlti : (k : Int) < (l.length : Int) := by omega
      rcases HR.out with h3 | ⟨b, o, rfl, hbb, hcell⟩
      · have h3' := congrArg List.length (iv_nil h3); rw [List.length_nil] at h3'; omega
      obtain ⟨x, hx⟩ : ∃ x, x = l[k] := ⟨_, rfl⟩
      have hcl : wr.cell? ⟨b, o + k, none⟩ = some (.int .i64 x) := by rw [hx]; exact hcell k _ (iv_at hlt)
      obtain ⟨p, hp⟩ : ∃ p, p = lst (-1) (l.take k) := ⟨_, rfl⟩
      rw [← hp]
      by_cases h1 : p < x
      · by_cases h2 : x < n
        · have hst := set_step (n := n) hlt HALL.out (by rw [← hx, ← hp]; exact h1) (by rw [← hx]; exact h2)
          have HS := Lib.hid hst.1
          have HL := Lib.hid hst.2
          have HX := Lib.hid hx
          clear hx hcell hp hst
          go_wp2
          go_roundw
          case rel => exact ⟨k + 1, by omega, by go_num, by rw [HL.out, ← HX.out], by first | rfl | trivial, HS.out⟩
          case measure => simp [intOf]; omega
        · have HS := Lib.hid (set_out (n := n) hlt (by rw [← hx]; omega))
          clear hx hcell hp
          go_wp2
          go_ret
          exact ⟨by rw [HS.out]; rfl, rfl⟩
      · have HS := Lib.hid (set_out (n := n) hlt (by rw [← hx, ← hp]; omega))
        clear hx hcell hp
        go_wp2
        go_ret
        exact ⟨by rw [HS.out]; rfl, rfl⟩
    · obtain rfl : k = l.length := by omega
      have HS := Lib.hid (set_end HALL.out)
      go_wp2
      go_ret
      exact ⟨by rw [HS.out]; rfl, rfl⟩

set_option maxHeartbeats 1000000 in
theorem isSiteSet_any (F : Fld) (s : Row) (w : World) (hF : F.At w) (hs : s.At w) :
    Calls Try.prog 56 #[F.val, .slice s.a s.l.length s.c] w fun e w' => e = .returned (.bool (setB F.o.l.length s.l)) ∧ Below w.heap.size w w' := by
  obtain ⟨wA, hA, hb, bx, hFA, _⟩ := laid_fld F w 29 hF
  have hoi : (F.o.l.length : Int) ≤ 9223372036854775807 := by obtain ⟨q1, q2, _⟩ := hF.1; rw [iv_length] at q1; unfold maxLen at q2; omega
  have CR := Lib.hid (ascends_any s F.o.l.length wA (hs.on hb) hoi)
  have x0 : wA.cell? ⟨w.heap.size, 0, none⟩ = some (.slice F.o.a F.o.l.length F.o.c) := bx.c0
  have HA := Lib.hid hA
  rw [hA] at x0
  clear hA bx hFA hF hs
  show Calls _ _ #[.agg #[.slice F.o.a F.o.l.length F.o.c, .slice F.t.a F.t.R.length F.t.c], _] w _
  change (w.alloc (Obj.cells #[.slice F.o.a F.o.l.length F.o.c, .slice F.t.a F.t.R.length F.t.c] 29)).cell? _ = _ at x0
  go_enter Try.func56, Try.ntmps56
  go_wp2_with fail
  rw [show w.alloc (Obj.cells #[Value.slice F.o.a F.o.l.length F.o.c, Value.slice F.t.a F.t.R.length F.t.c] 29) = wA from HA.out.symm]
  refine CR.out.mono ?_
  rintro e W ⟨rfl, rfl⟩
  go_wp2
  go_ret
  exact ⟨rfl, hb⟩

set_option maxHeartbeats 1000000 in
theorem l2Set_any (F : Fld) (s : Row) (w : World) (hF : F.At w) (hs : s.At w) :
    Calls Try.prog 41 #[F.val, .slice s.a s.l.length s.c] w fun e w' => e = .returned (.bool (setB F.o.l.length s.l)) ∧ Below w.heap.size w w' := by
  obtain ⟨wA, hA, hb, bx, hFA, _⟩ := laid_fld F w 29 hF
  have hoi : (F.o.l.length : Int) ≤ 9223372036854775807 := by obtain ⟨q1, q2, _⟩ := hF.1; rw [iv_length] at q1; unfold maxLen at q2; omega
  have CR := Lib.hid (rising_any s F.o.l.length wA (hs.on hb) hoi)
  have HA := Lib.hid hA
  clear hA bx hFA hF hs
  show Calls _ _ #[.agg #[.slice F.o.a F.o.l.length F.o.c, .slice F.t.a F.t.R.length F.t.c], _] w _
  go_enter Try.func41, Try.ntmps41
  go_wp2_with fail
  rw [show w.alloc (Obj.cells #[Value.slice F.o.a F.o.l.length F.o.c, Value.slice F.t.a F.t.R.length F.t.c] 29) = wA from HA.out.symm]
  refine CR.out.mono ?_
  rintro e W ⟨rfl, d, rfl⟩
  go_wp2
  go_ret
  exact ⟨rfl, hb.trans ((below_draws _ _).mono hb.size)⟩

set_option maxHeartbeats 1000000 in
theorem l2Two_any (F : Fld) (s : Row) (w : World) (hF : F.At w) (hs : s.At w) :
    Calls Try.prog 22 #[F.val, .slice s.a s.l.length s.c] w fun e w' => e = .returned (.bool (twoB F s)) ∧ Below w.heap.size w w' := by
  obtain ⟨wA, hA, hb, bx, hFA, _⟩ := laid_fld F w 29 hF
  have hni : (s.l.length : Int) ≤ 9223372036854775807 := by obtain ⟨q1, q2, _⟩ := hs; rw [iv_length] at q1; unfold maxLen at q2; omega
  have HSA := Lib.hid (hs.on hb)
  have HFA := Lib.hid hFA
  have HBX := Lib.hid bx
  have HA := Lib.hid hA
  have HTW : Hid (twoB F s = (F.good && setB F.o.l.length s.l && decide (0 < s.l.length))) := Lib.hid rfl
  obtain ⟨v, hv⟩ : ∃ v, v = F.good := ⟨_, rfl⟩
  obtain ⟨u, hu⟩ : ∃ u, u = setB F.o.l.length s.l := ⟨_, rfl⟩
  have CG := l2Good_any F wA hFA
  rw [← hv] at CG HTW
  rw [← hu] at HTW
  have CG1 := Lib.hid CG
  have CS := Lib.hid (fun W (h : Below wA.heap.size wA W) => by have := l2Set_any F s W (HFA.out.on h) (HSA.out.on h); rw [← hu] at this; exact this : ∀ W, Below wA.heap.size wA W → Calls Try.prog 41 #[F.val, .slice s.a s.l.length s.c] W fun e w' => e = .returned (.bool u) ∧ Below W.heap.size W w')
  clear hA bx hFA hF hs hv hu CG
  show Calls _ _ #[.agg #[F.o.val, F.t.val], _] w _
  go_enter Try.func22, Try.ntmps22
  go_wp2_with fail
  rw [show w.alloc (Obj.cells #[F.o.val, F.t.val] 29) = wA from HA.out.symm]
  refine (show Calls _ _ _ _ _ from CG1.out).mono ?_
  rintro e W1 ⟨rfl, hb1⟩
  cases v with
  | false =>
    go_wp2
    go_ret
    exact ⟨by rw [HTW.out]; rfl, hb.trans (hb1.mono hb.size)⟩
  | true =>
    have y0 := (HBX.out.on hb1).c0
    have y1 := (HBX.out.on hb1).c1
    go_wp2_with fail
    refine (show Calls _ _ _ _ _ from CS.out W1 hb1).mono ?_
    rintro e W2 ⟨rfl, hb2⟩
    have hbb := (hb.trans (hb1.mono hb.size)).trans (hb2.mono (Nat.le_trans hb.size hb1.size))
    cases u with
    | false =>
      go_wp2
      go_ret
      exact ⟨by rw [HTW.out]; rfl, hbb⟩
    | true =>
      by_cases h0 : 0 < s.l.length
      · have h0' : (0 : Int) < (s.l.length : Int) := by omega
        go_wp2
        go_ret
        exact ⟨by rw [HTW.out, decide_eq_true h0]; rfl, hbb⟩
      · have h0' : ¬ (0 : Int) < (s.l.length : Int) := by omega
        go_wp2
        go_ret
        exact ⟨by rw [HTW.out, decide_eq_false h0]; simp, hbb⟩

set_option maxHeartbeats 1000000 in
theorem canServe_any (F : Fld) (s : Row) (w : World) (hF : F.At w) (hs : s.At w) :
    Calls Try.prog 27 #[F.val, .slice s.a s.l.length s.c] w fun e w' => e = .returned (.bool (twoB F s)) ∧ Below w.heap.size w w' := by
  obtain ⟨wA, hA, hb, bx, hFA, _⟩ := laid_fld F w 29 hF
  have hni : (s.l.length : Int) ≤ 9223372036854775807 := by obtain ⟨q1, q2, _⟩ := hs; rw [iv_length] at q1; unfold maxLen at q2; omega
  have HSA := Lib.hid (hs.on hb)
  have HFA := Lib.hid hFA
  have HBX := Lib.hid bx
  have HA := Lib.hid hA
  have HTW : Hid (twoB F s = (F.good && setB F.o.l.length s.l && decide (0 < s.l.length))) := Lib.hid rfl
  obtain ⟨v, hv⟩ : ∃ v, v = F.good := ⟨_, rfl⟩
  obtain ⟨u, hu⟩ : ∃ u, u = setB F.o.l.length s.l := ⟨_, rfl⟩
  have CG := implIsField_any F wA hFA
  rw [← hv] at CG HTW
  rw [← hu] at HTW
  have CG1 := Lib.hid CG
  have CS := Lib.hid (fun W (h : Below wA.heap.size wA W) => by have := isSiteSet_any F s W (HFA.out.on h) (HSA.out.on h); rw [← hu] at this; exact this : ∀ W, Below wA.heap.size wA W → Calls Try.prog 56 #[F.val, .slice s.a s.l.length s.c] W fun e w' => e = .returned (.bool u) ∧ Below W.heap.size W w')
  clear hA bx hFA hF hs hv hu CG
  show Calls _ _ #[.agg #[F.o.val, F.t.val], _] w _
  by_cases h0 : 0 < s.l.length
  · have h0' : (0 : Int) < (s.l.length : Int) := by omega
    go_enter Try.func27, Try.ntmps27
    go_wp2_with fail
    rw [show w.alloc (Obj.cells #[F.o.val, F.t.val] 29) = wA from HA.out.symm]
    refine (show Calls _ _ _ _ _ from CG1.out).mono ?_
    rintro e W1 ⟨rfl, hb1⟩
    cases v with
    | false =>
      go_wp2
      go_ret
      exact ⟨by rw [HTW.out]; rfl, hb.trans (hb1.mono hb.size)⟩
    | true =>
      have y0 := (HBX.out.on hb1).c0
      have y1 := (HBX.out.on hb1).c1
      go_wp2_with fail
      refine (show Calls _ _ _ _ _ from CS.out W1 hb1).mono ?_
      rintro e W2 ⟨rfl, hb2⟩
      have hbb := (hb.trans (hb1.mono hb.size)).trans (hb2.mono (Nat.le_trans hb.size hb1.size))
      go_wp2
      go_ret
      exact ⟨by rw [HTW.out, decide_eq_true h0]; simp, hbb⟩
  · have h0' : ¬ (0 : Int) < (s.l.length : Int) := by omega
    have HF : Hid (twoB F s = false) := Lib.hid (by rw [HTW.out, decide_eq_false h0]; simp)
    go_enter Try.func27, Try.ntmps27
    go_wp2_with fail
    rw [show w.alloc (Obj.cells #[F.o.val, F.t.val] 29) = wA from HA.out.symm]
    refine (show Calls _ _ _ _ _ from CG1.out).mono ?_
    rintro e W1 ⟨rfl, hb1⟩
    cases v with
    | false =>
      go_wp2
      go_ret
      exact ⟨by rw [HF.out]; rfl, hb.trans (hb1.mono hb.size)⟩
    | true =>
      have y0 := (HBX.out.on hb1).c0
      have y1 := (HBX.out.on hb1).c1
      go_wp2
      go_ret
      exact ⟨by rw [HF.out]; rfl, hb.trans (hb1.mono hb.size)⟩

end Go.Proofs.Ytmcobaclagmaoaa
