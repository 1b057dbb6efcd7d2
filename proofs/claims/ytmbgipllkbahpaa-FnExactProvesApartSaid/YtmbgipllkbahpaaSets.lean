/- The contracts of the tests of sets of sites, on both sides. Condition: Field and set read as such. -/
import Derived.Test.YtmbgipllkbahpaaGood
import Derived.Test.YtmbgipllkbahpaaPlainServe
namespace Go.Proofs.Ytmbgipllkbahpaa
open Go.RowKit

set_option maxHeartbeats 1000000 in
theorem rising_any (s : Row) (n : Nat) (w : World) (hs : s.At w) (_ : (n : Int) ≤ 9223372036854775807) :
    Calls Try.prog 32 #[.slice s.a s.l.length s.c, .int .i64 0, .int .i64 ((n : Int) - 1)] w fun e w' => e = .returned (.bool (setB n s.l)) ∧ DrewTo w w' := by
  obtain ⟨a, c, l⟩ := s
  obtain ⟨h1, h2, h3⟩ := hs
  simp only at h1 h2 h3 ⊢
  rw [iv_length] at h1
  unfold maxLen at h2
  have hni : (l.length : Int) ≤ 9223372036854775807 := by omega
  have HR := Lib.hid h3
  clear h3
  obtain ⟨m, hm⟩ : ∃ m : Int, m = (n : Int) - 1 := ⟨_, rfl⟩
  rw [← hm]
  have HM := Lib.hid hm
  clear hm
  have ci := Lib.hid fun x W => l1In_any x 0 m W
  go_enter Try.func32, Try.ntmps32
  go_wp2
  go_loopw [7] (fun i wr => ∃ k : Nat, k ≤ l.length ∧ i = .int .i64 k ∧ DrewTo w wr ∧ rise n (-1) (l.take k) = true) (fun i _ => l.length - (intOf i).toNat)
  case atStart => exact ⟨0, Nat.zero_le _, rfl, DrewTo.refl _, by simp [rise]⟩
  case round =>
    obtain ⟨k, hk, rfl, hdw, hall⟩ := hrel
    have HALL := Lib.hid hall
    clear hall
    by_cases hlt : k < l.length
    · rcases HR.out with h3 | ⟨b, o, rfl, hb, hcell⟩
      · have h3' := congrArg List.length (iv_nil h3); rw [List.length_nil] at h3'; omega
      obtain ⟨x, hx⟩ : ∃ x, x = l[k] := ⟨_, rfl⟩
      have hcl : wr.cell? ⟨b, o + k, none⟩ = some (.int .i64 x) := by rw [hdw.cell, hx]; exact hcell k _ (iv_at hlt)
      have hlst := rise_lst n (l.take k) (-1) HALL.out
      have HX := Lib.hid hx
      by_cases hin : 0 ≤ x ∧ x ≤ m
      · have ci1 := Lib.hid (fun W => by have := ci.out x W; rw [show (decide (0 ≤ x) && decide (x ≤ m)) = true by simp [hin]] at this; exact this : ∀ W, Calls Try.prog 38 #[.int .i64 x, .int .i64 0, .int .i64 m] W fun e w' => e = .returned (.bool true) ∧ w' = W)
        have hxn : x < n := by have := HM.out; omega
        cases k with
        | zero =>
          rw [Nat.add_zero] at hcl
          have HS := Lib.hid (set_step (n := n) hlt HALL.out (by rw [← hx]; simp only [List.take_zero, lst]; omega) (by rw [← hx]; exact hxn)).1
          clear hlst hx hcell hin
          go_wp2
          go_quiet ((go_at_call 38; exact Calls.quiet_of_same (ci1.out _)))
          go_wp2
          go_roundw
          case rel => exact ⟨1, by omega, by go_num, hdw.more _, HS.out⟩
          case measure => simp [intOf]; omega
        | succ j =>
          have hj : j < l.length := by omega
          obtain ⟨p, hp⟩ : ∃ p, p = l[j] := ⟨_, rfl⟩
          have hcp : wr.cell? ⟨b, o + j, none⟩ = some (.int .i64 p) := by rw [hdw.cell, hp]; exact hcell j _ (iv_at hj)
          have hlj : lst (-1) (l.take (j + 1)) = p := by rw [List.take_succ_eq_append_getElem hj, lst_snoc, hp]
          by_cases hlt2 : p < x
          · have HS := Lib.hid (set_step (n := n) hlt HALL.out (by rw [hlj, ← hx]; exact hlt2) (by rw [← hx]; exact hxn)).1
            clear hlst hx hcell hin hp hlj
            go_wp2
            go_quiet ((go_at_call 38; exact Calls.quiet_of_same (ci1.out _)))
            go_wp2
            go_roundw
            case rel => exact ⟨j + 1 + 1, by omega, by go_num, hdw.more _, HS.out⟩
            case measure => simp [intOf]; omega
          · have HS := Lib.hid (set_out (n := n) hlt (by rw [hlj, ← hx]; omega))
            clear hlst hx hcell hin hp hlj
            go_wp2
            go_quiet ((go_at_call 38; exact Calls.quiet_of_same (ci1.out _)))
            go_wp2
            go_ret
            exact ⟨by rw [HS.out]; rfl, hdw.more _⟩
      · have ci1 := Lib.hid (fun W => by have := ci.out x W; rw [show (decide (0 ≤ x) && decide (x ≤ m)) = false by rw [Bool.and_eq_false_iff, decide_eq_false_iff_not, decide_eq_false_iff_not]; omega] at this; exact this : ∀ W, Calls Try.prog 38 #[.int .i64 x, .int .i64 0, .int .i64 m] W fun e w' => e = .returned (.bool false) ∧ w' = W)
        have HS := Lib.hid (set_out (n := n) hlt (by rw [← hx]; have := HM.out; omega))
        clear hlst hx hcell hin
        go_wp2
        go_quiet ((go_at_call 38; exact Calls.quiet_of_same (ci1.out _)))
        go_wp2
        go_ret
        exact ⟨by rw [HS.out]; rfl, hdw.more _⟩
    · obtain rfl : k = l.length := by omega
      have HS := Lib.hid (set_end HALL.out)
      go_wp2
      go_ret
      exact ⟨by rw [HS.out]; rfl, hdw⟩

/-- A Field that has been laid as a function's own variable. -/
theorem laid_fld (F : Fld) (w : World) (t : TypeId) (hF : F.At w) : ∃ wA, wA = w.alloc (Obj.cells #[F.o.val, F.t.val] t) ∧ Below w.heap.size w wA ∧ Box2 wA w.heap.size F.o.val F.t.val t ∧ F.At wA ∧ wA.heap.size = w.heap.size + 1 :=
  ⟨_, rfl, below_alloc _ _, Box2.made _ _ _ _, hF.on (below_alloc _ _), size_alloc _ _⟩

set_option maxHeartbeats 1000000 in
theorem ascends_any (s : Row) (n : Nat) (w : World) (hs : s.At w) (_ : (n : Int) ≤ 9223372036854775807) :
    Calls Try.prog 35 #[.slice s.a s.l.length s.c, .int .i64 (n : Int)] w fun e w' => e = .returned (.bool (setB n s.l)) ∧ w' = w := by
  obtain ⟨a, c, l⟩ := s
  obtain ⟨h1, h2, h3⟩ := hs
  simp only at h1 h2 h3 ⊢
  rw [iv_length] at h1
  unfold maxLen at h2
  have hni : (l.length : Int) ≤ 9223372036854775807 := by omega
  have HR := Lib.hid h3
  clear h3
  go_enter Try.func35, Try.ntmps35
  go_wp2
  go_loopw [5, 10] (fun bl i wr => ∃ k : Nat, k ≤ l.length ∧ i = .int .i64 k ∧ bl = .int .i64 (lst (-1) (l.take k)) ∧ wr = w ∧ rise n (-1) (l.take k) = true) (fun _ i _ => l.length - (intOf i).toNat)
  case atStart => exact ⟨0, Nat.zero_le _, rfl, rfl, rfl, by simp [rise]⟩
  case round =>
    obtain ⟨k, hk, rfl, rfl, rfl, hall⟩ := hrel
    have HALL := Lib.hid hall
    clear hall
    by_cases hlt : k < l.length
    · have hlti : (k : Int) < (l.length : Int) := by omega
      rcases HR.out with h3 | ⟨b, o, rfl, hbb, hcell⟩
      · have h3' := congrArg List.length (iv_nil h3); rw [List.length_nil] at h3'; omega
      obtain ⟨x, hx⟩ : ∃ x, x = l[k] := ⟨_, rfl⟩
      have hcl : wr.cell? ⟨b, o + k, none⟩ = some (.int .i64 x) := by rw [hx]; exact hcell k _ (iv_at hlt)
      obtain ⟨p, hp⟩ : ∃ p, p = lst (-1) (l.take k) := ⟨_, rfl⟩
      rw [← hp]
      by_cases h1 : p < x
      · by_cases h2 : x < n
        · have hst := set_step (n := n) hlt HALL.out (by rw [← hx, ← hp]; exact h1) (by rw [← hx]; exact h2)
          have HS := Lib.hid hst.1
          have HL := Lib.hid hst.2
          have HX := Lib.hid hx
          clear hx hcell hp hst
          go_wp2
          go_roundw
          case rel => exact ⟨k + 1, by omega, by go_num, by rw [HL.out, ← HX.out], by first | rfl | trivial, HS.out⟩
          case measure => simp [intOf]; omega
        · have HS := Lib.hid (set_out (n := n) hlt (by rw [← hx]; omega))
          clear hx hcell hp
          go_wp2
          go_ret
          exact ⟨by rw [HS.out]; rfl, rfl⟩
      · have HS := Lib.hid (set_out (n := n) hlt (by rw [← hx, ← hp]; omega))
        clear hx hcell hp
        go_wp2
        go_ret
        exact ⟨by rw [HS.out]; rfl, rfl⟩
    · obtain rfl : k = l.length := by omega
      have HS := Lib.hid (set_end HALL.out)
      go_wp2
      go_ret
      exact ⟨by rw [HS.out]; rfl, rfl⟩

end Go.Proofs.Ytmbgipllkbahpaa
