/- The contracts of the tests whether a Field is valid, on both sides. Condition: the Field reads as such. -/
import Derived.Test.YtddnadipleknoaaBetween
namespace Go.Proofs.Ytddnadipleknoaa
open Go.RowKit

theorem l1In_any (x a b : Int) (w : World) :
    Calls Try.prog 44 #[.int .i64 x, .int .i64 a, .int .i64 b] w fun e w' => e = .returned (.bool (decide (a ≤ x) && decide (x ≤ b))) ∧ w' = w := by
  by_cases h : a ≤ x
  · go_enter Try.func44, Try.ntmps44
    go_wp2
    go_ret
    exact ⟨by simp [h], rfl⟩
  · go_enter Try.func44, Try.ntmps44
    go_wp2
    go_ret
    exact ⟨by simp; omega, rfl⟩

set_option maxHeartbeats 600000 in
theorem l2Row_any (r : Row) (n : Nat) (w : World) (hr : r.At w) :
    Calls Try.prog 63 #[.slice r.a r.l.length r.c, .int .i64 n, .int .i64 99] w fun e w' => e = .returned (.bool (rowB n r.l)) ∧ w' = w := by
  obtain ⟨a, c, l⟩ := r
  obtain ⟨h1, h2, h3⟩ := hr
  simp only at h1 h2 h3 ⊢
  rw [iv_length] at h1
  unfold maxLen at h2
  have hni : (l.length : Int) ≤ 9223372036854775807 := by omega
  have HR := Lib.hid h3
  clear h3
  have ci := Lib.hid fun x W => l1In_any x 0 99 W
  go_enter Try.func63, Try.ntmps63
  go_wp2
  go_loopw [7] (fun i wr => ∃ k : Nat, k ≤ l.length ∧ i = .int .i64 k ∧ w = wr ∧ (l.take k).all (upTo 99) = true) (fun i _ => l.length - (intOf i).toNat)
  case atStart => exact ⟨0, Nat.zero_le _, rfl, rfl, by simp⟩
  case round =>
    obtain ⟨k, hk, rfl, rfl, hall⟩ := hrel
    have HALL := Lib.hid hall
    clear hall
    by_cases hlt : k < l.length
    · have hlti : (k : Int) < (l.length : Int) := by omega
      rcases HR.out with h3 | ⟨b, o, rfl, hb, hcell⟩
      · have h3' := congrArg List.length (iv_nil h3); rw [List.length_nil] at h3'; omega
      obtain ⟨x, hx⟩ : ∃ x, x = l[k] := ⟨_, rfl⟩
      have hcl : w.cell? ⟨b, o + k, none⟩ = some (.int .i64 x) := by rw [hx]; exact hcell k _ (iv_at hlt)
      have HX := Lib.hid hx
      clear hx hcell
      by_cases hp : upTo 99 x = true
      · have hp' : (decide (0 ≤ x) && decide (x ≤ 99)) = true := hp
        have ci1 := Lib.hid (fun W => by have := ci.out x W; rw [hp'] at this; exact this : ∀ W, Calls Try.prog 44 #[.int .i64 x, .int .i64 0, .int .i64 99] W fun e w' => e = .returned (.bool true) ∧ w' = W)
        have HS : Hid ((l.take (k + 1)).all (upTo 99) = true) := Lib.hid (all_take hlt HALL.out (by rw [← HX.out]; exact hp))
        clear hp hp'
        go_wp2_with fail
        refine (ci1.out _).mono ?_
        rintro e W ⟨rfl, rfl⟩
        go_wp2
        go_roundw
        case rel => exact ⟨k + 1, by omega, by go_num, by first | rfl | trivial, HS.out⟩
        case measure => simp [intOf]; omega
      · have hp1 : upTo 99 x = false := by simpa using hp
        have hp' : (decide (0 ≤ x) && decide (x ≤ 99)) = false := hp1
        have ci1 := Lib.hid (fun W => by have := ci.out x W; rw [hp'] at this; exact this : ∀ W, Calls Try.prog 44 #[.int .i64 x, .int .i64 0, .int .i64 99] W fun e w' => e = .returned (.bool false) ∧ w' = W)
        have HS : Hid (l.all (upTo 99) = false) := Lib.hid (all_out hlt (by rw [← HX.out]; exact hp1))
        clear hp hp' hp1
        go_wp2_with fail
        refine (ci1.out _).mono ?_
        rintro e W ⟨rfl, rfl⟩
        go_wp2
        go_ret
        exact ⟨by unfold rowB; rw [HS.out]; rfl, rfl⟩
    · obtain rfl : k = l.length := by omega
      have HS := Lib.hid (all_end HALL.out)
      go_wp2
      go_ret
      exact ⟨by unfold rowB; rw [HS.out, Bool.true_and, ← nat_eqB]; rfl, rfl⟩

theorem allWithin_any (r : Row) (w : World) (hr : r.At w) :
    Calls Try.prog 73 #[.slice r.a r.l.length r.c, .int .i64 99] w fun e w' => e = .returned (.bool (r.l.all (upTo 99))) ∧ Below w.heap.size w w' := allWithinM_any 99 r w hr

end Go.Proofs.Ytddnadipleknoaa
