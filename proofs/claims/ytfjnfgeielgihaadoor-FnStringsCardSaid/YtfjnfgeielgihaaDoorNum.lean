/- The contract of the model's l1Num: it returns the decimal text of its argument and leaves the world but for draws. Condition: the argument lies in -9999999..9999999. -/
import Derived.Test.YtfjnfgeielgihaaDoorRows
import Derived.Test.YtfjnfgeielgihaaDoorPlainNum
import Derived.WalkKit
import Derived.IntWalk
import Derived.WalkSpells
import Derived.Lib.Hide
import Derived.Deep.QuietTactic
import Derived.BigQuiet
namespace Go.Proofs.YtfjnfgeielgihaaDoor
open Go.RowKit

/-- The call returns v and leaves the world but for draws. -/
def DrewSome (v : Value) (w : World) (e : Ending) (w' : World) : Prop := e = .returned v ∧ ∃ k, w' = w.drewN k

theorem digit_slice (m : Nat) (hm : m < 10) (W : World) : (Instr.slice 9 (.string { data := #[48, 49, 50, 51, 52, 53, 54, 55, 56, 57] }) (some (.int .i64 (m : Int))) (some (.int .i64 ((m : Int) + 1))) none).run Tryd.prog W = .ok (.string (num m)) W := by
  rw [run_slice_string_if (P := Tryd.prog) W 9 _ .i64 .i64 _ _ Tryd.underlying9, if_pos ⟨by omega, by show (m : Int) + 1 ≤ 10; omega⟩, if_pos ⟨by omega, by omega⟩]
  match m, hm with
  | 0, _ | 1, _ | 2, _ | 3, _ | 4, _ | 5, _ | 6, _ | 7, _ | 8, _ | 9, _ => simp [num, Lib.decDigits]; decide

set_option maxHeartbeats 400000 in
theorem l1Num_small (n : Nat) (w : World) (h : n < 10) :
    Calls Tryd.prog 25 #[.int .i64 n] w (DrewSome (.string (num n)) w) := by
  have h1 : (n : Int) < 10 := by omega
  have h2 : ¬ (n : Int) < 0 := by omega
  have hsl := digit_slice n h
  go_enter Tryd.func25, Tryd.ntmps25
  go_wp2_with fail
  go_ret
  exact ⟨rfl, 0, rfl⟩

set_option maxHeartbeats 400000 in
theorem l1Num_big (n : Nat) (w : World) (h : 10 ≤ n) (hn : n ≤ 9999999) (ih : ∀ W, Calls Tryd.prog 25 #[.int .i64 ((n : Int) / 10)] W (DrewSome (.string (num (n / 10))) W)) :
    Calls Tryd.prog 25 #[.int .i64 n] w (DrewSome (.string (num n)) w) := by
  have h1 : ¬ (n : Int) < 10 := by omega
  have h2 : ¬ (n : Int) < 0 := by omega
  have h3 : 0 ≤ (n : Int) := by omega
  have h4 : (n : Int) ≤ 9999999 := by omega
  have ih2 : ∀ W, Calls Tryd.prog 25 #[.int .i64 ((n : Int) / 10)] W fun e w' => e = .returned (.string (num (n / 10))) ∧ ∃ k, w' = W.drewN k := fun W => ih W
  clear ih
  have hc : ∀ W : World, (Op.stringOp .add (num (n / 10)) (num (n % 10))).run Tryd.prog W = .ok (.string (num n)) W := by
    intro W
    have a := num_size_le (n / 10) (by omega)
    have b := num_size_le (n % 10) (by omega)
    rw [run_string_add_sum W _ _ (by omega), num_digits n (by omega)]
  obtain ⟨m, hm, hm2, hm9⟩ : ∃ m : Nat, (n : Int) % 10 = (m : Int) ∧ n % 10 = m ∧ m < 10 := ⟨n % 10, by omega, rfl, by omega⟩
  have et : (n : Int).tmod 10 = (m : Int) := (Int.tmod_eq_emod_of_nonneg h3).trans hm
  rw [hm2] at hc
  clear hm hm2
  have e1 : IntKind.i64.wrap ((n : Int) / 10) = (n : Int) / 10 := IntWalk.i64_in _ (by omega)
  have e2 : IntKind.i64.wrap (m : Int) = (m : Int) := IntWalk.i64_in _ (by omega)
  have e3 : IntKind.i64.wrap ((m : Int) + 1) = (m : Int) + 1 := IntWalk.i64_in _ (by omega)
  have hsl := digit_slice m hm9
  go_enter Tryd.func25, Tryd.ntmps25
  go_wp2_with fail
  go_quiet ((go_at_call 25; exact Calls.quiet_of (ih2 _)))
  go_wp2_with fail
  go_ret
  exact ⟨rfl, _, rfl⟩

theorem l1Num_nat (n : Nat) : ∀ w : World, n ≤ 9999999 → Calls Tryd.prog 25 #[.int .i64 n] w (DrewSome (.string (num n)) w) := by
  induction n using Nat.strongRecOn with
  | _ n ih =>
    intro w hn
    by_cases h : n < 10
    · exact l1Num_small n w h
    · refine l1Num_big n w (by omega) hn fun W => ?_
      have := ih (n / 10) (by omega) W (by omega)
      rw [show ((n / 10 : Nat) : Int) = (n : Int) / 10 by omega] at this
      exact this

set_option maxHeartbeats 400000 in
theorem l1Num_neg (n : Nat) (w : World) (h1 : 1 ≤ n) (h2 : n ≤ 9999999) :
    Calls Tryd.prog 25 #[.int .i64 (-(n : Int))] w (DrewSome (.string (numI (-(n : Int)))) w) := by
  have a1 : -(n : Int) < 0 := by omega
  have a2 : (n : Int) ≤ 9999999 := by omega
  have hc : ∀ W : World, (Op.stringOp .add { data := #[45] } (num n)).run Tryd.prog W = .ok (.string (numI (-(n : Int)))) W := by
    intro W
    have a := num_size_le n (by omega)
    rw [run_string_add_sum W _ _ (by show 1 + (num n).size ≤ _; omega), numI_neg n h1]
  have ih : ∀ W, Calls Tryd.prog 25 #[.int .i64 (n : Int)] W fun e w' => e = .returned (.string (num n)) ∧ ∃ k, w' = W.drewN k := fun W => l1Num_nat n W h2
  go_enter Tryd.func25, Tryd.ntmps25
  go_wp2_with (go_at_call 25; refine (ih _).mono ?_; rintro e w' ⟨rfl, k, rfl⟩)
  go_ret
  exact ⟨rfl, _, rfl⟩

/-- For every integer of at most seven digits: its text. -/
theorem l1Num_any (n : Int) (w : World) (h1 : -9999999 ≤ n) (h2 : n ≤ 9999999) :
    Calls Tryd.prog 25 #[.int .i64 n] w fun e w' => e = .returned (.string (numI n)) ∧ ∃ k, w' = w.drewN k := by
  by_cases h : n < 0
  · obtain ⟨u, rfl⟩ : ∃ u : Nat, n = -(u : Int) := ⟨n.natAbs, by omega⟩
    exact l1Num_neg u w (by omega) (by omega)
  · obtain ⟨u, rfl⟩ : ∃ u : Nat, n = (u : Int) := ⟨n.toNat, by omega⟩
    rw [numI_nat]
    exact l1Num_nat u w (by omega)

end Go.Proofs.YtfjnfgeielgihaaDoor
