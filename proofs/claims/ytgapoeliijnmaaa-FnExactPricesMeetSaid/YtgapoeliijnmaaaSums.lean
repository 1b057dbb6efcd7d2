/- The contracts of the sums of prices, on both sides. Condition: the list reads as such, its numbers are small. -/
import Derived.Test.YtgapoeliijnmaaaPlainRest
import Derived.Test.YtgapoeliijnmaaaServe
namespace Go.Proofs.Ytgapoeliijnmaaa
open Go.RowKit

theorem sum_due {B : Int} : ∀ {p : List Int}, Dues B p → 0 ≤ B → 0 ≤ p.sum ∧ p.sum ≤ B * p.length
  | [], _, _ => by simp
  | x :: t, h, hB => by
    have ih := sum_due (p := t) (fun y hy => h y (List.mem_cons_of_mem _ hy)) hB
    have hx := h x (List.mem_cons_self ..)
    have e : B * ((x :: t).length : Int) = B * (t.length : Int) + B := by rw [List.length_cons, Int.natCast_succ, Int.mul_add, Int.mul_one]
    rw [List.sum_cons, e]
    omega
theorem take_due {p : List Int} (h : Dues 2097152 p) (k : Nat) : 0 ≤ (p.take k).sum ∧ (p.take k).sum ≤ 2097152 * k := by
  have h1 := sum_due (p := p.take k) (fun x hx => h x (List.mem_of_mem_take hx)) (by omega)
  rw [List.length_take] at h1
  omega

end Go.Proofs.Ytgapoeliijnmaaa
