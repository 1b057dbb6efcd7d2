/- The contracts of the tests whether a Field is valid, on both sides. Condition: the Field reads as such. -/
import Derived.Test.YtbngmjmcmdfphaaInts
import Derived.Test.YtbngmjmcmdfphaaPlainField
namespace Go.Proofs.Ytbngmjmcmdfphaa
open Go.RowKit

theorem l1In_any (x a b : Int) (w : World) :
    Calls Try.prog 42 #[.int .i64 x, .int .i64 a, .int .i64 b] w fun e w' => e = .returned (.bool (decide (a ≤ x) && decide (x ≤ b))) ∧ w' = w := by
  by_cases h : a ≤ x
  · go_enter Try.func42, Try.ntmps42
    go_wp2
    go_ret
    exact ⟨by simp [h], rfl⟩
  · go_enter Try.func42, Try.ntmps42
    go_wp2
    go_ret
    exact ⟨by simp; omega, rfl⟩

end Go.Proofs.Ytbngmjmcmdfphaa
