/- The contracts of reaches, on both sides. Condition: Field and set read as such. -/
import Derived.Test.YtokalloiikbppaaPairServiceOf
namespace Go.Proofs.Ytokalloiikbppaa
open Go.RowKit

theorem most_any (x y : Int) (w : World) :
    Calls Try.prog 75 #[.int .i64 x, .int .i64 y] w fun e w' => e = .returned (.int .i64 (max x y)) ∧ w' = w := by
  by_cases h : y < x
  · have hm : Hid (max x y = x) := Lib.hid (by omega)
    go_enter Try.func75, Try.ntmps75
    go_wp2
    go_ret
    exact ⟨by rw [hm.out]; rfl, rfl⟩
  · have hm : Hid (max x y = y) := Lib.hid (by omega)
    go_enter Try.func75, Try.ntmps75
    go_wp2
    go_ret
    exact ⟨by rw [hm.out]; rfl, rfl⟩

end Go.Proofs.Ytokalloiikbppaa
