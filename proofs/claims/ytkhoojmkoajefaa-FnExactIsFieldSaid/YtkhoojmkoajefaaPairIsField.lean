/- Both sides of IsField answer alike. Condition: the Field reads as such. -/
import Derived.Test.YtkhoojmkoajefaaGood
import Derived.Test.YtkhoojmkoajefaaPost
namespace Go.Proofs.Ytkhoojmkoajefaa
open Go.RowKit
theorem isField_pair (F : Fld) (_ : F.Small) : ∃ v : Bool,
    (∀ (G : Fld) (W : World), G.At W → G.Like F → Calls Try.prog 16 #[G.val] W (PBool v W)) ∧
    (∀ (G : Fld) (W : World), G.At W → G.Like F → Calls Try.prog 18 #[G.val] W (PBool v W)) :=
  ⟨F.good, fun G W h hl => by have := specIsField_any G W h; rw [hl.good] at this; exact this, fun G W h hl => by have := implIsField_any G W h; rw [hl.good] at this; exact this⟩
end Go.Proofs.Ytkhoojmkoajefaa
