/- IsGround on both sides, as its law wants it. No condition. -/
import Derived.Test.YtmbgipllkbahpaaGroundI
namespace Go.Proofs.Ytmbgipllkbahpaa

theorem isGround_pair (T : Tab) (_ : T.Small) : ∃ v : Bool,
    (∀ (Q : Tab) (W : World), Q.At W → Q.con = T.con → Calls Try.prog 10 #[.slice Q.a Q.R.length Q.c] W (PBool v W)) ∧
    (∀ (Q : Tab) (W : World), Q.At W → Q.con = T.con → Calls Try.prog 12 #[.slice Q.a Q.R.length Q.c] W (PBool v W)) :=
  ⟨grdB T.con, fun Q W hQ hq => by have := specIsGround_any Q W hQ; rw [hq] at this; exact this, fun Q W hQ hq => by have := implIsGround_any Q W hQ; rw [hq] at this; exact this⟩
end Go.Proofs.Ytmbgipllkbahpaa
