/- IsMetricGround on both sides, as its law wants it. No condition. -/
import Derived.Test.YtmbgipllkbahpaaMetricI
namespace Go.Proofs.Ytmbgipllkbahpaa

theorem isMetricGround_pair (T : Tab) (_ : T.Small) : ∃ v b : Bool,
    (∀ (Q : Tab) (W : World), Q.At W → Q.con = T.con → Calls Try.prog 14 #[.slice Q.a Q.R.length Q.c] W (PBool2 v b W)) ∧
    (∀ (Q : Tab) (W : World), Q.At W → Q.con = T.con → Calls Try.prog 15 #[.slice Q.a Q.R.length Q.c] W (PBool2 v b W)) :=
  ⟨grdB T.con && metG T.con, grdB T.con, fun Q W hQ hq => by have := specMetricG_any Q W hQ; rw [hq] at this; exact this, fun Q W hQ hq => by have := implMetricG_any Q W hQ; rw [hq] at this; exact this⟩
end Go.Proofs.Ytmbgipllkbahpaa
