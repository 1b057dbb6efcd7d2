/- Both sides of IsPlan answer alike. Condition: the arguments read as such. -/
import Derived.Test.YtnkigfopejbcpaaPlan
namespace Go.Proofs.Ytnkigfopejbcpaa
open Go.RowKit
theorem isPlan_pair (S : Sea) (P : Tab) (_ : S.Small) (_ : P.Small) : ∃ v b : Bool,
    (∀ (G : Sea) (Q : Tab) (W : World), G.At W → Q.At W → G.Like S → Q.con = P.con → Calls Try.prog 14 #[.agg #[.slice G.o.a G.o.l.length G.o.c, .slice G.x.a G.x.l.length G.x.c, .slice G.k.a G.k.l.length G.k.c, .slice G.r.a G.r.T.length G.r.c], .slice Q.a Q.R.length Q.c] W (PBool2 v b W)) ∧
    (∀ (G : Sea) (Q : Tab) (W : World), G.At W → Q.At W → G.Like S → Q.con = P.con → Calls Try.prog 16 #[.agg #[.slice G.o.a G.o.l.length G.o.c, .slice G.x.a G.x.l.length G.x.c, .slice G.k.a G.k.l.length G.k.c, .slice G.r.a G.r.T.length G.r.c], .slice Q.a Q.R.length Q.c] W (PBool2 v b W)) :=
  ⟨S.good && planB S.o.l.length S.r.con P.con, S.good,
   fun G Q W h hQ hl hq => by have := specIsPlan_any G Q W h hQ; rw [show (G.good && planB G.o.l.length G.r.con Q.con) = (S.good && planB S.o.l.length S.r.con P.con) by rw [hl.good, hl.1, hl.2.2.2, hq], hl.good] at this; exact this,
   fun G Q W h hQ hl hq => by have := implIsPlan_any G Q W h hQ; rw [show (G.good && planB G.o.l.length G.r.con Q.con) = (S.good && planB S.o.l.length S.r.con P.con) by rw [hl.good, hl.1, hl.2.2.2, hq], hl.good] at this; exact this⟩
end Go.Proofs.Ytnkigfopejbcpaa
