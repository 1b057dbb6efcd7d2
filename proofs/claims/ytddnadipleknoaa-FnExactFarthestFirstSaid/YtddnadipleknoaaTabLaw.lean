/- The contracts of the laws' helpers on tables that are arguments. Condition: they read as such. -/
import Derived.Test.YtddnadipleknoaaPost
namespace Go.Proofs.Ytddnadipleknoaa
open Go.RowKit

def Tab.Small (T : Tab) : Prop := T.R.length + tot T.con ≤ 1048576
theorem Tab.Small.rows {T S : Tab} (h : T.Small) (he : S.con = T.con) : S.R.length ≤ 1048576 ∧ tot S.con ≤ 1048576 ∧ ∀ r ∈ S.R, r.l.length ≤ 1048576 := by
  refine tab_small (d := T.con) he ?_
  have h1 : T.con.length = T.R.length := by unfold Tab.con; exact List.length_map _
  unfold Tab.Small at h
  omega
theorem szTab_law (T : Tab) (left : Int) (w : World) (hT : T.At w) (hl0 : 0 ≤ left) (hl1 : left ≤ 1048576) :
    Calls Try.prog 7 #[.slice T.a T.R.length T.c, .int .i64 left] w fun e w' => (∃ r : Int, e = .returned (.int .i64 r) ∧ (0 ≤ r → r + T.R.length + tot T.con ≤ left) ∧ r ≤ 1048576) ∧ Below w.heap.size w w' :=
  (show Calls Try.prog 7 #[T.val, .int .i64 left] w _ from szTab_any T left w hT hl0 hl1).mono fun e w' ⟨h1, h2⟩ => ⟨h1, by subst h2; exact Below.refl _ _⟩
theorem toTab_law (T : Tab) (w : World) (hT : T.At w) (hs : T.Small) :
    Calls Try.prog 9 #[.slice T.a T.R.length T.c] w fun e w' => ∃ S : Tab, e = .returned (.slice S.a S.R.length S.c) ∧ S.con = T.con ∧ S.Own 3 w' ∧ S.In w.heap.size w'.heap.size w' ∧ Below w.heap.size w w' :=
  toTab_any T w hT (Tab.Small.rows hs rfl).1 (Tab.Small.rows hs rfl).2.2

end Go.Proofs.Ytddnadipleknoaa
