/- Whether so many places have a dispersion: the program's side. Condition: the table reads as such. -/
import Derived.Test.YtddnadipleknoaaDispI
namespace Go.Proofs.Ytddnadipleknoaa
open Go.RowKit

def spreadB (d : List (List Int)) (k : Int) : Bool := grdB d && decide (2 ≤ k) && decide (k ≤ (d.length : Int))
set_option maxHeartbeats 1000000 in
theorem canSpread_any (T : Tab) (k : Int) (w : World) (hT : T.At w) :
    Calls Try.prog 28 #[.slice T.a T.R.length T.c, .int .i64 k] w fun e w' => e = .returned (.bool (spreadB T.con k)) ∧ Below w.heap.size w w' := by
  have C := Lib.hid (isValid_any T w hT)
  obtain ⟨g, hg⟩ : ∃ g, g = grdB T.con := ⟨_, rfl⟩
  have HE : Hid (spreadB T.con k = (g && decide (2 ≤ k) && decide (k ≤ (T.R.length : Int)))) := Lib.hid (by unfold spreadB; rw [hg, con_length])
  rw [← hg] at C
  rw [HE.out]
  clear hT hg HE
  cases g with
  | false =>
    go_enter Try.func28, Try.ntmps28
    go_wp2_with fail
    refine (show Calls _ _ _ _ _ from C.out).mono ?_
    rintro e W ⟨rfl, hb⟩
    go_wp2
    go_ret
    exact ⟨rfl, hb⟩
  | true =>
    by_cases h2 : 2 ≤ k
    · have hge : k ≥ 2 := h2
      have HD : Hid ((true && decide (2 ≤ k) && decide (k ≤ (T.R.length : Int))) = decide (k ≤ (T.R.length : Int))) := Lib.hid (by rw [decide_eq_true h2]; simp)
      rw [HD.out]
      go_enter Try.func28, Try.ntmps28
      go_wp2_with fail
      refine (show Calls _ _ _ _ _ from C.out).mono ?_
      rintro e W ⟨rfl, hb⟩
      go_wp2
      go_ret
      exact ⟨rfl, hb⟩
    · have hge : ¬ k ≥ 2 := h2
      have HD : Hid ((true && decide (2 ≤ k) && decide (k ≤ (T.R.length : Int))) = false) := Lib.hid (by rw [decide_eq_false h2]; rfl)
      rw [HD.out]
      go_enter Try.func28, Try.ntmps28
      go_wp2_with fail
      refine (show Calls _ _ _ _ _ from C.out).mono ?_
      rintro e W ⟨rfl, hb⟩
      go_wp2
      go_ret
      exact ⟨rfl, hb⟩
end Go.Proofs.Ytddnadipleknoaa
