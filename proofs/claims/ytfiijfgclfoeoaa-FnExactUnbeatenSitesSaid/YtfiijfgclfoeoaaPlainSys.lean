/- Plain mathematics of Systems. No condition. -/
import Derived.Test.YtfiijfgclfoeoaaSysMem
import Derived.Test.YtfiijfgclfoeoaaPlainServe
namespace Go.Proofs.Ytfiijfgclfoeoaa

/-- A cost of a set: from 1 to 99. -/
def fromTo (a b x : Int) : Bool := decide (a ≤ x) && decide (x ≤ b)
theorem fromTo_iff {a b x : Int} : fromTo a b x = true ↔ a ≤ x ∧ x ≤ b := by simp [fromTo]
/-- A System that is valid. -/
def sysB (n : Int) (o : List Int) (d : List (List Int)) : Bool := decide (0 ≤ n) && decide (n ≤ 8) && decide (d.length ≤ 8) && decide (o.length = d.length) && o.all (fromTo 1 99) && d.all (setB n.toNat)
def Sys.good (S : Sys) : Bool := sysB S.n S.f.o.l S.f.t.con
theorem Sys.Like.good {S T : Sys} (h : S.Like T) : S.good = T.good := by unfold Sys.good; rw [h.1, h.2.1, h.2.2]
theorem sysB_iff {n : Int} {o : List Int} {d : List (List Int)} : sysB n o d = true ↔ 0 ≤ n ∧ n ≤ 8 ∧ d.length ≤ 8 ∧ o.length = d.length ∧ o.all (fromTo 1 99) = true ∧ d.all (setB n.toNat) = true := by
  unfold sysB; simp only [Bool.and_eq_true, decide_eq_true_eq, and_assoc]
theorem sysB_no {n : Int} {o : List Int} {d : List (List Int)} (h : ¬ (0 ≤ n ∧ n ≤ 8 ∧ d.length ≤ 8 ∧ o.length = d.length)) : sysB n o d = false := by
  rw [Bool.eq_false_iff]; intro e; have := sysB_iff.1 e; exact h ⟨this.1, this.2.1, this.2.2.1, this.2.2.2.1⟩
theorem sysB_noCost {n : Int} {o : List Int} {d : List (List Int)} (h : o.all (fromTo 1 99) = false) : sysB n o d = false := by unfold sysB; rw [h]; simp
theorem sysB_noSet {n : Int} {o : List Int} {d : List (List Int)} (h : d.all (setB n.toNat) = false) : sysB n o d = false := by unfold sysB; rw [h]; simp

end Go.Proofs.Ytfiijfgclfoeoaa
