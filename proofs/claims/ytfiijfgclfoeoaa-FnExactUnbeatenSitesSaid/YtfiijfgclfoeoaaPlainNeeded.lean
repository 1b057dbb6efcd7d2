/- Plain mathematics of sites that replace each other. No condition. -/
import Derived.Test.YtfiijfgclfoeoaaPlainServe
namespace Go.Proofs.Ytfiijfgclfoeoaa

def noMore (a b : Nat) (row : List Int) : Bool := decide (row.getD b 0 ≤ row.getD a 0)
def alike (a b : Nat) (row : List Int) : Bool := decide (row.getD a 0 = row.getD b 0)
/-- Whether a site a is replaced by a site b. -/
def repB (o : List Int) (d : List (List Int)) (a b : Nat) : Bool :=
  (noMore a b o && d.all (noMore a b)) && (!(alike a b o && d.all (alike a b)) || decide (b < a))
theorem rep_self (o : List Int) (d : List (List Int)) (a : Nat) : repB o d a a = false := by
  unfold repB alike
  simp
theorem rep_cost {o : List Int} {d : List (List Int)} {a b : Nat} (h : noMore a b o = false) : repB o d a b = false := by unfold repB; simp [h]
theorem rep_row {o : List Int} {d : List (List Int)} {a b : Nat} (h : d.all (noMore a b) = false) : repB o d a b = false := by unfold repB; simp [h]
theorem rep_yes {o : List Int} {d : List (List Int)} {a b : Nat} {v : Bool} (h : noMore a b o = true) (h2 : d.all (noMore a b) = true) (h3 : v = (alike a b o && d.all (alike a b))) : repB o d a b = (!v || decide (b < a)) := by
  unfold repB; rw [h, h2, h3]; simp
theorem alike_step {d : List (List Int)} {k : Nat} {a b : Nat} {u v : Bool} (h : k < d.length) (hv : v = (u && (d.take k).all (alike a b))) : (v && alike a b d[k]) = (u && (d.take (k + 1)).all (alike a b)) := by
  rw [List.take_succ_eq_append_getElem h, List.all_append, hv]; simp [Bool.and_assoc]
/-- Whether no site before the k-th one replaces a. -/
def freeTo (o : List Int) (d : List (List Int)) (a k : Nat) : Bool := (List.range k).all fun b => !repB o d a b
theorem free_step (o : List Int) (d : List (List Int)) (a k : Nat) : freeTo o d a (k + 1) = (freeTo o d a k && !repB o d a k) := by
  unfold freeTo; rw [List.range_succ, List.all_append]; simp
/-- The needed sites before the k-th one. -/
def needTo (o : List Int) (d : List (List Int)) (k : Nat) : List Int := ((List.range k).filter fun a => freeTo o d a o.length).map fun (a : Nat) => (a : Int)
theorem need_step (o : List Int) (d : List (List Int)) (k : Nat) : needTo o d (k + 1) = needTo o d k ++ (if freeTo o d k o.length then [(k : Int)] else []) := by
  unfold needTo; rw [List.range_succ, List.filter_append, List.map_append]
  by_cases h : freeTo o d k o.length = true <;> simp [h]
theorem need_len (o : List Int) (d : List (List Int)) : ∀ k, (needTo o d k).length ≤ k
  | 0 => by simp [needTo]
  | k + 1 => by rw [need_step, List.length_append]; have := need_len o d k; split <;> simp <;> omega

end Go.Proofs.Ytfiijfgclfoeoaa
