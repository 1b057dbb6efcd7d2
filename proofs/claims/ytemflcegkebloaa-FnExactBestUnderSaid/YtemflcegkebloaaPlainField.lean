/- Plain mathematics of Fields and sets of sites. No condition. -/
import Derived.Test.YtemflcegkebloaaMem
namespace Go.Proofs.Ytemflcegkebloaa

theorem all_take {α : Type} {l : List α} {p : α → Bool} {k : Nat} (h : k < l.length) (ht : (l.take k).all p = true) (hp : p l[k] = true) : (l.take (k + 1)).all p = true := by
  rw [List.take_succ_eq_append_getElem h, List.all_append, ht]; simp [hp]
theorem all_out {α : Type} {l : List α} {p : α → Bool} {k : Nat} (h : k < l.length) (hp : p l[k] = false) : l.all p = false := by
  rw [List.all_eq_false]; exact ⟨l[k], List.getElem_mem h, by simp [hp]⟩
theorem all_end {α : Type} {l : List α} {p : α → Bool} (ht : (l.take l.length).all p = true) : l.all p = true := by rw [List.take_length] at ht; exact ht
theorem any_take {α : Type} {l : List α} {p : α → Bool} {k : Nat} (h : k < l.length) (ht : (l.take k).any p = false) (hp : p l[k] = false) : (l.take (k + 1)).any p = false := by
  rw [List.take_succ_eq_append_getElem h, List.any_append, ht]; simp [hp]

/-- From 0 to m. -/
def upTo (m x : Int) : Bool := decide (0 ≤ x) && decide (x ≤ m)
theorem upTo_yes {m x : Int} (h0 : 0 ≤ x) (h1 : x ≤ m) : upTo m x = true := by simp [upTo, h0, h1]
theorem upTo_iff {m x : Int} : upTo m x = true ↔ 0 ≤ x ∧ x ≤ m := by simp [upTo]
theorem upTo_no {m x : Int} (h : x < 0 ∨ m < x) : upTo m x = false := by
  rw [Bool.eq_false_iff]; intro e; have := upTo_iff.1 e; omega
/-- A list of n lengths. -/
def rowB (n : Nat) (l : List Int) : Bool := l.all (upTo 99) && decide (l.length = n)
/-- A Field that is valid. -/
def goodB (o : List Int) (d : List (List Int)) : Bool := decide (1 ≤ o.length) && decide (o.length ≤ 7) && o.all (upTo 99) && decide (d.length ≤ 7) && d.all (rowB o.length)
theorem goodB_iff {o : List Int} {d : List (List Int)} : goodB o d = true ↔ 1 ≤ o.length ∧ o.length ≤ 7 ∧ o.all (upTo 99) = true ∧ d.length ≤ 7 ∧ d.all (rowB o.length) = true := by
  unfold goodB; simp [and_assoc]
def Fld.good (F : Fld) : Bool := goodB F.o.l F.t.con
theorem con_length (T : Tab) : T.con.length = T.R.length := by unfold Tab.con; exact List.length_map _
theorem con_at (T : Tab) {k : Nat} (h : k < T.R.length) : T.con[k]'(by rw [con_length]; exact h) = T.R[k].l := by simp [Tab.con]
theorem Fld.Like.good {F G : Fld} (h : F.Like G) : F.good = G.good := by unfold Fld.good; rw [h.1, h.2]

theorem nat_eqB (a b : Nat) : (((a : Int)) == ((b : Int))) = decide (a = b) := by rw [Bool.eq_iff_iff]; simp; omega
theorem nat_neB (a b : Nat) : (((a : Int)) != ((b : Int))) = !decide (a = b) := by unfold bne; rw [nat_eqB]

end Go.Proofs.Ytemflcegkebloaa
