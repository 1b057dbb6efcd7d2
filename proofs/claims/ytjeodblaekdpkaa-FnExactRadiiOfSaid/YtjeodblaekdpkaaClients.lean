/- The contracts of the clients that a site serves and of the sites that serve none, on the model's side. Condition: a valid Field and a valid set. -/
import Derived.Test.YtjeodblaekdpkaaGrow
import Derived.Test.YtjeodblaekdpkaaPairServedBy
import Derived.Deep.AppendLies
import Derived.Deep.RegionHeld3
namespace Go.Proofs.Ytjeodblaekdpkaa
open Go.RowKit

/-- The clients before the k-th one that a site serves. -/
def cliTo (d : List (List Int)) (T : List Nat) (site k : Nat) : List Int := ((List.range k).filter fun i => decide (near (d.getD i []) T = site)).map fun (i : Nat) => (i : Int)
theorem cli_step (d : List (List Int)) (T : List Nat) (site k : Nat) : cliTo d T site (k + 1) = cliTo d T site k ++ (if near (d.getD k []) T = site then [(k : Int)] else []) := by
  unfold cliTo
  rw [List.range_succ, List.filter_append, List.map_append]
  simp only [List.filter_cons, List.filter_nil]
  by_cases h : near (d.getD k []) T = site
  · rw [if_pos (decide_eq_true h), if_pos h]; rfl
  · rw [if_neg (by rw [decide_eq_true_eq]; exact h), if_neg h]; rfl
theorem cli_len (d : List (List Int)) (T : List Nat) (site : Nat) : ∀ k, (cliTo d T site k).length ≤ k
  | 0 => by simp [cliTo]
  | k + 1 => by rw [cli_step, List.length_append]; have := cli_len d T site k; split <;> simp <;> omega
theorem con_getD (F : Fld) {k : Nat} (h : k < F.t.R.length) : F.t.con.getD k [] = F.t.R[k].l := by
  rw [List.getD_eq_getElem?_getD, List.getElem?_eq_getElem (by rw [con_length]; exact h), Option.getD_some, con_at F.t h]

/-- What ClientsOf answers. -/
def Clis (F : Fld) (s : Row) (d : List (List Int)) (b : Bool) : Prop :=
  (twoB F s = false ∧ d = [] ∧ b = false) ∨ (∃ T, Fine F s T ∧ twoB F s = true ∧ d = (T.map fun m => cliTo F.t.con T m F.t.R.length) ∧ b = true)
theorem set_few {F : Fld} {s : Row} {T : List Nat} (h : Fine F s T) (hs : s.l.length ≤ 1048576) : T.length ≤ 1048576 := by have := congrArg List.length h.set; rw [up_length] at this; omega

end Go.Proofs.Ytjeodblaekdpkaa
