/- Plain mathematics of prices of elements. No condition. -/
import Derived.Test.YtffjlecibpmgiaaPlainCover
namespace Go.Proofs.Ytffjlecibpmgiaa

/-- The prices of the elements of a set. -/
def prOf (p l : List Int) : List Int := l.map fun x => p.getD x.toNat 0
theorem prOf_len (p l : List Int) : (prOf p l).length = l.length := List.length_map _
theorem prOf_get (p l : List Int) {i : Nat} (h : i < l.length) : (prOf p l)[i]'(by rw [prOf_len]; exact h) = p.getD l[i].toNat 0 := by simp [prOf]
theorem sum_within {m : Int} {l : List Int} (h : ∀ x ∈ l, 0 ≤ x ∧ x ≤ m) : 0 ≤ l.sum ∧ l.sum ≤ m * l.length := by
  induction l with
  | nil => simp
  | cons x r ih =>
    have h1 := h x List.mem_cons_self
    have h2 := ih fun y hy => h y (List.mem_cons_of_mem _ hy)
    rw [List.sum_cons, List.length_cons]
    push_cast
    rw [Int.mul_add]
    omega
theorem getD_within {m : Int} (hm : 0 ≤ m) {p : List Int} (h : ∀ x ∈ p, 0 ≤ x ∧ x ≤ m) (k : Nat) : 0 ≤ p.getD k 0 ∧ p.getD k 0 ≤ m := by
  rw [List.getD_eq_getElem?_getD]
  cases e : p[k]? with
  | none => simp; exact hm
  | some y => simpa using h y (List.mem_of_getElem? e)
theorem prOf_within {m : Int} (hm : 0 ≤ m) {p : List Int} (h : ∀ x ∈ p, 0 ≤ x ∧ x ≤ m) (l : List Int) (k : Nat) (hl : l.length ≤ 8) : 0 ≤ ((prOf p l).take k).sum ∧ ((prOf p l).take k).sum ≤ m * 8 := by
  have h1 := sum_within (m := m) (l := (prOf p l).take k) (fun x hx => by
    obtain ⟨y, _, rfl⟩ := List.mem_map.1 (show x ∈ l.map _ from List.mem_of_mem_take hx)
    exact getD_within hm h _)
  rw [List.length_take, prOf_len] at h1
  refine ⟨h1.1, Int.le_trans h1.2 (Int.mul_le_mul_of_nonneg_left ?_ hm)⟩
  omega
/-- The cost of a set times the scale less the prices of its elements. -/
def restS (S : Sys) (p : List Int) (z : Int) (i : Nat) : Int := S.f.o.l.getD i 0 * z - (prOf p (S.f.t.con.getD i [])).sum
/-- Whether these are prices at all. -/
def pricesS (S : Sys) (p : List Int) (z : Int) : Bool := S.good && (p.all (upTo 1000000) && decide ((p.length : Int) = S.n)) && fromTo 1 1000000 z
def restsS (S : Sys) (p : List Int) (z : Int) : List Int := (List.range S.f.t.con.length).map (restS S p z)
def fairS (S : Sys) (p : List Int) (z : Int) : Bool := (restsS S p z).all fun r => decide (0 ≤ r)
theorem restS_like {S U : Sys} (hl : U.Like S) : restS U = restS S := by funext p z i; unfold restS; rw [hl.2.1, hl.2.2]
theorem restsS_like {S U : Sys} (hl : U.Like S) : restsS U = restsS S := by funext p z; unfold restsS; rw [hl.2.2, restS_like hl]
theorem fairS_like {S U : Sys} (hl : U.Like S) : fairS U = fairS S := by funext p z; unfold fairS; rw [restsS_like hl]
theorem pricesS_like {S U : Sys} (hl : U.Like S) : pricesS U = pricesS S := by funext p z; unfold pricesS; rw [hl.good, hl.1]
theorem restsS_len (S : Sys) (p : List Int) (z : Int) : (restsS S p z).length = S.f.t.con.length := by unfold restsS; simp
theorem restsS_get (S : Sys) (p : List Int) (z : Int) {i : Nat} (h : i < S.f.t.con.length) : (restsS S p z)[i]'(by rw [restsS_len]; exact h) = restS S p z i := by simp [restsS]
theorem con_getD (T : Tab) {k : Nat} (h : k < T.R.length) : T.con.getD k [] = T.R[k].l := by
  rw [List.getD_eq_getElem?_getD, List.getElem?_eq_getElem (by rw [con_length]; exact h), Option.getD_some, con_at T h]

end Go.Proofs.Ytffjlecibpmgiaa
