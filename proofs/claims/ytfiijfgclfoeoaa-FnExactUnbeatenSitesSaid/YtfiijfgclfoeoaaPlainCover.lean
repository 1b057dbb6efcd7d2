/- Plain mathematics of what a choice covers. No condition. -/
import Derived.Test.YtfiijfgclfoeoaaPlainSys
import Derived.Test.YtfiijfgclfoeoaaDedup
namespace Go.Proofs.Ytfiijfgclfoeoaa

/-- The elements of some sets, one set after the other. -/
def flatS (d : List (List Int)) (T : List Nat) : List Int := (T.map fun m => d.getD m []).flatten
/-- The elements that a choice covers. -/
def elsT (d : List (List Int)) (T : List Nat) : List Int := putAll (flatS d T)
theorem flatS_step (d : List (List Int)) (T : List Nat) {k : Nat} (h : k < T.length) : flatS d (T.take (k + 1)) = flatS d (T.take k) ++ d.getD T[k] [] := by
  unfold flatS; rw [List.take_succ_eq_append_getElem h, List.map_append, List.flatten_append]; simp
theorem putAll_app (a b : List Int) : putAll (a ++ b) = b.foldl putS (putAll a) := by unfold putAll; rw [List.foldl_append]
theorem rise_up (n : Int) : ∀ (xs : List Int) (lo : Int), rise n lo xs = true → (xs.length : Int) ≤ max 0 (n - 1 - lo)
  | [], lo, _ => by simp; omega
  | x :: r, lo, h => by
    simp only [rise, Bool.and_eq_true, decide_eq_true_eq] at h
    have := rise_up n r x h.2
    rw [List.length_cons]; push_cast; omega
theorem set_len {n : Nat} {l : List Int} (h : setB n l = true) : l.length ≤ n := by have := rise_up n l (-1) h; omega
theorem flat_bound {d : List (List Int)} {n : Nat} (h : ∀ l ∈ d, l.length ≤ n) : ∀ T : List Nat, (flatS d T).length ≤ n * T.length
  | [] => by simp [flatS]
  | m :: t => by
    have ih := flat_bound h t
    have : (d.getD m []).length ≤ n := by
      rw [List.getD_eq_getElem?_getD]
      cases e : d[m]? with
      | none => simp
      | some l => exact h l (List.mem_of_getElem? e)
    unfold flatS at ih ⊢
    rw [List.map_cons, List.flatten_cons, List.length_append, List.length_cons, Nat.mul_add, Nat.mul_one]; omega
/-- A valid System and a valid choice. -/
def twoS (S : Sys) (c : List Int) : Bool := S.good && setB S.f.t.con.length c
structure FineS (S : Sys) (c : Row) (T : List Nat) : Prop where
  good : S.good = true
  set : c.l = up T
  lt : ∀ m ∈ T, m < S.f.t.con.length
  few : T.length ≤ 8
  ris : setB S.f.t.con.length (up T) = true
theorem fineS_of {S : Sys} {c : Row} (h : twoS S c.l = true) : ∃ T, FineS S c T := by
  unfold twoS at h
  rw [Bool.and_eq_true] at h
  obtain ⟨T, h1, h2⟩ := set_nat h.2
  have h3 := set_len h.2
  have h4 := (sysB_iff.1 h.1).2.2.1
  exact ⟨T, h.1, h1, h2, by rw [h1, up_length] at h3; omega, by rw [← h1]; exact h.2⟩
theorem FineS.like {S U : Sys} {c e : Row} {T : List Nat} (h : FineS S c T) (hl : U.Like S) (he : e.l = c.l) : FineS U e T :=
  ⟨hl.good.trans h.good, he.trans h.set, fun m hm => by rw [hl.2.2]; exact h.lt m hm, h.few, by rw [hl.2.2]; exact h.ris⟩
theorem good_n {S : Sys} (h : S.good = true) : ∃ n : Nat, S.n = n ∧ n ≤ 8 ∧ S.f.t.con.length ≤ 8 ∧ S.f.o.l.length = S.f.t.con.length ∧ (∀ x ∈ S.f.o.l, 1 ≤ x ∧ x ≤ 99) ∧ ∀ l ∈ S.f.t.con, setB n l = true := by
  obtain ⟨h1, h2, h3, h4, h5, h6⟩ := sysB_iff.1 h
  exact ⟨S.n.toNat, by omega, by omega, h3, h4, fun x hx => fromTo_iff.1 (List.all_eq_true.1 h5 x hx), fun l hl => List.all_eq_true.1 h6 l hl⟩
theorem good_row8 {S : Sys} (h : S.good = true) : ∀ l ∈ S.f.t.con, l.length ≤ 8 := by
  obtain ⟨n, _, h2, _, _, _, h6⟩ := good_n h
  exact fun l hl => Nat.le_trans (set_len (h6 l hl)) h2

end Go.Proofs.Ytfiijfgclfoeoaa
