/- Plain mathematics of a rising list in which one number takes another's place. No condition. -/
import Derived.Test.YtemflcegkebloaaPlainRow
namespace Go.Proofs.Ytemflcegkebloaa

/-- A list with a number put to its place. -/
def putAt (l : List Int) (n : Int) : List Int := l.takeWhile (fun x => decide (x < n)) ++ n :: l.dropWhile (fun x => decide (x < n))
theorem putAt_perm (l : List Int) (n : Int) : (putAt l n).Perm (n :: l) := by
  unfold putAt
  refine List.perm_middle.trans ?_
  rw [List.takeWhile_append_dropWhile]
theorem putAt_rises (l : List Int) (n : Int) (h : l.Pairwise (· < ·)) (hn : n ∉ l) : (putAt l n).Pairwise (· < ·) := by
  induction l with
  | nil => simp [putAt]
  | cons a t ih =>
    have hp := List.pairwise_cons.1 h
    have hna : n ≠ a := fun e => hn (by simp [e])
    have hnt : n ∉ t := fun e => hn (by simp [e])
    by_cases ha : a < n
    · have e : putAt (a :: t) n = a :: putAt t n := by simp [putAt, ha]
      rw [e]
      refine List.pairwise_cons.2 ⟨fun x hx => ?_, ih hp.2 hnt⟩
      rcases List.mem_cons.1 ((putAt_perm t n).mem_iff.1 hx) with rfl | hx
      · exact ha
      · exact hp.1 x hx
    · have e : putAt (a :: t) n = n :: a :: t := by simp [putAt, ha]
      rw [e]
      have hlt : n < a := by omega
      refine List.pairwise_cons.2 ⟨fun x hx => ?_, h⟩
      rcases List.mem_cons.1 hx with rfl | hx
      · exact hlt
      · have := hp.1 x hx; omega
/-- A list without a number. -/
def without (l : List Int) (o : Int) : List Int := l.filter fun x => !decide (x = o)
theorem without_none {l : List Int} {o : Int} (h : o ∉ l) : without l o = l := by
  unfold without
  refine List.filter_eq_self.2 fun a ha => ?_
  have : a ≠ o := fun e => h (e ▸ ha)
  simp [this]
theorem set_perm (n : Int) : ∀ (l : List Int) (k : Nat) (hk : k < l.length), l.Pairwise (· < ·) → (l.set k n).Perm (n :: without l l[k])
  | a :: t, 0, _, h => by
    have hp := List.pairwise_cons.1 h
    have hat : a ∉ t := fun e => by have := hp.1 a e; omega
    have e : without (a :: t) a = t := by
      rw [show without (a :: t) a = without t a from by simp [without], without_none hat]
    simp [e]
  | a :: t, k + 1, hk, h => by
    have hp := List.pairwise_cons.1 h
    have hk' : k < t.length := by simpa using hk
    have hne : a ≠ t[k] := fun e => by have := hp.1 _ (List.getElem_mem hk'); omega
    have e : without (a :: t) (a :: t)[k + 1] = a :: without t t[k] := by simp [without, hne]
    rw [e, List.set_cons_succ]
    exact ((set_perm n t k hk' hp.2).cons a).trans (List.Perm.swap n a _)
theorem without_rises {l : List Int} {o : Int} (h : l.Pairwise (· < ·)) : (without l o).Pairwise (· < ·) := h.sublist List.filter_sublist
/-- The only rising list with these numbers. -/
theorem rises_unique {a b : List Int} (ha : a.Pairwise (· < ·)) (hb : b.Pairwise (· ≤ ·)) (h : a.Perm b) : a = b :=
  List.Perm.eq_of_pairwise (le := fun x y : Int => x ≤ y) (fun x y _ _ h1 h2 => by omega) (ha.imp fun h => by omega) hb h
theorem swap_sorted {l s : List Int} {k : Nat} {n : Int} (hk : k < l.length) (h : l.Pairwise (· < ·)) (hn : n ∉ l) (hs : s.Pairwise (· ≤ ·)) (hp : s.Perm (l.set k n)) : putAt (without l l[k]) n = s := by
  refine rises_unique (putAt_rises _ _ (without_rises h) (fun e => hn ((List.mem_filter.1 e).1))) hs ?_
  exact (putAt_perm _ _).trans ((set_perm n l k hk h).symm.trans hp.symm)
theorem swap_len {l : List Int} {k : Nat} {n : Int} (hk : k < l.length) (h : l.Pairwise (· < ·)) : (putAt (without l l[k]) n).length = l.length := by
  rw [((putAt_perm (without l l[k]) n).trans (set_perm n l k hk h).symm).length_eq]; simp

end Go.Proofs.Ytemflcegkebloaa
