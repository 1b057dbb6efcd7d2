/- The model's list of all choices. Condition: at most eight sets. -/
import Derived.Test.YtbochmpkjacnnaaChoices
import Derived.Test.YtbochmpkjacnnaaEigSetsOf
import Derived.Test.YtbochmpkjacnnaaPost
import Derived.Test.YtbochmpkjacnnaaAppendRow
namespace Go.Proofs.Ytbochmpkjacnnaa
open Go.RowKit Go.Shelf

set_option maxRecDepth 100000 in
theorem src_noTab (a : Option Addr) (c : Nat) (w : World) : Src Try.prog 1 23 (.slice a 0 c) 0 [] w := by
  have h : ∀ u : World, (Builtin.firstCells 1 0 (.slice a 0 c)).run Try.prog u = .ok #[] u := fun u => by
    cases a with
    | none => exact run_firstCells_none u 1 0 0 c
    | some a => exact run_firstCells_some u 1 0 a 0 c [] rfl (fun j v hj => by simp at hj)
  exact ⟨.inl ⟨_, rfl⟩, fun w' => by simp [Builtin.lenOf], h w, h w.drew, rfl, by simp⟩

set_option maxRecDepth 100000 in
/-- Rows that are appended to an own table, none of them among these. -/
theorem append_tabK (B : Nat) (v : Value) (n : Nat) (xs : List Value) (w : World) (hown : w.ownsRow B 22 1 v n xs) (a : Option Addr) (c m : Nat) (news : List Value) (hm : m = news.length) (hx : RowAt w a c news) (h1 : ∀ u ∈ news, u.oneCell' = true)
    (hb : n + m ≤ 100000) (hB : B ≤ w.heap.size) : ∃ v' w', (Builtin.append_ #[23, 23] 23 #[v, .slice a m c]).run Try.prog w = .ok v' w' ∧ w'.ownsRow B 22 1 v' (n + m) (xs ++ news) ∧ w.grownBy w' v.ownBlock := by
  obtain ⟨i0, hi, hz0, hz1, hz2⟩ := info_parts infoInts
  subst hm
  obtain ⟨_, _, h3⟩ := hx
  by_cases hn : news = []
  · subst hn
    refine ⟨v, w, ?_, by simpa using hown, ⟨rfl, rfl, rfl, Nat.le_refl _, fun _ _ _ => rfl⟩⟩
    have hs : Src Try.prog i0.size 23 (.slice a 0 c) 0 [] w := by rw [hz1]; exact src_noTab a c w
    rcases hown.2 with ⟨rfl, rfl⟩ | ⟨g, cap, cur, rfl, _, _, hnc, _⟩
    · exact run_append_nothing w _ _ _ 22 i0 rfl hi none 0 0 (Nat.le_refl _) _ hs
    · exact run_append_nothing w _ _ _ 22 i0 rfl hi _ n cap hnc _ hs
  · rcases h3 with h3 | ⟨b, o, rfl, _, h4⟩
    · exact absurd h3 hn
    · obtain ⟨v', w', hr, ho, hg, hv, hl⟩ := run_append_own_at (P := Try.prog) (w := w) B 23 23 22 i0 (.slice none 0 0) 1 24 rfl hi hz0 hz1 hz2 rfl (by decide) v n xs hown ⟨b, o, none⟩ news.length c news (by omega) (fun j u hj => by have h5 := h4 j u hj; by_cases e : j = 0 <;> simp_all [Addr.add]) h1 (by unfold maxLen; omega) (by omega) hB
      exact ⟨v', w', hr, ho, hg⟩

/-- The table of all choices, with rows of its own. -/
structure ChoTab (N B : Nat) (w : World) (g cap : Nat) (Q : List Row) : Prop where
  cell : ∀ k, (hk : k < Q.length) → w.cell? ⟨g, k, none⟩ = some (.slice Q[k].a Q[k].l.length Q[k].c)
  lt : g < w.heap.size
  rows : ∀ r ∈ Q, r.In B w.heap.size w ∧ r.Own 3 w
  row : Q.map Row.l = (choL N N).map up
  cap : Q.length ≤ cap ∧ cap ≤ maxLen
theorem ChoTab.on {N B : Nat} {w w' : World} {g cap : Nat} {Q : List Row} (h : ChoTab N B w g cap Q) (t : Below w.heap.size w w') : ChoTab N B w' g cap Q :=
  ⟨fun k hk => (t.cell (p := ⟨g, k, none⟩) h.lt).trans (h.cell k hk), Nat.lt_of_lt_of_le h.lt t.size, fun r hr => ⟨((h.rows r hr).1.on t).wide (Nat.le_refl _) t.size, (h.rows r hr).2.on t⟩, h.row, h.cap⟩
theorem ChoTab.len {N B : Nat} {w : World} {g cap : Nat} {Q : List Row} (h : ChoTab N B w g cap Q) : Q.length = (choL N N).length := by
  have := congrArg List.length h.row; rw [List.length_map, List.length_map] at this; exact this
theorem ChoTab.at {N B : Nat} {w : World} {g cap : Nat} {Q : List Row} (h : ChoTab N B w g cap Q) {k : Nat} (hk : k < Q.length) (h2 : k < (choL N N).length) : Q[k].l = up (choL N N)[k] := by
  have h1 : (Q.map Row.l)[k]? = some Q[k].l := by rw [List.getElem?_map, List.getElem?_eq_getElem hk]; rfl
  rw [h.row, List.getElem?_map, List.getElem?_eq_getElem h2] at h1
  simpa using h1.symm
theorem cho_all : ∀ n ≤ 8, (choL n n).all (fun T => setB n (up T) && decide (T.length ≤ 8) && T.all (fun x => decide (x < n))) = true ∧ (choL n n).length ≤ 256 := by decide +kernel
theorem cho_ok {n : Nat} (hn : n ≤ 8) {T : List Nat} (hT : T ∈ choL n n) : setB n (up T) = true ∧ T.length ≤ 8 ∧ ∀ x ∈ T, x < n := by
  have := List.all_eq_true.1 (cho_all n hn).1 T hT
  simpa [and_assoc] using this
theorem tv_one (R : List Row) : ∀ u ∈ tv R, u.oneCell' = true := fun u hu => by
  unfold tv at hu; obtain ⟨r, _, rfl⟩ := List.mem_map.1 hu; rfl

end Go.Proofs.Ytbochmpkjacnnaa
