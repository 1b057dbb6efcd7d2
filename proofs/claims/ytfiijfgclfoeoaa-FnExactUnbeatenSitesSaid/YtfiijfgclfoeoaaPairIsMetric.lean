/- Both sides of IsMetric answer alike. Condition: the Field reads as such. -/
import Derived.Test.YtfiijfgclfoeoaaNeeded
namespace Go.Proofs.Ytfiijfgclfoeoaa
open Go.RowKit

/-- The length from a client to a site. -/
def Fld.len (F : Fld) (i a : Nat) : Int := (F.t.con.getD i []).getD a 0
theorem len_at (F : Fld) {i : Nat} (h : i < F.t.R.length) (a : Nat) : F.len i a = F.t.R[i].l.getD a 0 := by
  unfold Fld.len
  rw [List.getD_eq_getElem?_getD (l := F.t.con), List.getElem?_eq_getElem (by rw [con_length]; exact h), Option.getD_some, con_at F.t h]
theorem len_like {F G : Fld} (h : F.Like G) (i a : Nat) : F.len i a = G.len i a := by unfold Fld.len; rw [h.2]
theorem len_bound {F : Fld} (hg : F.good = true) {i : Nat} (h : i < F.t.R.length) (a : Nat) : 0 ≤ F.len i a ∧ F.len i a ≤ 99 := by
  rw [len_at F h]; exact getD_bound (good_row hg (List.getElem_mem h)).2 a
/-- The way by another site and another client is no shorter. -/
def Fld.far (F : Fld) (i j a b : Nat) : Prop := F.len i a ≤ F.len i b + F.len j b + F.len j a
def Fld.Met (F : Fld) : Prop := ∀ i, i < F.t.R.length → ∀ j, j < F.t.R.length → ∀ a, a < F.o.l.length → ∀ b, b < F.o.l.length → F.far i j a b
theorem met_like {F G : Fld} (h : F.Like G) : F.Met ↔ G.Met := by
  have h1 : F.t.R.length = G.t.R.length := by have := congrArg List.length h.2; rw [con_length, con_length] at this; exact this
  unfold Fld.Met Fld.far
  rw [h.1, h1]
  simp only [len_like h]

/-- What the cells of a table's row hold. -/
theorem row_cells {F : Fld} {wA wr : World} (hF : F.At wA) (hg : F.good = true) (hd : DrewTo wA wr) {i : Nat} (hi : i < F.t.R.length) :
    ∃ b o b' o' c, F.t.a = some ⟨b, o, none⟩ ∧ wr.cell? ⟨b, o + i, none⟩ = some (.slice (some ⟨b', o', none⟩) F.o.l.length c) ∧ ∀ m, m < F.o.l.length → wr.cell? ⟨b', o' + m, none⟩ = some (.int .i64 (F.len i m)) := by
  obtain ⟨b, o, b', o', h1, h2, h3, h4, h5⟩ := (cells_of (g := 0) hF hg hd).t i hi
  exact ⟨b, o, b', o', _, h1, by rw [← h4]; exact h3, fun m hm => by rw [len_at F hi]; exact h5 m hm⟩

/-- The way by another site and another client. -/
def Fld.way (F : Fld) (i j a b : Nat) : Int := F.len i b + F.len j b + F.len j a
/-- s is the least of the length and of the ways told so far. -/
structure Best (F : Fld) (i a n m j b : Nat) (s : Int) : Prop where
  le : s ≤ F.len i a
  all : ∀ j', j' < j → ∀ b', b' < n → s ≤ F.way i j' a b'
  some : ∀ b', b' < b → s ≤ F.way i j a b'
  is : s = F.len i a ∨ ∃ j' b', j' < m ∧ b' < n ∧ s = F.way i j' a b'
theorem best_start (F : Fld) (i a n m : Nat) : Best F i a n m 0 0 (F.len i a) := ⟨Int.le_refl _, fun _ h => by omega, fun _ h => by omega, .inl rfl⟩
theorem best_next {F : Fld} {i a n m j : Nat} {s : Int} (h : Best F i a n m j n s) : Best F i a n m (j + 1) 0 s :=
  ⟨h.le, fun j' hj' b' hb' => by
    by_cases e : j' = j
    · subst e; exact h.some b' hb'
    · exact h.all j' (by omega) b' hb', fun _ h => by omega, h.is⟩
theorem best_step {F : Fld} {i a n m j b : Nat} {s z : Int} (h : Best F i a n m j b s) (hj : j < m) (hb : b < n) (hz : z = F.way i j a b) : Best F i a n m j (b + 1) (min s z) := by
  refine ⟨by have := h.le; omega, fun j' hj' b' hb' => by have := h.all j' hj' b' hb'; omega, fun b' hb' => ?_, ?_⟩
  · by_cases e : b' = b
    · subst e; rw [← hz]; omega
    · have := h.some b' (by omega); omega
  · by_cases e : s ≤ z
    · rw [show min s z = s by omega]; exact h.is
    · rw [show min s z = z by omega]; exact .inr ⟨j, b, hj, hb, hz⟩

end Go.Proofs.Ytfiijfgclfoeoaa
