/- A table of the call's own that grows row by row. No condition. -/
import Derived.Test.YtemflcegkebloaaServe
import Derived.Maps.AppendAt
namespace Go.Proofs.Ytemflcegkebloaa
open Go.RowKit

theorem owned_block {w : World} {B : Nat} {e : TypeId} {v : Value} {n : Nat} {xs : List Value} (h : w.ownsRow B e 1 v n xs) {g : Nat} (hg : v.ownBlock = some g) : B ≤ g ∧ g < w.heap.size := h.lt g hg

/-- v is a table of the call's own with the rows Q, in blocks from B on. -/
structure Grows (B : Nat) (w : World) (v : Value) (Q : List Row) : Prop where
  own : w.ownsRow B 22 1 v Q.length (tv Q)
  lots : Lots 3 w Q
  ins : ∀ r ∈ Q, r.In B w.heap.size w
  off : ∀ r ∈ Q, r.l ≠ [] → ∀ x, r.a = some x → v.ownBlock ≠ some x.block

theorem Grows.on {B : Nat} {w w' : World} {v : Value} {Q : List Row} (h : Grows B w v Q) (t : Below w.heap.size w w') : Grows B w' v Q :=
  ⟨owns_below h.own t, h.lots.on t, fun r hr => ((h.ins r hr).on t).wide (Nat.le_refl _) t.size, h.off⟩

theorem Grows.append {B : Nat} {w w1 : World} {v v' : Value} {Q : List Row} {s : Row} (h : Grows B w v Q) (hso : s.Own 3 w) (hsi : s.In B w.heap.size w) (hap : ∀ r ∈ Q, r.Apart s) (hoff : s.l ≠ [] → ∀ x, s.a = some x → v.ownBlock ≠ some x.block)
    (hown : w1.ownsRow B 22 1 v' (Q.length + 1) (tv Q ++ [.slice s.a s.l.length s.c])) (hgrow : w.grownBy w1 v.ownBlock) (hloc : v'.ownBlock = v.ownBlock ∨ ∃ g, v'.ownBlock = some g ∧ w.heap.size ≤ g) : Grows B w1 v' (Q ++ [s]) := by
  have keepIn : ∀ r : Row, r.In B w.heap.size w → (r.l ≠ [] → ∀ x, r.a = some x → v.ownBlock ≠ some x.block) → r.In B w1.heap.size w1 := fun r hr hne => by
    obtain ⟨h1, h2, h3⟩ := hr
    refine ⟨h1, h2, ?_⟩
    rcases h3 with h3 | ⟨b, o, e, hl, hh, hb, hc⟩
    · exact .inl h3
    · by_cases hx : r.l = []
      · exact .inl (by rw [hx]; rfl)
      · refine .inr ⟨b, o, e, hl, Nat.lt_of_lt_of_le hh hgrow.size, Nat.lt_of_lt_of_le hb hgrow.size, fun j x hj => ?_⟩
        rw [← hc j x hj]
        exact World.cell?_of_block (w := w) (hgrow.block b hb (fun e' => hne hx _ e e'.symm))
  have keepOwn : ∀ r : Row, r.In B w.heap.size w → r.Own 3 w → (r.l ≠ [] → ∀ x, r.a = some x → v.ownBlock ≠ some x.block) → r.Own 3 w1 := fun r hr ho hne => by
    refine ho.keep fun g hl hg => ?_
    obtain ⟨_, _, h3⟩ := hr
    rcases h3 with h3 | ⟨b, o, e, _, _, hb, _⟩
    · exact absurd (iv_nil h3) hl
    · rw [hg] at e
      simp only [Option.some.injEq, Addr.mk.injEq] at e
      obtain ⟨rfl, _⟩ := e
      exact hgrow.block g hb (fun e' => hne hl _ hg e'.symm)
  have newoff : ∀ r : Row, r.In B w.heap.size w → (r.l ≠ [] → ∀ x, r.a = some x → v.ownBlock ≠ some x.block) → r.l ≠ [] → ∀ x, r.a = some x → v'.ownBlock ≠ some x.block := fun r hr hne hl x hx e' => by
    rcases hloc with h1 | ⟨g, h1, h2⟩
    · rw [h1] at e'; exact hne hl x hx e'
    · rw [h1] at e'
      obtain ⟨_, _, h3⟩ := hr
      rcases h3 with h3 | ⟨b, o, e, _, hh, _, _⟩
      · exact hl (iv_nil h3)
      · rw [hx] at e
        simp only [Option.some.injEq] at e e'
        subst e
        simp only at e'
        omega
  refine ⟨by simpa [tv, Row.val] using hown, ⟨fun r hr => ?_, List.pairwise_append.2 ⟨h.lots.2, List.pairwise_singleton _ _, fun r hr s' hs' => by rw [List.mem_singleton] at hs'; subst hs'; exact hap r hr⟩⟩, fun r hr => ?_, fun r hr => ?_⟩
  · rcases List.mem_append.1 hr with hr | hr
    · exact keepOwn r (h.ins r hr) (h.lots.1 r hr) (h.off r hr)
    · rw [List.mem_singleton] at hr; subst hr; exact keepOwn r hsi hso hoff
  · rcases List.mem_append.1 hr with hr | hr
    · exact keepIn r (h.ins r hr) (h.off r hr)
    · rw [List.mem_singleton] at hr; subst hr; exact keepIn r hsi hoff
  · rcases List.mem_append.1 hr with hr | hr
    · exact newoff r (h.ins r hr) (h.off r hr)
    · rw [List.mem_singleton] at hr; subst hr; exact newoff r hsi hoff
/-- A row that has come after all rows of the table. -/
theorem Grows.fresh {B lo : Nat} {w w1 : World} {v : Value} {Q : List Row} {s : Row} (h : Grows B w v Q) (hsi : s.In w.heap.size lo w1) : (∀ r ∈ Q, r.Apart s) ∧ (s.l ≠ [] → ∀ x, s.a = some x → v.ownBlock ≠ some x.block) := by
  obtain ⟨_, _, h3⟩ := hsi
  constructor
  · intro r hr x y h1 h2 e1 e2
    rcases h3 with h3 | ⟨b, o, e, hl, _, _, _⟩
    · exact absurd (iv_nil h3) h2
    obtain ⟨_, _, q3⟩ := h.ins r hr
    rcases q3 with q3 | ⟨b', o', e', _, hh, _, _⟩
    · exact absurd (iv_nil q3) h1
    rw [e2] at e; rw [e1] at e'
    simp only [Option.some.injEq] at e e'
    subst e e'
    simp only; omega
  · intro hne x hx e'
    rcases h3 with h3 | ⟨b, o, e, hl, _, _, _⟩
    · exact hne (iv_nil h3)
    rw [hx] at e
    simp only [Option.some.injEq] at e
    subst e
    have := (owned_block h.own e').2
    simp only at this
    omega

/-- The table, for the answer. -/
theorem tab_end {w w' : World} {B : Nat} {v : Value} {Q : List Row} {d : List (List Int)} {b : Bool} (h : Grows B w' v Q) (hd : Q.map Row.l = d) (hB : w.heap.size ≤ B) (hb : Below w.heap.size w w') :
    PTab d b w (.returned (.tuple #[v, .bool b])) w' := by
  have hsp : ∃ T : Tab, v = .slice T.a T.R.length T.c ∧ T.R = Q ∧ RowIn B w'.heap.size w' T.a T.c (tv Q) ∧ (∀ x, T.a = some x → Q ≠ [] → v.ownBlock = some x.block) := by
    rcases id h.own.2 with ⟨hv, h0⟩ | ⟨g, cap, cur, hv, hBg, _⟩
    · have hQ : Q = [] := List.eq_nil_of_length_eq_zero h0
      subst hQ
      exact ⟨⟨none, 0, []⟩, hv, rfl, ⟨by simp [tv], by decide, .inl rfl⟩, fun x hx => by cases hx⟩
    · subst hv
      refine ⟨⟨some ⟨g, 0, none⟩, cap, Q⟩, rfl, rfl, ?_, fun x hx _ => by cases hx; rfl⟩
      obtain ⟨q1, q2, q3⟩ := row_of_owns h.own
      refine ⟨q1, q2, ?_⟩
      rcases q3 with q3 | ⟨b', o, e0, hb', hc⟩
      · exact .inl q3
      · simp only [Option.some.injEq, Addr.mk.injEq] at e0
        obtain ⟨rfl, rfl, _⟩ := e0
        exact .inr ⟨_, _, rfl, hBg, hb', hb', hc⟩
  obtain ⟨T, hv, hR, hrow, hblk⟩ := hsp
  refine ⟨T, by rw [hv], by unfold Tab.con; rw [hR, hd], ⟨by rw [hR]; exact h.lots, fun r hr x y h1 h2 e1 e2 he => ?_⟩, ⟨by rw [hR]; exact hrow.wide hB (Nat.le_refl _), fun r hr => by rw [hR] at hr; exact (h.ins r hr).wide hB (Nat.le_refl _)⟩, hb⟩
  rw [hR] at hr h2
  have := hblk y e2 h2
  exact h.off r hr h1 x e1 (by rw [this, he])
theorem tab_empty (w : World) : Grows w.heap.size (w.alloc (.cells #[] 22)) (.slice (some ⟨w.heap.size, 0, none⟩) 0 0) [] :=
  ⟨World.ownsRow_made w #[] 0 (Nat.le_refl _) (by decide) rfl, ⟨by simp, List.Pairwise.nil⟩, by simp, by simp⟩

end Go.Proofs.Ytemflcegkebloaa
