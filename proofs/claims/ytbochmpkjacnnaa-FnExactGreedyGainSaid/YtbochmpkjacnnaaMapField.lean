/- The contracts of the mapping of a Field by a function of the program, one for each such function. Condition: a valid Field, the function has its contract. -/
import Derived.Test.YtbochmpkjacnnaaMapVals
import Derived.Deep.AppendLies
import Derived.Deep.RegionLaw
namespace Go.Proofs.Ytbochmpkjacnnaa
open Go.RowKit

theorem owns_touch {B p q n : Nat} {e : TypeId} {w w' : World} {v : Value} {xs : List Value} (h : w.ownsRow B e 1 v n xs) (t : Touch p q w w') (hn : ∀ g, v.ownBlock = some g → ¬ (p ≤ g ∧ g < q)) : w'.ownsRow B e 1 v n xs := by
  obtain ⟨h1, h2⟩ := id h
  refine ⟨h1, ?_⟩
  rcases h2 with h2 | ⟨g, cap, cur, rfl, hB, hg, r⟩
  · exact .inl h2
  · exact .inr ⟨g, cap, cur, rfl, hB, (t.block g (Array.getElem?_eq_some_iff.1 hg).1 (hn g rfl)).trans hg, r⟩
/-- A table that grows, a write into one block apart. -/
theorem Grows.touch {B R : Nat} {w w' : World} {v : Value} {Q : List Row} (h : Grows B w v Q) (t : Touch R (R + 1) w w') (hv : v.ownBlock ≠ some R) (hr : ∀ r ∈ Q, r.In (R + 1) w.heap.size w) : Grows B w' v Q :=
  ⟨owns_touch h.own t (fun g hg hn => hv (by rw [hg]; congr 1; omega)), ⟨fun r hq => (h.lots.1 r hq).touch (hr r hq) t (.inr (Nat.le_refl _)), h.lots.2⟩,
    fun r hq => by
      obtain ⟨a1, a2, a3⟩ := (hr r hq).touch t (.inr (Nat.le_refl _))
      obtain ⟨_, _, c3⟩ := h.ins r hq
      refine ⟨a1, a2, ?_⟩
      rcases a3 with a3 | ⟨b, o, e, hl, hh, hb, hc⟩
      · exact .inl a3
      · rcases c3 with c3 | ⟨b', o', e', hl', hh', hb', hc'⟩
        · exact .inl c3
        · rw [e] at e'
          simp only [Option.some.injEq, Addr.mk.injEq] at e'
          obtain ⟨rfl, rfl, _⟩ := e'
          exact .inr ⟨b, o, e, hl', Nat.lt_of_lt_of_le hh' t.size, hb, hc⟩, h.off⟩

theorem Row.In.mix {r : Row} {lo hi lo' hi' : Nat} {w w' : World} (h : r.In lo hi w) (h' : r.In lo' hi' w') : r.In lo hi' w' := by
  obtain ⟨_, _, a3⟩ := h
  obtain ⟨c1, c2, c3⟩ := h'
  refine ⟨c1, c2, ?_⟩
  rcases c3 with c3 | ⟨b, o, e, hl, hh, hb, hc⟩
  · exact .inl c3
  · rcases a3 with a3 | ⟨b', o', e', hl', _, _, _⟩
    · exact .inl a3
    · rw [e] at e'
      simp only [Option.some.injEq, Addr.mk.injEq] at e'
      obtain ⟨rfl, rfl, _⟩ := e'
      exact .inr ⟨b, o, e, hl', hh, hb, hc⟩
/-- The table that has grown, by its parts. -/
theorem tab_of {w' : World} {B : Nat} {v : Value} {Q : List Row} (h : Grows B w' v Q) : ∃ T : Tab, v = .slice T.a T.R.length T.c ∧ T.R = Q ∧ T.Own 3 w' ∧ T.In B w'.heap.size w' := by
  have hsp : ∃ T : Tab, v = .slice T.a T.R.length T.c ∧ T.R = Q ∧ RowIn B w'.heap.size w' T.a T.c (tv Q) ∧ (∀ x, T.a = some x → Q ≠ [] → v.ownBlock = some x.block) := by
    rcases id h.own.2 with ⟨hv, h0⟩ | ⟨g, cap, cur, hv, hBg, _⟩
    · have hQ : Q = [] := List.eq_nil_of_length_eq_zero h0
      subst hQ
      exact ⟨⟨none, 0, []⟩, hv, rfl, ⟨by simp [tv], by decide, .inl rfl⟩, fun x hx => by cases hx⟩
    · subst hv
      refine ⟨⟨some ⟨g, 0, none⟩, cap, Q⟩, rfl, rfl, ?_, fun x hx _ => by cases hx; rfl⟩
      obtain ⟨q1, q2, q3⟩ := row_of_owns h.own
      refine ⟨q1, q2, ?_⟩
      rcases q3 with q3 | ⟨b', o, e0, hb', hc⟩
      · exact .inl q3
      · simp only [Option.some.injEq, Addr.mk.injEq] at e0
        obtain ⟨rfl, rfl, _⟩ := e0
        exact .inr ⟨_, _, rfl, hBg, hb', hb', hc⟩
  obtain ⟨T, hv, hR, hrow, hblk⟩ := hsp
  refine ⟨T, hv, hR, ⟨by rw [hR]; exact h.lots, fun r hr x y h1 h2 e1 e2 he => ?_⟩, ⟨by rw [hR]; exact hrow, fun r hr => by rw [hR] at hr; exact h.ins r hr⟩⟩
  rw [hR] at hr h2
  have := hblk y e2 h2
  exact h.off r hr h1 x e1 (by rw [this, he])
/-- A row and a table of the call's own make a Field of its own. -/
theorem fld_join {w : World} {lo mid hi : Nat} {s : Row} {T : Tab} (hso : s.Own 3 w) (hsi : s.In lo mid w) (hTo : T.Own 3 w) (hTi : T.In mid hi w) (h1 : lo ≤ mid) (h2 : mid ≤ hi) : (Fld.mk s T).Own 3 w ∧ (Fld.mk s T).In lo hi w := by
  have hap : ∀ r ∈ T.R, s.Apart r := fun r hr x y h1 h2 e1 e2 => by
    obtain ⟨_, _, q3⟩ := hTi.2 r hr
    obtain ⟨_, _, p3⟩ := hsi
    rcases q3 with q3 | ⟨b', o', e', hlo, _, _, _⟩
    · exact absurd (iv_nil q3) h2
    rcases p3 with p3 | ⟨b, o, e0, _, hhi, _, _⟩
    · exact absurd (iv_nil p3) h1
    rw [e2] at e'; rw [e1] at e0
    simp only [Option.some.injEq] at e' e0
    subst e' e0
    simp only; omega
  refine ⟨⟨⟨fun r hr => ?_, List.pairwise_cons.2 ⟨hap, hTo.1.2⟩⟩, fun r hr x y h1 h2 e1 e2 => ?_⟩, ⟨hsi.wide (Nat.le_refl _) h2, hTi.wide h1 (Nat.le_refl _)⟩⟩
  · rcases List.mem_cons.1 hr with hr | hr
    · subst hr; exact hso
    · exact hTo.1.1 r hr
  · rcases List.mem_cons.1 hr with hr | hr
    · subst hr
      obtain ⟨_, _, q3⟩ := hTi.1
      obtain ⟨_, _, p3⟩ := hsi
      rcases q3 with q3 | ⟨b', o', e', hlo, _, _, _⟩
      · exact absurd (List.eq_nil_of_length_eq_zero (by rw [← tv_length, q3]; rfl)) h2
      rcases p3 with p3 | ⟨b, o, e0, _, hhi, _, _⟩
      · exact absurd (iv_nil p3) h1
      simp only at e2
      rw [e2] at e'; rw [e1] at e0
      simp only [Option.some.injEq] at e' e0
      subst e' e0
      simp only; omega
    · exact hTo.2 r hr x y h1 h2 e1 e2

end Go.Proofs.Ytbochmpkjacnnaa
