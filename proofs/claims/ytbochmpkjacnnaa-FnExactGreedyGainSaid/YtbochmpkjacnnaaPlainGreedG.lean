/- Sites taken greedily: plain. No condition. -/
import Derived.Test.YtbochmpkjacnnaaPlainUpper
namespace Go.Proofs.Ytbochmpkjacnnaa

theorem moreT_perm (F : Fld) (u : Int) {T U : List Nat} (h : T.Perm U) (i : Nat) : moreT F u T i = moreT F u U i := by
  unfold moreT
  rw [gainT_perm F u h, gainT_perm F u (h.append_right [i])]
/-- The first one of the first sites that are not in the set with the greatest marginal gain of more than 0, and this; or -1 and 0. -/
def bestM (F : Fld) (u : Int) (T : List Nat) : Nat → Int × Int
  | 0 => (-1, 0)
  | k + 1 => if k ∉ T ∧ moreT F u T k > (bestM F u T k).2 then ((k : Int), moreT F u T k) else bestM F u T k
theorem bestM_perm (F : Fld) (u : Int) {T U : List Nat} (h : T.Perm U) : ∀ k, bestM F u T k = bestM F u U k
  | 0 => rfl
  | k + 1 => by
    unfold bestM
    rw [bestM_perm F u h k, moreT_perm F u h k]
    simp only [h.mem_iff]
theorem bestM_ok (F : Fld) (u : Int) (T : List Nat) : ∀ k, ((bestM F u T k).1 = -1 ∧ (bestM F u T k).2 = 0) ∨ (∃ i : Nat, i < k ∧ i ∉ T ∧ (bestM F u T k).1 = (i : Int) ∧ (bestM F u T k).2 = moreT F u T i ∧ 0 < moreT F u T i)
  | 0 => .inl ⟨rfl, rfl⟩
  | k + 1 => by
    have ih := bestM_ok F u T k
    unfold bestM
    split
    · next h =>
      refine .inr ⟨k, by omega, h.1, rfl, rfl, ?_⟩
      rcases ih with ⟨_, h2⟩ | ⟨i, _, _, _, h2, h3⟩
      · have := h.2; omega
      · have := h.2; omega
    · rcases ih with h | ⟨i, h1, h2⟩
      · exact .inl h
      · exact .inr ⟨i, by omega, h2⟩
theorem bestM_bound {F : Fld} {u : Int} (hw : worthB F u = true) (T : List Nat) (k : Nat) : 0 ≤ (bestM F u T k).2 ∧ (bestM F u T k).2 ≤ 6993 := by
  rcases bestM_ok F u T k with ⟨_, h⟩ | ⟨i, _, _, _, h, _⟩
  · omega
  · have := moreT_bound hw T i; omega
/-- The sites that are taken in the first steps, in their order. -/
def grG (F : Fld) (u : Int) (n : Nat) : Nat → List Nat
  | 0 => []
  | d + 1 => if (bestM F u (grG F u n d) n).2 = 0 then grG F u n d else grG F u n d ++ [(bestM F u (grG F u n d) n).1.toNat]
structure Took (n d : Nat) (T : List Nat) : Prop where
  len : T.length ≤ d
  lt : ∀ x ∈ T, x < n
  nd : T.Nodup
theorem grG_ok (F : Fld) (u : Int) (n : Nat) : ∀ d, Took n d (grG F u n d)
  | 0 => ⟨Nat.le_refl _, by simp [grG], by simp [grG]⟩
  | d + 1 => by
    have ih := grG_ok F u n d
    unfold grG
    split
    · exact ⟨by have := ih.len; omega, ih.lt, ih.nd⟩
    · next h =>
      rcases bestM_ok F u (grG F u n d) n with ⟨_, h2⟩ | ⟨i, h1, h2, h3, _⟩
      · exact absurd h2 h
      · have hi : (bestM F u (grG F u n d) n).1.toNat = i := by omega
        rw [hi]
        refine ⟨by rw [List.length_append]; have := ih.len; simp; omega, fun x hx => ?_, ?_⟩
        · rcases List.mem_append.1 hx with hx | hx
          · exact ih.lt x hx
          · rw [List.mem_singleton] at hx; rw [hx]; exact h1
        · rw [List.nodup_append]
          refine ⟨ih.nd, by simp, fun a ha b hb => ?_⟩
          rw [List.mem_singleton] at hb
          rw [hb]; intro e; exact h2 (e ▸ ha)
theorem grG_few (F : Fld) (u : Int) (n d : Nat) : (grG F u n d).length ≤ n := by
  have h := grG_ok F u n d
  have := nodup_len (grG F u n d) (List.range n) h.nd (fun x hx => List.mem_range.2 (h.lt x hx))
  rw [List.length_range] at this; exact this
/-- Where no site gains more, none is taken any more. -/
theorem grG_stop {F : Fld} {u : Int} {n d : Nat} (h : (bestM F u (grG F u n d) n).2 = 0) : ∀ e, grG F u n (d + e) = grG F u n d
  | 0 => rfl
  | e + 1 => by
    have ih := grG_stop h e
    rw [show d + (e + 1) = (d + e) + 1 by omega, grG, ih, if_pos h]
theorem grG_like {F G : Fld} (h : G.Like F) (u : Int) (n : Nat) : ∀ d, grG G u n d = grG F u n d
  | 0 => rfl
  | d + 1 => by
    have hm : ∀ T k, bestM G u T k = bestM F u T k := fun T k => by
      induction k with
      | zero => rfl
      | succ k ih =>
        unfold bestM
        rw [ih]
        unfold moreT
        rw [gainT_like h, gainT_like h]
    unfold grG
    rw [grG_like h u n d, hm]
end Go.Proofs.Ytbochmpkjacnnaa
