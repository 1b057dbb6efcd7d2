/- Rows in memory: a slice that reads as a list of one-cell values, its keeping behind later writes, and the filling of a made row. No condition. -/
import Derived.WalkKit
import Derived.WalkSpells
import Derived.Deep.QuietTactic
namespace Go.Proofs.Ytemflcegkebloaa
open Go.RowKit

/-- The slice at a, of capacity c, reads as xs (one cell an element). -/
def RowAt (w : World) (a : Option Addr) (c : Nat) (xs : List Value) : Prop :=
  xs.length ≤ c ∧ c ≤ maxLen ∧ (xs = [] ∨ ∃ b o, a = some ⟨b, o, none⟩ ∧ b < w.heap.size ∧ ∀ j x, xs[j]? = some x → w.cell? ⟨b, o + j, none⟩ = some x)

theorem RowAt.on {w w' : World} {a : Option Addr} {c : Nat} {xs : List Value} (h : RowAt w a c xs) (hb : Below w.heap.size w w') : RowAt w' a c xs := by
  obtain ⟨h1, h2, h3⟩ := h
  refine ⟨h1, h2, ?_⟩
  rcases h3 with h3 | ⟨b, o, ha, hlt, hc⟩
  · exact .inl h3
  · exact .inr ⟨b, o, ha, Nat.lt_of_lt_of_le hlt hb.size, fun j x hj => (hb.cell (p := ⟨b, o + j, none⟩) hlt).trans (hc j x hj)⟩

theorem owns_below {w w' : World} {B : Nat} {e : TypeId} {v : Value} {n : Nat} {xs : List Value} (h : w.ownsRow B e 1 v n xs) (hb : Below w.heap.size w w') : w'.ownsRow B e 1 v n xs := by
  obtain ⟨h1, h2⟩ := id h
  refine ⟨h1, ?_⟩
  rcases h2 with h2 | ⟨g, cap, cur, rfl, hB, hg, r⟩
  · exact .inl h2
  · exact .inr ⟨g, cap, cur, rfl, hB, by rw [hb.block g (Array.getElem?_eq_some_iff.1 hg).1]; exact hg, r⟩

theorem row_of_owns {w : World} {B : Nat} {e : TypeId} {g cap n : Nat} {xs : List Value} (h : w.ownsRow B e 1 (.slice (some ⟨g, 0, none⟩) n cap) n xs) : RowAt w (some ⟨g, 0, none⟩) cap xs := by
  have hl := h.1
  have hc : n ≤ cap ∧ cap ≤ maxLen ∧ g < w.heap.size := by
    rcases h.2 with ⟨h', _⟩ | ⟨g', cap', cur, h', _, hg, h1, h2, _⟩
    · simp at h'
    · simp only [Value.slice.injEq, Option.some.injEq, Addr.mk.injEq, and_true, true_and] at h'
      obtain ⟨rfl, rfl⟩ := h'
      exact ⟨h1, h2, (Array.getElem?_eq_some_iff.1 hg).1⟩
  refine ⟨by omega, hc.2.1, .inr ⟨g, 0, rfl, hc.2.2, fun j x hj => ?_⟩⟩
  have hj' : j < xs.length := (List.getElem?_eq_some_iff.1 hj).1
  rw [Nat.zero_add, h.cellAt j (by omega), hj]

/-- w' is w but for draws. -/
def DrewTo (w w' : World) : Prop := ∃ d, w' = w.drewN d
theorem DrewTo.refl (w : World) : DrewTo w w := ⟨0, rfl⟩
theorem DrewTo.more {w w' : World} (h : DrewTo w w') (n : Nat) : DrewTo w (w'.drewN n) := by obtain ⟨d, rfl⟩ := h; exact ⟨d + n, by rw [World.drewN_drewN]⟩
theorem DrewTo.cell {w w' : World} (h : DrewTo w w') (a : Addr) : w'.cell? a = w.cell? a := by obtain ⟨d, rfl⟩ := h; rfl
theorem DrewTo.below {w w' : World} (h : DrewTo w w') : Below w.heap.size w w' := by obtain ⟨d, rfl⟩ := h; exact ⟨rfl, rfl, rfl, Nat.le_refl _, fun _ _ => rfl⟩

/-- A made row of which the first k elements have been laid. -/
def mix (xs : List Value) (z : Value) (k : Nat) : List Value := xs.take k ++ List.replicate (xs.length - k) z
theorem mix_zero (xs : List Value) (z : Value) : mix xs z 0 = List.replicate xs.length z := by simp [mix]
theorem mix_all (xs : List Value) (z : Value) : mix xs z xs.length = xs := by simp [mix]
theorem mix_length (xs : List Value) (z : Value) (k : Nat) (h : k ≤ xs.length) : (mix xs z k).length = xs.length := by simp [mix]; omega
theorem mix_set (xs : List Value) (z x : Value) (k : Nat) (h : xs[k]? = some x) : (mix xs z k).set k x = mix xs z (k + 1) := by
  have hk : k < xs.length := (List.getElem?_eq_some_iff.1 h).1
  have hx : xs[k] = x := (List.getElem?_eq_some_iff.1 h).2
  unfold mix
  rw [List.set_append_right _ _ (by rw [List.length_take]; omega), List.length_take, show k - min k xs.length = 0 by omega]
  rw [show xs.length - k = (xs.length - (k + 1)) + 1 by omega, List.replicate_succ, List.set_cons_zero, List.take_succ_eq_append_getElem hk, hx, List.append_assoc]
  rfl
theorem made_row (z : Value) (n : Nat) : (madeCells #[z] n).toList = List.replicate n z := toList_madeCells_one z n

end Go.Proofs.Ytemflcegkebloaa
