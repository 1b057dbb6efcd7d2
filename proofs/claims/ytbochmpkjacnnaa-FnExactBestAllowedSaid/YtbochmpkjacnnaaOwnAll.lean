/- The copy of any row of integers, and what an append inside a drawn region wants. Condition: the row reads as such, at most 1048576 numbers. -/
import Derived.Test.YtbochmpkjacnnaaServe
import Derived.Deep.RegionLaw
import Derived.Lib.AppendZerosOnto
import Derived.Deep.Upon
import Derived.Deep.AppendLies
import Derived.Deep.RegionHeld3
namespace Go.Proofs.Ytbochmpkjacnnaa
open Go.RowKit

theorem at_take {w : World} {s : Row} (h : s.At w) (k : Nat) : (Row.mk s.a s.c (s.l.take k)).At w := by
  obtain ⟨h1, h2, h3⟩ := h
  refine ⟨?_, h2, ?_⟩
  · rw [iv_length] at h1 ⊢; simp only [List.length_take]; omega
  · rcases h3 with h3 | ⟨b, o, e, hb, hc⟩
    · left; simp only; rw [iv_nil h3]; simp [iv]
    · refine .inr ⟨b, o, e, hb, fun j x hj => hc j x ?_⟩
      obtain ⟨hl, he⟩ := List.getElem?_eq_some_iff.1 hj
      simp only [iv_length, List.length_take] at hl
      rw [iv_at (by omega), ← he]
      simp [iv]
set_option maxRecDepth 100000 in
theorem src_none (a : Option Addr) (c : Nat) (w : World) : Src Try.prog 1 22 (.slice a 0 c) 0 [] w := by
  have h : ∀ u : World, (Builtin.firstCells 1 0 (.slice a 0 c)).run Try.prog u = .ok #[] u := fun u => by
    cases a with
    | none => exact run_firstCells_none u 1 0 0 c
    | some a => exact run_firstCells_some u 1 0 a 0 c [] rfl (fun j v hj => by simp at hj)
  exact ⟨.inl ⟨_, rfl⟩, fun w' => by simp [Builtin.lenOf], h w, h w.drew, rfl, by simp⟩

theorem owns_from {w : World} {B B' : Nat} {e : TypeId} {v : Value} {n : Nat} {xs : List Value} (h : w.ownsRow B e 1 v n xs) (hB : B' ≤ B) : w.ownsRow B' e 1 v n xs := by
  obtain ⟨h1, h2⟩ := id h
  refine ⟨h1, ?_⟩
  rcases h2 with h2 | ⟨g, cap, cur, rfl, hBg, r⟩
  · exact .inl h2
  · exact .inr ⟨g, cap, cur, rfl, Nat.le_trans hB hBg, r⟩
theorem one_kept {u u1 : World} {x : Value} {e : TypeId} (hb : Below (u.alloc (.cells #[x] e)).heap.size (u.alloc (.cells #[x] e)) u1) : ∀ j z, [x][j]? = some z → u1.cell? ((⟨u.heap.size, 0, none⟩ : Addr).add j) = some z := fun j z hz => by
  have h := one_cell u x e j z hz
  have hlt := World.block_lt_of_cell? _ _ h
  exact (hb.cell hlt).trans h
theorem one_drew {u u1 : World} {x : Value} {e : TypeId} (hb : Below (u.alloc (.cells #[x] e)).drew.heap.size (u.alloc (.cells #[x] e)).drew u1) : ∀ j z, [x][j]? = some z → u1.cell? ((⟨u.heap.size, 0, none⟩ : Addr).add j) = some z := fun j z hz => by
  have h := one_cell u x e j z hz
  have hlt := World.block_lt_of_cell? _ _ h
  exact (hb.cell hlt).trans h
theorem row_of_cat {w : World} {B g cap n : Nat} {l : List Int} {x : Int} (hn : n = l.length) (h : w.ownsRow B 3 1 (.slice (some ⟨g, 0, none⟩) (n + 1) cap) (n + 1) (iv l ++ [Value.int .i64 x])) : Row.At w ⟨some ⟨g, 0, none⟩, cap, l ++ [x]⟩ := by
  have h2 := own_snoc hn h
  obtain ⟨t, ht, htl, _, hti⟩ := row_of_own h2
  obtain ⟨ta, tc, tl⟩ := t
  simp only at ht htl
  subst htl
  simp only [Value.slice.injEq] at ht
  obtain ⟨rfl, _, rfl⟩ := ht
  exact hti.at

end Go.Proofs.Ytbochmpkjacnnaa
