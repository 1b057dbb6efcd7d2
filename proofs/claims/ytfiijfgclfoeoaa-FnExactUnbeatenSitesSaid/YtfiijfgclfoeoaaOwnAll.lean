/- The copy of any row of integers, and what an append inside a drawn region wants. Condition: the row reads as such, at most 1048576 numbers. -/
import Derived.Test.YtfiijfgclfoeoaaServe
import Derived.Deep.RegionLaw
import Derived.Lib.AppendZerosOnto
import Derived.Deep.Upon
import Derived.Deep.AppendLies
import Derived.Deep.RegionHeld3
namespace Go.Proofs.Ytfiijfgclfoeoaa
open Go.RowKit

theorem at_take {w : World} {s : Row} (h : s.At w) (k : Nat) : (Row.mk s.a s.c (s.l.take k)).At w := by
  obtain ⟨h1, h2, h3⟩ := h
  refine ⟨?_, h2, ?_⟩
  · rw [iv_length] at h1 ⊢; simp only [List.length_take]; omega
  · rcases h3 with h3 | ⟨b, o, e, hb, hc⟩
    · left; simp only; rw [iv_nil h3]; simp [iv]
    · refine .inr ⟨b, o, e, hb, fun j x hj => hc j x ?_⟩
      obtain ⟨hl, he⟩ := List.getElem?_eq_some_iff.1 hj
      simp only [iv_length, List.length_take] at hl
      rw [iv_at (by omega), ← he]
      simp [iv]
set_option maxRecDepth 100000 in
theorem src_none (a : Option Addr) (c : Nat) (w : World) : Src Try.prog 1 22 (.slice a 0 c) 0 [] w := by
  have h : ∀ u : World, (Builtin.firstCells 1 0 (.slice a 0 c)).run Try.prog u = .ok #[] u := fun u => by
    cases a with
    | none => exact run_firstCells_none u 1 0 0 c
    | some a => exact run_firstCells_some u 1 0 a 0 c [] rfl (fun j v hj => by simp at hj)
  exact ⟨.inl ⟨_, rfl⟩, fun w' => by simp [Builtin.lenOf], h w, h w.drew, rfl, by simp⟩

set_option maxRecDepth 100000 in
set_option maxHeartbeats 1000000 in
/-- The copy of any row: a row of its own. -/
theorem l1OwnAll_any (r : Row) (w : World) (hr : r.At w) (hn : r.l.length ≤ 1048576) :
    Calls Try.prog 49 #[.slice r.a r.l.length r.c] w fun e w' => ∃ g cap, e = .returned (.slice (some ⟨g, 0, none⟩) r.l.length cap) ∧ w'.ownsRow w.heap.size 3 1 (.slice (some ⟨g, 0, none⟩) r.l.length cap) r.l.length (iv r.l) ∧ Below w.heap.size w w' := by
  obtain ⟨i0, hi, hz0, hz1, hz2⟩ := info_parts infoInt
  obtain ⟨a, c, l⟩ := r
  obtain ⟨h1, h2, h3⟩ := hr
  simp only at h1 h2 h3 hn ⊢
  by_cases h0 : l = []
  · subst h0
    have H0 := Lib.hid (empty_own w)
    have HB0 := Lib.hid (below_alloc w (.cells #[] 3))
    show Calls _ _ #[.slice a 0 c] w _
    go_enter Try.func49, Try.ntmps49
    go_wp2_with (at_builtin; refine Lib.wpList_append_run _ rfl _ _ _ _ rfl _ _ rfl rfl _ _ (run_append_nothing _ 22 22 _ 3 i0 rfl hi _ 0 0 (Nat.le_refl _) _ (by rw [hz1]; exact src_none a c _)) ?_)
    go_wp2
    go_ret
    exact ⟨_, _, rfl, H0.out, HB0.out⟩
  · have hl0 : 0 < l.length := List.length_pos_iff.2 h0
    rcases h3 with h3 | ⟨b, o, rfl, hb, hcell⟩
    · exact absurd (iv_nil h3) h0
    have H0 := empty_own w
    have HB0 := below_alloc w (.cells #[] 3)
    have hnews : ∀ j u, (iv l)[j]? = some u → (w.alloc (.cells #[] 3)).cell? ((⟨b, o, none⟩ : Addr).add j) = some u := fun j u hj => by
      rw [show (⟨b, o, none⟩ : Addr).add j = ⟨b, o + j, none⟩ by unfold Addr.add; split <;> simp_all]
      exact (HB0.cell (p := ⟨b, o + j, none⟩) hb).trans (hcell j u hj)
    have hone : ∀ u ∈ iv l, u.oneCell' = true := fun u hu => by unfold iv at hu; obtain ⟨y, _, rfl⟩ := List.mem_map.1 hu; rfl
    have HN := Lib.hid hnews
    have HO := Lib.hid hone
    have HZ := Lib.hid H0
    have HBB := Lib.hid HB0
    have HL := Lib.hid hl0
    clear hnews hone hcell H0 HB0 h0
    go_enter Try.func49, Try.ntmps49
    go_wp2_with (at_builtin; refine wpList_append_own _ rfl _ _ 22 rfl w.heap.size 3 i0 (.int .i64 0) 1 8 Try.underlying22 hi hz0 hz1 hz2 rfl (by decide) _ 0 (iv []) rfl HZ.out ⟨b, o, none⟩ l.length c (iv l) rfl (by rw [iv_length]; omega) HN.out HO.out (by unfold maxLen; omega) (by omega) (by rw [size_alloc]; omega) ?_; intro v' w1 hown' hgrow _)
    have R1 : w1.ownsRow w.heap.size 3 1 v' l.length (iv l) := by simpa [iv] using hown'
    have R2 : Below w.heap.size w w1 := HBB.out.grown hgrow (by rw [size_alloc]; omega) (fun j hj => (HZ.out.lt j hj).1)
    have R3 : Hid (∃ g cap, v' = .slice (some ⟨g, 0, none⟩) l.length cap) := Lib.hid (by
      rcases id R1.2 with ⟨_, h⟩ | ⟨g, cap, cur, h, _⟩
      · have := HL.out; omega
      · exact ⟨g, cap, h⟩)
    clear hown' hgrow
    obtain ⟨g, cap, rfl⟩ := R3.out
    go_wp2
    go_ret
    exact ⟨g, cap, rfl, R1, R2⟩

/-- The same, as a row. -/
theorem l1OwnRow_any (r : Row) (w : World) (hr : r.At w) (hn : r.l.length ≤ 1048576) :
    Calls Try.prog 49 #[.slice r.a r.l.length r.c] w fun e w' => ∃ t : Row, e = .returned (.slice t.a t.l.length t.c) ∧ t.l = r.l ∧ t.Own 3 w' ∧ t.In w.heap.size w'.heap.size w' ∧ Below w.heap.size w w' := by
  refine (l1OwnAll_any r w hr hn).mono ?_
  rintro e w' ⟨g, cap, rfl, ho, hb⟩
  obtain ⟨t, ht, h1, h2, h3⟩ := row_of_own ho
  exact ⟨t, congrArg Ending.returned ht, h1, h2, h3, hb⟩
theorem owns_from {w : World} {B B' : Nat} {e : TypeId} {v : Value} {n : Nat} {xs : List Value} (h : w.ownsRow B e 1 v n xs) (hB : B' ≤ B) : w.ownsRow B' e 1 v n xs := by
  obtain ⟨h1, h2⟩ := id h
  refine ⟨h1, ?_⟩
  rcases h2 with h2 | ⟨g, cap, cur, rfl, hBg, r⟩
  · exact .inl h2
  · exact .inr ⟨g, cap, cur, rfl, Nat.le_trans hB hBg, r⟩
theorem one_kept {u u1 : World} {x : Value} {e : TypeId} (hb : Below (u.alloc (.cells #[x] e)).heap.size (u.alloc (.cells #[x] e)) u1) : ∀ j z, [x][j]? = some z → u1.cell? ((⟨u.heap.size, 0, none⟩ : Addr).add j) = some z := fun j z hz => by
  have h := one_cell u x e j z hz
  have hlt := World.block_lt_of_cell? _ _ h
  exact (hb.cell hlt).trans h
theorem one_drew {u u1 : World} {x : Value} {e : TypeId} (hb : Below (u.alloc (.cells #[x] e)).drew.heap.size (u.alloc (.cells #[x] e)).drew u1) : ∀ j z, [x][j]? = some z → u1.cell? ((⟨u.heap.size, 0, none⟩ : Addr).add j) = some z := fun j z hz => by
  have h := one_cell u x e j z hz
  have hlt := World.block_lt_of_cell? _ _ h
  exact (hb.cell hlt).trans h
theorem row_of_cat {w : World} {B g cap n : Nat} {l : List Int} {x : Int} (hn : n = l.length) (h : w.ownsRow B 3 1 (.slice (some ⟨g, 0, none⟩) (n + 1) cap) (n + 1) (iv l ++ [Value.int .i64 x])) : Row.At w ⟨some ⟨g, 0, none⟩, cap, l ++ [x]⟩ := by
  have h2 := own_snoc hn h
  obtain ⟨t, ht, htl, _, hti⟩ := row_of_own h2
  obtain ⟨ta, tc, tl⟩ := t
  simp only at ht htl
  subst htl
  simp only [Value.slice.injEq] at ht
  obtain ⟨rfl, _, rfl⟩ := ht
  exact hti.at

end Go.Proofs.Ytfiijfgclfoeoaa
