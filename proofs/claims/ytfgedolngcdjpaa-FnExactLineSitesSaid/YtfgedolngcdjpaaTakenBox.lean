/- A list of places in a variable of its own block, to which a loop adds at the end. -/
import Derived.Test.YtfgedolngcdjpaaPlainLine
import Derived.Maps.AppendAt
namespace Go.Proofs.Ytfgedolngcdjpaa
open Go.RowKit
/-- One cell in a block of its own. -/
def Box1 (w : World) (g : Nat) (x : Value) (t : TypeId) : Prop := w.heap[g]? = some (Obj.cells #[x] t)
theorem Box1.lt {w : World} {g : Nat} {x : Value} {t : TypeId} (h : Box1 w g x t) : g < w.heap.size := (Array.getElem?_eq_some_iff.1 h).1
theorem Box1.c0 {w : World} {g : Nat} {x : Value} {t : TypeId} (h : Box1 w g x t) : w.cell? ⟨g, 0, none⟩ = some x := by unfold World.cell?; simp only [show w.heap[g]? = some (Obj.cells #[x] t) from h]; rfl
theorem Box1.fr {w : World} {g : Nat} {x : Value} {t : TypeId} (h : Box1 w g x t) (k : Nat) : w.frozen? ⟨g, k, none⟩ = false := by unfold World.frozen?; simp only [show w.heap[g]? = some (Obj.cells #[x] t) from h]; simp
theorem Box1.on {w w' : World} {g : Nat} {x : Value} {t : TypeId} (h : Box1 w g x t) (b : Below w.heap.size w w') : Box1 w' g x t := (b.block g h.lt).trans h
theorem Box1.made (w : World) (x : Value) (t : TypeId) : Box1 (w.alloc (Obj.cells #[x] t)) w.heap.size x t := by
  show (w.heap.push (Obj.cells #[x] t))[w.heap.size]? = _
  simp
theorem Box1.set0 {w : World} {g : Nat} {x : Value} {t : TypeId} (h : Box1 w g x t) (v : Value) : Box1 (w.setCell ⟨g, 0, none⟩ v) g v t := by
  have h' : w.heap[g]? = some (Obj.cells #[x] t) := h
  unfold Box1 World.setCell
  simp only [Array.getElem?_modify, h', Option.map_some, if_true]
  rfl
theorem owns_keepL {w w' : World} {B n : Nat} {e : TypeId} {v : Value} {xs : List Value} (h : w.ownsRow B e 1 v n xs) (hb : ∀ g, v.ownBlock = some g → g < w.heap.size → w'.heap[g]? = w.heap[g]?) : w'.ownsRow B e 1 v n xs := by
  obtain ⟨h1, h2⟩ := id h
  refine ⟨h1, ?_⟩
  rcases h2 with h2 | ⟨g, cap, cur, rfl, hB, hg, r⟩
  · exact .inl h2
  · exact .inr ⟨g, cap, cur, rfl, hB, (hb g rfl (Array.getElem?_eq_some_iff.1 hg).1).trans hg, r⟩

structure Taken (b : Nat) (V : World) (T : List Int) (v : Value) (W : World) : Prop where
  own : W.ownsRow b 3 1 v T.length (iv T)
  box : Box1 W (b + 1) v 22
  nb : v.ownBlock ≠ some (b + 1)
  below : Below b V W
  base : b ≤ V.heap.size
theorem Taken.size {b : Nat} {V W : World} {T : List Int} {v : Value} (h : Taken b V T v W) : b + 2 ≤ W.heap.size := h.box.lt
theorem Taken.on {b : Nat} {V W W' : World} {T : List Int} {v : Value} (h : Taken b V T v W) (t : Below W.heap.size W W') : Taken b V T v W' :=
  ⟨owns_below h.own t, h.box.on t, h.nb, h.below.trans (t.mono (by have := h.size; omega)), h.base⟩
theorem Taken.start (w : World) : Taken w.heap.size w [] (.slice (some ⟨w.heap.size, 0, none⟩) 0 0) ((w.alloc (.cells #[] 3)).alloc (.cells #[.slice (some ⟨w.heap.size, 0, none⟩) 0 0] 22)) := by
  have h1 := below_alloc w (.cells #[] 3)
  have h2 := below_alloc (w.alloc (.cells #[] 3)) (.cells #[.slice (some ⟨w.heap.size, 0, none⟩) 0 0] 22)
  refine ⟨owns_below (empty_own w) h2, ?_, by simp [Value.ownBlock], h1.trans (h2.mono h1.size), Nat.le_refl _⟩
  have := Box1.made (w.alloc (.cells #[] 3)) (.slice (some ⟨w.heap.size, 0, none⟩) 0 0) 22
  rw [size_alloc] at this; exact this
theorem Taken.add {b : Nat} {V W w1 : World} {T : List Int} {v : Value} {x : Int} {n g cap : Nat} {o : Obj} (h : Taken b V T v W)
    (hown' : w1.ownsRow b 3 1 (.slice (some ⟨g, 0, none⟩) n cap) (T.length + 1) (iv T ++ [.int .i64 x])) (hgrow : (W.alloc o).grownBy w1 v.ownBlock) (hat : v.ownBlock = some g ∨ g = (W.alloc o).heap.size) :
    Taken b V (T ++ [x]) (.slice (some ⟨g, 0, none⟩) n cap) (w1.setCell ⟨b + 1, 0, none⟩ (.slice (some ⟨g, 0, none⟩) n cap)) := by
  have hsz := h.size
  have hW := below_alloc W o
  have hs2 : (W.alloc o).heap.size = W.heap.size + 1 := size_alloc _ _
  have hbx : Box1 w1 (b + 1) v 22 := (hgrow.block (b + 1) (by omega) (fun e => h.nb e.symm)).trans (h.box.on hW)
  have hnb : (Value.slice (some ⟨g, 0, none⟩) n cap).ownBlock ≠ some (b + 1) := by
    rcases hat with h1 | h1
    · intro e; exact h.nb (by rw [h1]; simpa [Value.ownBlock] using e)
    · intro e; simp only [Value.ownBlock, Option.some.injEq] at e; omega
  have hst := set_touch w1 (b + 1) 0 (.slice (some ⟨g, 0, none⟩) n cap)
  have e1 : iv (T ++ [x]) = iv T ++ [.int .i64 x] := by simp [iv]
  refine ⟨owns_keepL (by rw [List.length_append, e1]; exact hown') fun g' hg hlt => hst.block g' hlt (fun e => hnb (by rw [hg]; congr 1; omega)), hbx.set0 _, hnb, ?_, h.base⟩
  exact ((h.below.trans (hW.mono (by omega))).grown hgrow (by omega) (fun g hg => ((h.own.lt g hg)).1)).setCell (p := ⟨b + 1, 0, none⟩) (by show b ≤ b + 1; omega) _
theorem intAt_line {r : Row} {u : World} (hr : r.At u) {k : Nat} (hk : k < r.l.length) : ∃ b o, r.a = some ⟨b, o, none⟩ ∧ u.cell? ⟨b, o + k, none⟩ = some (.int .i64 (r.l.getD k 0)) := by
  obtain ⟨_, _, h3⟩ := hr
  rcases h3 with h3 | ⟨b, o, ha, hb, hcell⟩
  · have := congrArg List.length (iv_nil h3); rw [List.length_nil] at this; omega
  · refine ⟨b, o, ha, hcell k _ ?_⟩
    rw [iv_at hk, List.getD_eq_getElem?_getD, List.getElem?_eq_getElem hk, Option.getD_some]
end Go.Proofs.Ytfgedolngcdjpaa
