/- Systems in memory: a number, a table and a list. No condition. -/
import Derived.Test.YtddnadipleknoaaOpen
import Derived.Test.YtddnadipleknoaaTab
namespace Go.Proofs.Ytddnadipleknoaa
open Go.RowKit Go.ChangeShapes Go.WideShapes Go.Joins Go.Deep Go.ChangeMaps

/-- A System: its number of elements, and its costs and sets (a list and a table, as a Field has them). -/
structure Sys where
  n : Int
  f : Fld
def Sys.val (S : Sys) : Value := .agg #[.int .i64 S.n, S.f.t.val, S.f.o.val]
def Sys.At (w : World) (S : Sys) : Prop := S.f.At w
def Sys.Like (S T : Sys) : Prop := S.n = T.n ∧ S.f.Like T.f
def Sys.Small (S : Sys) : Prop := S.f.Small
theorem Sys.At.in {w : World} {S : Sys} (h : S.At w) : S.f.In 0 w.heap.size w := Fld.At.in h
theorem Sys.At.on {w w' : World} {S : Sys} (h : S.At w) (t : Below w.heap.size w w') : S.At w' := Fld.At.on h t
theorem Sys.Like.symm {S T : Sys} (h : S.Like T) : T.Like S := ⟨h.1.symm, h.2.symm⟩
theorem Sys.Like.trans {S T U : Sys} (h : S.Like T) (k : T.Like U) : S.Like U := ⟨h.1.trans k.1, h.2.trans k.2⟩

/-- A struct of three cells in a block of its own. -/
def Box3 (w : World) (g : Nat) (x y z : Value) (t : TypeId) : Prop := w.heap[g]? = some (Obj.cells #[x, y, z] t)
theorem Box3.lt {w : World} {g : Nat} {x y z : Value} {t : TypeId} (h : Box3 w g x y z t) : g < w.heap.size := (Array.getElem?_eq_some_iff.1 h).1
theorem Box3.c0 {w : World} {g : Nat} {x y z : Value} {t : TypeId} (h : Box3 w g x y z t) : w.cell? ⟨g, 0, none⟩ = some x := by unfold World.cell?; simp only [show w.heap[g]? = some (Obj.cells #[x, y, z] t) from h]; rfl
theorem Box3.c1 {w : World} {g : Nat} {x y z : Value} {t : TypeId} (h : Box3 w g x y z t) : w.cell? ⟨g, 1, none⟩ = some y := by unfold World.cell?; simp only [show w.heap[g]? = some (Obj.cells #[x, y, z] t) from h]; rfl
theorem Box3.c2 {w : World} {g : Nat} {x y z : Value} {t : TypeId} (h : Box3 w g x y z t) : w.cell? ⟨g, 2, none⟩ = some z := by unfold World.cell?; simp only [show w.heap[g]? = some (Obj.cells #[x, y, z] t) from h]; rfl
theorem Box3.fr {w : World} {g : Nat} {x y z : Value} {t : TypeId} (h : Box3 w g x y z t) (k : Nat) : w.frozen? ⟨g, k, none⟩ = false := by unfold World.frozen?; simp only [show w.heap[g]? = some (Obj.cells #[x, y, z] t) from h]; simp
theorem Box3.on {w w' : World} {g : Nat} {x y z : Value} {t : TypeId} (h : Box3 w g x y z t) (b : Below w.heap.size w w') : Box3 w' g x y z t := (b.block g h.lt).trans h
theorem Box3.touch {p q g : Nat} {w w' : World} {x y z : Value} {t : TypeId} (h : Box3 w g x y z t) (b : Touch p q w w') (hn : g < p ∨ q ≤ g) : Box3 w' g x y z t := (b.block g h.lt (by omega)).trans h
theorem Box3.made (w : World) (x y z : Value) (t : TypeId) : Box3 (w.alloc (Obj.cells #[x, y, z] t)) w.heap.size x y z t := by
  show (w.heap.push (Obj.cells #[x, y, z] t))[w.heap.size]? = _
  simp
theorem Box3.later {w : World} {g : Nat} {x y z : Value} {t : TypeId} (h : Box3 w g x y z t) (o : Obj) : Box3 (w.alloc o) g x y z t := (Below.heap_alloc w o g h.lt).trans h
theorem Box3.other {w : World} {g : Nat} {x y z : Value} {t : TypeId} (h : Box3 w g x y z t) (a : Addr) (v : Value) (hne : a.block ≠ g) : Box3 (w.setCell a v) g x y z t := (Below.heap_setCell w a v g (fun e => hne e.symm)).trans h
theorem Box3.set0 {w : World} {g : Nat} {x y z : Value} {t : TypeId} (h : Box3 w g x y z t) (v : Value) : Box3 (w.setCell ⟨g, 0, none⟩ v) g v y z t := by
  have h' : w.heap[g]? = some (Obj.cells #[x, y, z] t) := h
  unfold Box3 World.setCell
  simp only [Array.getElem?_modify, h', Option.map_some, if_true]
  rfl
theorem Box3.set1 {w : World} {g : Nat} {x y z : Value} {t : TypeId} (h : Box3 w g x y z t) (v : Value) : Box3 (w.setCell ⟨g, 1, none⟩ v) g x v z t := by
  have h' : w.heap[g]? = some (Obj.cells #[x, y, z] t) := h
  unfold Box3 World.setCell
  simp only [Array.getElem?_modify, h', Option.map_some, if_true]
  rfl
theorem Box3.set2 {w : World} {g : Nat} {x y z : Value} {t : TypeId} (h : Box3 w g x y z t) (v : Value) : Box3 (w.setCell ⟨g, 2, none⟩ v) g x y v t := by
  have h' : w.heap[g]? = some (Obj.cells #[x, y, z] t) := h
  unfold Box3 World.setCell
  simp only [Array.getElem?_modify, h', Option.map_some, if_true]
  rfl

section
variable {H : Type} {enc : TypeId × Value → H} {P : Program} {W : World}
theorem open_sys {r : Reach} {b0 : Nat} {t t0 t1 t2 e q : TypeId} {f0 f1 f2 : Field} {v : Value} {d : DataW H} {p : List MemPlace} (hs : P.underlying t = some (.struct #[f0, f1, f2])) (hone : oneCellFields P #[f0, f1, f2] = true) (hC : P.cellsOf t = 3)
    (h0 : f0.type = t0) (h1 : f1.type = t1) (h2 : f2.type = t2) (hi : P.underlying t0 = some (.int .i64)) (ht2 : P.underlying t2 = some (.slice q)) (hq : P.underlying q = some (.int .i64)) (cq : P.cellsOf q = 1) (ht1 : P.underlying t1 = some (.slice e)) (he : P.underlying e = some (.slice q)) (ce : P.cellsOf e = 1) (hv : Value.okWide P W r b0 t v)
    (h : DataW.Trod enc P W 0 (fun _ => true) true t v d p) : ∃ S : Sys, v = S.val ∧ S.At W ∧ (Lit.int .i64 S.n).wf = true := by
  obtain ⟨v0, v1, v2, y0, y1, y2, n, rfl, _, _, g0, g1, g2⟩ := open_agg3 hs hone hC hv h
  subst h0 h1 h2
  obtain ⟨m, e0, _, hw⟩ := DataW.trod_int hi g0
  obtain ⟨T, e1, hT⟩ := open_tab_cells ht1 he hq ce cq g1
  obtain ⟨r, e2, hr⟩ := open_row_cells ht2 hq cq g2
  simp only [List.cons.injEq, and_true] at e0 e1 e2
  subst e0 e1 e2
  exact ⟨⟨m, ⟨r, T⟩⟩, rfl, ⟨hr, hT⟩, hw⟩
end

end Go.Proofs.Ytddnadipleknoaa
