/- Seasons in memory: three lists and a table of tables. No condition. -/
import Derived.Test.YtifgmbljimfebaaOpen
import Derived.Test.YtifgmbljimfebaaTab
namespace Go.Proofs.Ytifgmbljimfebaa
open Go.RowKit Go.ChangeShapes Go.WideShapes Go.Joins Go.Deep Go.ChangeMaps

/-- A table of tables. -/
structure Cube where
  a : Option Addr
  c : Nat
  T : List Tab
def cv (T : List Tab) : List Value := T.map Tab.val
theorem cv_length (T : List Tab) : (cv T).length = T.length := List.length_map _
theorem cv_at {T : List Tab} {k : Nat} (h : k < T.length) : (cv T)[k]? = some (.slice T[k].a T[k].R.length T[k].c) := by unfold cv; rw [List.getElem?_map, List.getElem?_eq_getElem h]; rfl
def Cube.val (K : Cube) : Value := .slice K.a K.T.length K.c
def Cube.con (K : Cube) : List (List (List Int)) := K.T.map Tab.con
theorem Cube.con_length (K : Cube) : K.con.length = K.T.length := List.length_map _
def Cube.In (lo hi : Nat) (w : World) (K : Cube) : Prop := RowIn lo hi w K.a K.c (cv K.T) ∧ ∀ t ∈ K.T, t.In lo hi w
def Cube.At (w : World) (K : Cube) : Prop := RowAt w K.a K.c (cv K.T) ∧ ∀ t ∈ K.T, t.At w
theorem Cube.In.at {lo hi : Nat} {w : World} {K : Cube} (h : K.In lo hi w) : K.At w := ⟨h.1.at, fun t ht => (h.2 t ht).at⟩
theorem Cube.In.touch {lo hi p q : Nat} {w w' : World} {K : Cube} (h : K.In lo hi w) (t : Touch p q w w') (hn : hi ≤ p ∨ q ≤ lo) : K.In lo hi w' := ⟨h.1.touch t hn, fun r hr => (h.2 r hr).touch t hn⟩
theorem Cube.In.on {lo hi : Nat} {w w' : World} {K : Cube} (h : K.In lo hi w) (t : Below w.heap.size w w') : K.In lo hi w' := ⟨h.1.on t, fun r hr => (h.2 r hr).on t⟩
theorem Cube.In.wide {lo hi lo' hi' : Nat} {w : World} {K : Cube} (h : K.In lo hi w) (h1 : lo' ≤ lo) (h2 : hi ≤ hi') : K.In lo' hi' w := ⟨h.1.wide h1 h2, fun r hr => (h.2 r hr).wide h1 h2⟩
theorem Cube.At.on {w w' : World} {K : Cube} (h : K.At w) (t : Below w.heap.size w w') : K.At w' := ⟨h.1.on t, fun r hr => (h.2 r hr).on t⟩
theorem Cube.At.in {w : World} {K : Cube} (h : K.At w) : K.In 0 w.heap.size w := ⟨RowIn.of h.1, fun r hr => (h.2 r hr).in⟩

/-- A Season: the costs of opening, closing and keeping, and the rounds. -/
structure Sea where
  o : Row
  x : Row
  k : Row
  r : Cube
def Sea.val (S : Sea) : Value := .agg #[S.o.val, S.x.val, S.k.val, S.r.val]
def Sea.At (w : World) (S : Sea) : Prop := S.o.At w ∧ S.x.At w ∧ S.k.At w ∧ S.r.At w
def Sea.In (lo hi : Nat) (w : World) (S : Sea) : Prop := S.o.In lo hi w ∧ S.x.In lo hi w ∧ S.k.In lo hi w ∧ S.r.In lo hi w
theorem Sea.In.at {lo hi : Nat} {w : World} {S : Sea} (h : S.In lo hi w) : S.At w := ⟨h.1.at, h.2.1.at, h.2.2.1.at, h.2.2.2.at⟩
theorem Sea.In.touch {lo hi p q : Nat} {w w' : World} {S : Sea} (h : S.In lo hi w) (t : Touch p q w w') (hn : hi ≤ p ∨ q ≤ lo) : S.In lo hi w' := ⟨h.1.touch t hn, h.2.1.touch t hn, h.2.2.1.touch t hn, h.2.2.2.touch t hn⟩
theorem Sea.In.on {lo hi : Nat} {w w' : World} {S : Sea} (h : S.In lo hi w) (t : Below w.heap.size w w') : S.In lo hi w' := ⟨h.1.on t, h.2.1.on t, h.2.2.1.on t, h.2.2.2.on t⟩
theorem Sea.In.wide {lo hi lo' hi' : Nat} {w : World} {S : Sea} (h : S.In lo hi w) (h1 : lo' ≤ lo) (h2 : hi ≤ hi') : S.In lo' hi' w := ⟨h.1.wide h1 h2, h.2.1.wide h1 h2, h.2.2.1.wide h1 h2, h.2.2.2.wide h1 h2⟩
theorem Sea.At.on {w w' : World} {S : Sea} (h : S.At w) (t : Below w.heap.size w w') : S.At w' := ⟨h.1.on t, h.2.1.on t, h.2.2.1.on t, h.2.2.2.on t⟩
theorem Sea.At.in {w : World} {S : Sea} (h : S.At w) : S.In 0 w.heap.size w := ⟨h.1.in, h.2.1.in, h.2.2.1.in, h.2.2.2.in⟩
def Sea.Like (S G : Sea) : Prop := S.o.l = G.o.l ∧ S.x.l = G.x.l ∧ S.k.l = G.k.l ∧ S.r.con = G.r.con
theorem Sea.Like.symm {S G : Sea} (h : S.Like G) : G.Like S := ⟨h.1.symm, h.2.1.symm, h.2.2.1.symm, h.2.2.2.symm⟩
theorem Sea.Like.trans {S G K : Sea} (h : S.Like G) (k : G.Like K) : S.Like K := ⟨h.1.trans k.1, h.2.1.trans k.2.1, h.2.2.1.trans k.2.2.1, h.2.2.2.trans k.2.2.2⟩

/-- How much there is of it. -/
def tot3 (d : List (List (List Int))) : Nat := (d.map fun t => t.length + tot t).sum
theorem tot3_step {d : List (List (List Int))} {k : Nat} (h : k < d.length) : tot3 (d.take (k + 1)) = tot3 (d.take k) + (d[k].length + tot d[k]) := by
  unfold tot3; rw [List.take_succ_eq_append_getElem h, List.map_append, List.sum_append]; simp
theorem tot3_all (d : List (List (List Int))) : tot3 (d.take d.length) = tot3 d := by rw [List.take_length]
theorem Tab.con_length (T : Tab) : T.con.length = T.R.length := List.length_map _
theorem tot3_mem {L : List Tab} {T : Tab} (h : T ∈ L) : T.R.length + tot T.con ≤ tot3 (L.map Tab.con) := by
  induction L with
  | nil => cases h
  | cons s L ih =>
    have e : tot3 ((s :: L).map Tab.con) = (s.con.length + tot s.con) + tot3 (L.map Tab.con) := by simp [tot3]
    rw [Tab.con_length] at e
    rcases List.mem_cons.1 h with h | h
    · subst h; omega
    · have := ih h; omega
def Sea.size (S : Sea) : Nat := S.o.l.length + S.x.l.length + S.k.l.length + S.r.T.length + tot3 S.r.con
/-- Small enough to be marked. -/
def Sea.Small (S : Sea) : Prop := S.size ≤ 1048576
theorem Sea.Small.parts {S : Sea} (h : S.Small) : S.o.l.length ≤ 1048576 ∧ S.x.l.length ≤ 1048576 ∧ S.k.l.length ≤ 1048576 ∧ S.r.T.length ≤ 1048576 ∧ tot3 S.r.con ≤ 1048576 ∧ ∀ T ∈ S.r.T, T.R.length ≤ 1048576 ∧ tot T.con ≤ 1048576 ∧ ∀ r ∈ T.R, r.l.length ≤ 1048576 := by
  unfold Sea.Small Sea.size at h
  refine ⟨by omega, by omega, by omega, by omega, by omega, fun T hT => ?_⟩
  have e : tot3 S.r.con = tot3 (S.r.T.map Tab.con) := rfl
  have := tot3_mem hT
  refine ⟨by omega, by omega, fun r hr => ?_⟩
  have := tot_mem hr
  have e : tot T.con = tot (T.R.map Row.l) := rfl
  omega
theorem Sea.size_like {S G : Sea} (h : S.Like G) : G.size = S.size := by
  have := congrArg List.length h.2.2.2
  rw [Cube.con_length, Cube.con_length] at this
  unfold Sea.size; rw [h.1, h.2.1, h.2.2.1, h.2.2.2, this]
theorem Sea.Small.like {S G : Sea} (h : S.Small) (hl : S.Like G) : G.Small := by
  unfold Sea.Small at h ⊢
  rw [Sea.size_like hl]; exact h

/-- Tables one behind the other, each of which may be written. -/
def Tabs (w : World) : Nat → Nat → List Tab → Prop
  | lo, hi, [] => lo ≤ hi
  | lo, hi, T :: L => ∃ m, lo ≤ m ∧ m ≤ hi ∧ T.In lo m w ∧ T.Own 3 w ∧ Tabs w m hi L
theorem Tabs.le {w : World} : ∀ {L : List Tab} {lo hi : Nat}, Tabs w lo hi L → lo ≤ hi
  | [], _, _, h => h
  | _ :: _, _, _, ⟨_, h1, h2, _⟩ => Nat.le_trans h1 h2
theorem Tabs.on {w w' : World} (t : Below w.heap.size w w') : ∀ {L : List Tab} {lo hi : Nat}, Tabs w lo hi L → Tabs w' lo hi L
  | [], _, _, h => h
  | _ :: _, _, _, ⟨m, h1, h2, h3, h4, h5⟩ => ⟨m, h1, h2, h3.on t, h4.on t, h5.on t⟩
theorem Tab.Own.touch' {e : TypeId} {lo hi p q : Nat} {w w' : World} {T : Tab} (h : T.Own e w) (hi' : T.In lo hi w) (t : Touch p q w w') (hn : hi ≤ p ∨ q ≤ lo) : T.Own e w' :=
  ⟨⟨fun r hr => (h.1.1 r hr).touch (hi'.2 r hr) t hn, h.1.2⟩, h.2⟩
theorem Tabs.touch {p q : Nat} {w w' : World} (t : Touch p q w w') : ∀ {L : List Tab} {lo hi : Nat}, Tabs w lo hi L → (hi ≤ p ∨ q ≤ lo) → Tabs w' lo hi L
  | [], _, _, h, _ => h
  | _ :: _, _, _, ⟨m, h1, h2, h3, h4, h5⟩, hn => ⟨m, h1, h2, h3.touch t (by omega), h4.touch' h3 t (by omega), h5.touch t (by omega)⟩
theorem Tabs.wide {w : World} : ∀ {L : List Tab} {lo hi hi' : Nat}, Tabs w lo hi L → hi ≤ hi' → Tabs w lo hi' L
  | [], _, _, _, h, k => Nat.le_trans h k
  | _ :: _, _, _, _, ⟨m, h1, h2, h3, h4, h5⟩, k => ⟨m, h1, Nat.le_trans h2 k, h3, h4, h5.wide k⟩
theorem Tabs.snoc {w : World} {T : Tab} : ∀ {L : List Tab} {lo m hi : Nat}, Tabs w lo m L → m ≤ hi → T.In m hi w → T.Own 3 w → Tabs w lo hi (L ++ [T])
  | [], _, _, hi, h, k, hT, hO => ⟨hi, Nat.le_trans h k, Nat.le_refl _, hT.wide h (Nat.le_refl _), hO, Nat.le_refl _⟩
  | _ :: _, _, _, _, ⟨m, h1, h2, h3, h4, h5⟩, k, hT, hO => ⟨m, h1, Nat.le_trans h2 k, h3, h4, h5.snoc k hT hO⟩
theorem Tabs.in {w : World} : ∀ {L : List Tab} {lo hi : Nat}, Tabs w lo hi L → ∀ t ∈ L, t.In lo hi w
  | [], _, _, _, _, ht => by cases ht
  | _ :: _, _, _, ⟨m, h1, h2, h3, _, h5⟩, t, ht => by
    rcases List.mem_cons.1 ht with ht | ht
    · subst ht; exact h3.wide (Nat.le_refl _) h2
    · exact (h5.in t ht).wide h1 (Nat.le_refl _)

/-- A table of tables that may be written. -/
def Cube.Own (lo hi : Nat) (w : World) (K : Cube) : Prop := ∃ m, lo ≤ m ∧ m ≤ hi ∧ RowIn lo m w K.a K.c (cv K.T) ∧ Tabs w m hi K.T
theorem Cube.Own.in {lo hi : Nat} {w : World} {K : Cube} (h : K.Own lo hi w) : K.In lo hi w := by
  obtain ⟨m, h1, h2, h3, h4⟩ := h
  exact ⟨h3.wide (Nat.le_refl _) h2, fun t ht => (h4.in t ht).wide h1 (Nat.le_refl _)⟩
theorem Cube.Own.on {lo hi : Nat} {w w' : World} {K : Cube} (h : K.Own lo hi w) (t : Below w.heap.size w w') : K.Own lo hi w' := by
  obtain ⟨m, h1, h2, h3, h4⟩ := h
  exact ⟨m, h1, h2, h3.on t, h4.on t⟩
theorem Cube.Own.touch {lo hi p q : Nat} {w w' : World} {K : Cube} (h : K.Own lo hi w) (t : Touch p q w w') (hn : hi ≤ p ∨ q ≤ lo) : K.Own lo hi w' := by
  obtain ⟨m, h1, h2, h3, h4⟩ := h
  exact ⟨m, h1, h2, h3.touch t (by omega), h4.touch t (by omega)⟩
theorem Cube.Own.wide {lo hi hi' : Nat} {w : World} {K : Cube} (h : K.Own lo hi w) (k : hi ≤ hi') : K.Own lo hi' w := by
  obtain ⟨m, h1, h2, h3, h4⟩ := h
  exact ⟨m, h1, Nat.le_trans h2 k, h3, h4.wide k⟩
/-- A Season that may be written. -/
def Sea.Own (lo hi : Nat) (w : World) (S : Sea) : Prop := ∃ p q r, lo ≤ p ∧ p ≤ q ∧ q ≤ r ∧ r ≤ hi ∧ S.o.In lo p w ∧ S.o.Own 3 w ∧ S.x.In p q w ∧ S.x.Own 3 w ∧ S.k.In q r w ∧ S.k.Own 3 w ∧ S.r.Own r hi w
theorem Sea.Own.in {lo hi : Nat} {w : World} {S : Sea} (h : S.Own lo hi w) : S.In lo hi w := by
  obtain ⟨p, q, r, h1, h2, h3, h4, a, _, b, _, c, _, d⟩ := h
  exact ⟨a.wide (by omega) (by omega), b.wide (by omega) (by omega), c.wide (by omega) (by omega), d.in.wide (by omega) (by omega)⟩
theorem Sea.Own.on {lo hi : Nat} {w w' : World} {S : Sea} (h : S.Own lo hi w) (t : Below w.heap.size w w') : S.Own lo hi w' := by
  obtain ⟨p, q, r, h1, h2, h3, h4, a, a', b, b', c, c', d⟩ := h
  exact ⟨p, q, r, h1, h2, h3, h4, a.on t, a'.on t, b.on t, b'.on t, c.on t, c'.on t, d.on t⟩
theorem Sea.Own.touch {lo hi p' q' : Nat} {w w' : World} {S : Sea} (h : S.Own lo hi w) (t : Touch p' q' w w') (hn : hi ≤ p' ∨ q' ≤ lo) : S.Own lo hi w' := by
  obtain ⟨p, q, r, h1, h2, h3, h4, a, a', b, b', c, c', d⟩ := h
  exact ⟨p, q, r, h1, h2, h3, h4, a.touch t (by omega), a'.touch a t (by omega), b.touch t (by omega), b'.touch b t (by omega), c.touch t (by omega), c'.touch c t (by omega), d.touch t (by omega)⟩

/-- A struct of four cells in a block of its own. -/
def Box4 (w : World) (g : Nat) (x y z u : Value) (t : TypeId) : Prop := w.heap[g]? = some (Obj.cells #[x, y, z, u] t)
theorem Box4.lt {w : World} {g : Nat} {x y z u : Value} {t : TypeId} (h : Box4 w g x y z u t) : g < w.heap.size := (Array.getElem?_eq_some_iff.1 h).1
theorem Box4.c0 {w : World} {g : Nat} {x y z u : Value} {t : TypeId} (h : Box4 w g x y z u t) : w.cell? ⟨g, 0, none⟩ = some x := by unfold World.cell?; simp only [show w.heap[g]? = some (Obj.cells #[x, y, z, u] t) from h]; rfl
theorem Box4.c1 {w : World} {g : Nat} {x y z u : Value} {t : TypeId} (h : Box4 w g x y z u t) : w.cell? ⟨g, 1, none⟩ = some y := by unfold World.cell?; simp only [show w.heap[g]? = some (Obj.cells #[x, y, z, u] t) from h]; rfl
theorem Box4.c2 {w : World} {g : Nat} {x y z u : Value} {t : TypeId} (h : Box4 w g x y z u t) : w.cell? ⟨g, 2, none⟩ = some z := by unfold World.cell?; simp only [show w.heap[g]? = some (Obj.cells #[x, y, z, u] t) from h]; rfl
theorem Box4.c3 {w : World} {g : Nat} {x y z u : Value} {t : TypeId} (h : Box4 w g x y z u t) : w.cell? ⟨g, 3, none⟩ = some u := by unfold World.cell?; simp only [show w.heap[g]? = some (Obj.cells #[x, y, z, u] t) from h]; rfl
theorem Box4.fr {w : World} {g : Nat} {x y z u : Value} {t : TypeId} (h : Box4 w g x y z u t) (k : Nat) : w.frozen? ⟨g, k, none⟩ = false := by unfold World.frozen?; simp only [show w.heap[g]? = some (Obj.cells #[x, y, z, u] t) from h]; simp
theorem Box4.on {w w' : World} {g : Nat} {x y z u : Value} {t : TypeId} (h : Box4 w g x y z u t) (b : Below w.heap.size w w') : Box4 w' g x y z u t := (b.block g h.lt).trans h
theorem Box4.touch {p q g : Nat} {w w' : World} {x y z u : Value} {t : TypeId} (h : Box4 w g x y z u t) (b : Touch p q w w') (hn : g < p ∨ q ≤ g) : Box4 w' g x y z u t := (b.block g h.lt (by omega)).trans h
theorem Box4.made (w : World) (x y z u : Value) (t : TypeId) : Box4 (w.alloc (Obj.cells #[x, y, z, u] t)) w.heap.size x y z u t := by
  show (w.heap.push (Obj.cells #[x, y, z, u] t))[w.heap.size]? = _
  simp
theorem Box4.later {w : World} {g : Nat} {x y z u : Value} {t : TypeId} (h : Box4 w g x y z u t) (o : Obj) : Box4 (w.alloc o) g x y z u t := (Below.heap_alloc w o g h.lt).trans h
theorem Box4.other {w : World} {g : Nat} {x y z u : Value} {t : TypeId} (h : Box4 w g x y z u t) (a : Addr) (v : Value) (hne : a.block ≠ g) : Box4 (w.setCell a v) g x y z u t := (Below.heap_setCell w a v g (fun e => hne e.symm)).trans h
theorem Box4.set0 {w : World} {g : Nat} {x y z u : Value} {t : TypeId} (h : Box4 w g x y z u t) (v : Value) : Box4 (w.setCell ⟨g, 0, none⟩ v) g v y z u t := by
  have h' : w.heap[g]? = some (Obj.cells #[x, y, z, u] t) := h
  unfold Box4 World.setCell
  simp only [Array.getElem?_modify, h', Option.map_some, if_true]
  rfl
theorem Box4.set1 {w : World} {g : Nat} {x y z u : Value} {t : TypeId} (h : Box4 w g x y z u t) (v : Value) : Box4 (w.setCell ⟨g, 1, none⟩ v) g x v z u t := by
  have h' : w.heap[g]? = some (Obj.cells #[x, y, z, u] t) := h
  unfold Box4 World.setCell
  simp only [Array.getElem?_modify, h', Option.map_some, if_true]
  rfl
theorem Box4.set2 {w : World} {g : Nat} {x y z u : Value} {t : TypeId} (h : Box4 w g x y z u t) (v : Value) : Box4 (w.setCell ⟨g, 2, none⟩ v) g x y v u t := by
  have h' : w.heap[g]? = some (Obj.cells #[x, y, z, u] t) := h
  unfold Box4 World.setCell
  simp only [Array.getElem?_modify, h', Option.map_some, if_true]
  rfl
theorem Box4.set3 {w : World} {g : Nat} {x y z u : Value} {t : TypeId} (h : Box4 w g x y z u t) (v : Value) : Box4 (w.setCell ⟨g, 3, none⟩ v) g x y z v t := by
  have h' : w.heap[g]? = some (Obj.cells #[x, y, z, u] t) := h
  unfold Box4 World.setCell
  simp only [Array.getElem?_modify, h', Option.map_some, if_true]
  rfl

section
variable {H : Type} {enc : TypeId × Value → H} {P : Program} {W : World}
theorem open_cube_cells {t s e q : TypeId} {fuel : Nat} {cs : List Value} {x : DataW H × List MemPlace} (ht : P.underlying t = some (.slice s)) (hs : P.underlying s = some (.slice e)) (he : P.underlying e = some (.slice q)) (hq : P.underlying q = some (.int .i64)) (cs1 : P.cellsOf s = 1) (ce : P.cellsOf e = 1) (cq : P.cellsOf q = 1)
    (h : DataW.trod enc P W 0 (fun _ => true) true fuel t cs = some x) : ∃ K : Cube, cs = [K.val] ∧ K.At W := by
  rcases open_slice1 ht cs1 h with ⟨hcs, _⟩ | ⟨a, len, cap, m, n, V, D, Pl, hcs, _, hl, hm, hmm, _, hx⟩
  · exact ⟨⟨none, 0, []⟩, hcs, ⟨by simp [cv], by decide, .inl rfl⟩, by simp⟩
  simp only [if_true] at hmm
  subst hmm
  have each : ∀ i, i < m → ∃ y : Option Addr × Nat × List Row, V i = .slice y.1 y.2.2.length y.2.1 ∧ Tab.At W ⟨y.1, y.2.1, y.2.2⟩ := by
    intro i hi
    obtain ⟨T, hT, hTA⟩ := open_tab_cells hs he hq ce cq (hx i hi).2
    exact ⟨(T.a, T.c, T.R), by simpa [Tab.val] using hT, hTA⟩
  obtain ⟨y, hy⟩ := choose_lt each
  obtain ⟨Y, hY⟩ : ∃ Y : List Tab, Y = (List.range len).map fun i => ⟨(y i).1, (y i).2.1, (y i).2.2⟩ := ⟨_, rfl⟩
  have hYl : Y.length = len := by rw [hY]; simp
  refine ⟨⟨some a, m, Y⟩, by rw [hcs]; unfold Cube.val; simp only [hYl], ⟨by rw [cv_length, hYl]; exact hl, hm, ?_⟩, fun T hT => ?_⟩
  · by_cases h0 : len = 0
    · left
      have : Y = [] := List.eq_nil_of_length_eq_zero (by rw [hYl, h0])
      show cv Y = []
      rw [this]; rfl
    · obtain ⟨b, off, spot⟩ := a
      have hc0 := (hx 0 (by omega)).1
      have hspot : spot = none := by simpa [Addr.add] using World.cell?_spot hc0
      subst hspot
      refine .inr ⟨b, off, rfl, by simpa [Addr.add] using World.block_lt_of_cell? W _ hc0, fun j u hj => ?_⟩
      obtain ⟨hj1, _⟩ := List.getElem?_eq_some_iff.1 hj
      rw [cv_length, hYl] at hj1
      have h1 := (hx j (by omega)).1
      rw [Addr.add_lit] at h1
      rw [h1, ← hj]
      show _ = (cv Y)[j]?
      have := (hy j (by omega)).1
      rw [hY]
      simp [cv, Tab.val, hj1, this]
  · rw [hY] at hT
    obtain ⟨j, hj, rfl⟩ := List.mem_map.1 hT
    exact (hy j (by have := List.mem_range.1 hj; omega)).2
theorem open_sea {r : Reach} {b0 : Nat} {t t0 t1 t2 t3 s e q : TypeId} {f0 f1 f2 f3 : Field} {v : Value} {d : DataW H} {p : List MemPlace} (hs : P.underlying t = some (.struct #[f0, f1, f2, f3])) (hone : oneCellFields P #[f0, f1, f2, f3] = true) (hC : P.cellsOf t = 4)
    (h0 : f0.type = t0) (h1 : f1.type = t1) (h2 : f2.type = t2) (h3 : f3.type = t3) (u0 : P.underlying t0 = some (.slice q)) (u1 : P.underlying t1 = some (.slice q)) (u2 : P.underlying t2 = some (.slice q)) (hq : P.underlying q = some (.int .i64)) (cq : P.cellsOf q = 1)
    (u3 : P.underlying t3 = some (.slice s)) (us : P.underlying s = some (.slice e)) (cs : P.cellsOf s = 1) (he : P.underlying e = some (.slice q)) (ce : P.cellsOf e = 1) (hv : Value.okWide P W r b0 t v)
    (h : DataW.Trod enc P W 0 (fun _ => true) true t v d p) : ∃ S : Sea, v = S.val ∧ S.At W := by
  obtain ⟨v0, v1, v2, v3, y0, y1, y2, y3, n, rfl, _, _, g0, g1, g2, g3⟩ := open_agg4 hs hone hC hv h
  subst h0 h1 h2 h3
  obtain ⟨a, e0, ha⟩ := open_row_cells u0 hq cq g0
  obtain ⟨b, e1, hb⟩ := open_row_cells u1 hq cq g1
  obtain ⟨c, e2, hc⟩ := open_row_cells u2 hq cq g2
  obtain ⟨K, e3, hK⟩ := open_cube_cells u3 us he hq cs ce cq g3
  simp only [List.cons.injEq, and_true] at e0 e1 e2 e3
  subst e0 e1 e2 e3
  exact ⟨⟨a, b, c, K⟩, rfl, ha, hb, hc, hK⟩
end

end Go.Proofs.Ytifgmbljimfebaa
