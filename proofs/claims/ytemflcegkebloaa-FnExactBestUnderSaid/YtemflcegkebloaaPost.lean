/- What a function's answer leaves: the answer's numbers, and that its memory is its own. No condition. -/
import Derived.Test.YtemflcegkebloaaMarkF
import Derived.Deep.RegionHeld3
namespace Go.Proofs.Ytemflcegkebloaa
open Go.RowKit

theorem Tab.Own.touch {e : TypeId} {lo hi p q : Nat} {w w' : World} {T : Tab} (h : T.Own e w) (hi' : T.In lo hi w) (t : Touch p q w w') (hn : hi ≤ p ∨ q ≤ lo) : T.Own e w' :=
  ⟨⟨fun r hr => (h.1.1 r hr).touch (hi'.2 r hr) t hn, h.1.2⟩, h.2⟩
theorem Fld.Own.touch {e : TypeId} {lo hi p q : Nat} {w w' : World} {F : Fld} (h : F.Own e w) (hi' : F.In lo hi w) (t : Touch p q w w') (hn : hi ≤ p ∨ q ≤ lo) : F.Own e w' :=
  ⟨⟨fun r hr => by
    rcases List.mem_cons.1 hr with hr' | hr'
    · subst hr'; exact (h.1.1 _ hr).touch hi'.1 t hn
    · exact (h.1.1 r hr).touch (hi'.2.2 r hr') t hn, h.1.2⟩, h.2⟩

def PBool (v : Bool) (W : World) (e : Ending) (w' : World) : Prop := e = .returned (.bool v) ∧ Below W.heap.size W w'
def PBool2 (v b : Bool) (W : World) (e : Ending) (w' : World) : Prop := e = .returned (.tuple #[.bool v, .bool b]) ∧ Below W.heap.size W w'
def PInt (n : Int) (b : Bool) (W : World) (e : Ending) (w' : World) : Prop := e = .returned (.tuple #[.int .i64 n, .bool b]) ∧ Below W.heap.size W w'
def PInts (l : List Int) (b : Bool) (W : World) (e : Ending) (w' : World) : Prop :=
  ∃ s : Row, e = .returned (.tuple #[.slice s.a s.l.length s.c, .bool b]) ∧ s.l = l ∧ s.Own 3 w' ∧ s.In W.heap.size w'.heap.size w' ∧ Below W.heap.size W w'
def PTab (d : List (List Int)) (b : Bool) (W : World) (e : Ending) (w' : World) : Prop :=
  ∃ T : Tab, e = .returned (.tuple #[.slice T.a T.R.length T.c, .bool b]) ∧ T.con = d ∧ T.Own 3 w' ∧ T.In W.heap.size w'.heap.size w' ∧ Below W.heap.size W w'
def PFld (K : Fld) (b : Bool) (W : World) (e : Ending) (w' : World) : Prop :=
  ∃ G : Fld, e = .returned (.tuple #[G.val, .bool b]) ∧ G.Like K ∧ G.Own 3 w' ∧ G.In W.heap.size w'.heap.size w' ∧ Below W.heap.size W w'
def PStr (s : ByteArray) (b : Bool) (W : World) (e : Ending) (w' : World) : Prop := e = .returned (.tuple #[.string s, .bool b]) ∧ Below W.heap.size W w'

/-- A row that is marked. -/
def Row.Marked (e : TypeId) (lo hi k : Nat) (w : World) (r : Row) : Prop := (r.mark k).In lo hi w ∧ (r.mark k).Own e w
theorem Row.Marked.on {e : TypeId} {lo hi k : Nat} {w w' : World} {r : Row} (h : r.Marked e lo hi k w) (t : Below w.heap.size w w') : r.Marked e lo hi k w' := ⟨h.1.on t, h.2.on t⟩
theorem Row.Marked.touch {e : TypeId} {lo hi k p q : Nat} {w w' : World} {r : Row} (h : r.Marked e lo hi k w) (t : Touch p q w w') (hn : hi ≤ p ∨ q ≤ lo) : r.Marked e lo hi k w' := ⟨h.1.touch t hn, h.2.touch h.1 t hn⟩
/-- A table that is marked. -/
def Tab.Marked (lo hi k : Nat) (w : World) (T : Tab) : Prop := Part lo hi k T.R.length T.R w ∧ RowIn lo hi w T.a T.c (tv T.R)
theorem Tab.Marked.on {lo hi k : Nat} {w w' : World} {T : Tab} (h : T.Marked lo hi k w) (t : Below w.heap.size w w') : T.Marked lo hi k w' := ⟨h.1.on t, h.2.on t⟩
theorem Tab.Marked.touch {lo hi k p q : Nat} {w w' : World} {T : Tab} (h : T.Marked lo hi k w) (t : Touch p q w w') (hn : hi ≤ p ∨ q ≤ lo) : T.Marked lo hi k w' := ⟨h.1.touch t hn, h.2.touch t hn⟩

theorem markRow_law (r : Row) (k q : Nat) (w : World) (lo hi : Nat) (hr : r.In lo hi w) (ho : r.Own 3 w) (hn : r.l.length ≤ 1048576) (hk : k ≤ 8388608) (hq : q = k + r.l.length) :
    Calls Try.prog 13 #[.slice r.a r.l.length r.c, .int .i64 k] w fun e w' => e = .returned (.int .i64 (q : Int)) ∧ r.Marked 3 lo hi k w' ∧ Touch lo hi w w' := by
  subst hq
  exact (markInts_any r k w lo hi hr ho hn hk).mono fun e w' ⟨h1, h2, h3, h4⟩ => ⟨h1, ⟨h2, h3⟩, h4.touch hr⟩
theorem heldRow_law (r : Row) (k q : Nat) (w : World) (lo hi : Nat) (hr : r.Marked 3 lo hi k w) (hn : r.l.length ≤ 1048576) (hk : k ≤ 8388608) (hq : q = k + r.l.length) :
    Calls Try.prog 14 #[.slice r.a r.l.length r.c, .int .i64 k] w fun e w' => e = .returned (.int .i64 (q : Int)) ∧ Below w.heap.size w w' := by
  subst hq
  refine (heldInts_any r k w hr.1.at hn hk).mono ?_
  rintro e w' ⟨h1, d, rfl⟩
  exact ⟨h1, below_draws w d⟩
theorem markTab_law (T : Tab) (k q : Nat) (w : World) (lo hi : Nat) (hT : T.In lo hi w) (ho : T.Own 3 w) (hn : T.R.length ≤ 1048576) (hm : tot T.con ≤ 1048576) (hk : k ≤ 4194304) (hq : q = k + tot T.con) :
    Calls Try.prog 23 #[.slice T.a T.R.length T.c, .int .i64 k] w fun e w' => e = .returned (.int .i64 (q : Int)) ∧ T.Marked lo hi k w' ∧ Touch lo hi w w' := by
  subst hq
  exact (markTab_any T k w lo hi hT ho hn hm hk).mono fun e w' ⟨h1, h2, h3, h4, _⟩ => ⟨h1, ⟨h2, h3⟩, h4⟩
theorem heldTab_law (T : Tab) (k q : Nat) (w : World) (lo hi : Nat) (hT : T.Marked lo hi k w) (hn : T.R.length ≤ 1048576) (hm : tot T.con ≤ 1048576) (hk : k ≤ 4194304) (hq : q = k + tot T.con) :
    Calls Try.prog 24 #[.slice T.a T.R.length T.c, .int .i64 k] w fun e w' => e = .returned (.int .i64 (q : Int)) ∧ Below w.heap.size w w' := by
  subst hq
  refine (heldTab_any T k w lo hi hT.2 hT.1.at hn hm hk).mono ?_
  rintro e w' ⟨h1, d, rfl⟩
  exact ⟨h1, below_draws w d⟩
theorem markFld_law (F : Fld) (k q : Nat) (w : World) (lo hi : Nat) (hF : F.In lo hi w) (ho : F.Own 3 w) (hs : F.Small) (hk : k ≤ 3145728) (hq : q = k + F.o.l.length + tot F.t.con) :
    Calls Try.prog 12 #[F.val, .int .i64 k] w fun e w' => e = .returned (.int .i64 (q : Int)) ∧ F.Marked lo hi k w' ∧ Touch lo hi w w' := by
  subst hq
  exact markFld_any F k w lo hi hF ho hs hk
theorem eqRow_law (r s : Row) (w : World) (hr : r.At w) (hs : s.At w) (he : r.l = s.l) (hn : r.l.length ≤ 1048576) :
    Calls Try.prog 10 #[.slice r.a r.l.length r.c, .slice s.a s.l.length s.c] w fun e w' => e = .returned (.bool true) ∧ Below w.heap.size w w' := by
  refine (show Calls Try.prog 10 #[r.val, s.val] w _ from eqInts_same r s w hr hs he hn).mono ?_
  rintro e w' ⟨h1, d, rfl⟩
  exact ⟨h1, below_draws w d⟩
theorem eqTab_law (T S : Tab) (w : World) (hT : T.At w) (hS : S.At w) (he : T.con = S.con) (hn : T.R.length ≤ 1048576) (hm : ∀ r ∈ T.R, r.l.length ≤ 1048576) :
    Calls Try.prog 22 #[.slice T.a T.R.length T.c, .slice S.a S.R.length S.c] w fun e w' => e = .returned (.bool true) ∧ Below w.heap.size w w' := by
  refine (show Calls Try.prog 22 #[T.val, S.val] w _ from eqTab_same T S w hT hS he hn hm).mono ?_
  rintro e w' ⟨h1, d, rfl⟩
  exact ⟨h1, below_draws w d⟩

theorem tab_small {T : Tab} {d : List (List Int)} (h : T.con = d) (hs : d.length ≤ 1048576 ∧ tot d ≤ 1048576) : T.R.length ≤ 1048576 ∧ tot T.con ≤ 1048576 ∧ ∀ r ∈ T.R, r.l.length ≤ 1048576 := by
  subst h
  have h1 : T.con.length = T.R.length := by unfold Tab.con; exact List.length_map _
  refine ⟨by omega, hs.2, fun r hr => ?_⟩
  have := tot_mem hr
  have h2 : tot T.con = tot (T.R.map Row.l) := rfl
  omega

/-- A struct variable that has been laid. -/
def boxed (w : World) (x y : Value) : World := w.alloc (Obj.cells #[x, y] 29)
theorem boxed_box (w : World) (x y : Value) : Box2 (boxed w x y) w.heap.size x y 29 := Box2.made w _ _ _
theorem boxed_below (w : World) (x y : Value) : Below w.heap.size w (boxed w x y) := below_alloc w _ -- 29
theorem boxed_size (w : World) (x y : Value) : (boxed w x y).heap.size = w.heap.size + 1 := size_alloc w _ -- 29
theorem Box2.touch {p q g : Nat} {w w' : World} {x y : Value} {t : TypeId} (h : Box2 w g x y t) (b : Touch p q w w') (hn : g < p ∨ q ≤ g) : Box2 w' g x y t := (b.block g h.lt (by omega)).trans h
theorem toFld_law (F : Fld) (w : World) (hF : F.At w) (hs : F.Small) :
    Calls Try.prog 8 #[F.val] w fun e w' => ∃ G : Fld, e = .returned (.agg #[.slice G.o.a G.o.l.length G.o.c, .slice G.t.a G.t.R.length G.t.c]) ∧ G.Like F ∧ G.Own 3 w' ∧ G.In w.heap.size w'.heap.size w' ∧ Below w.heap.size w w' :=
  toFld_any F w hF hs

theorem at_exit {Q : Exit → Act → World → Prop} {e : Exit} {a : Act} {W u : World} (hb : Below W.heap.size W u) (h : ∀ v, Below W.heap.size W v → Q e a v) : Q e a u := h u hb
/-- The cells of two boxes, and that all old blocks stand. -/
theorem box_cells {W : World} {g g' : Nat} {x y x' y' : Value} {t t' : TypeId} (h : Box2 W g x y t) (h' : Box2 W g' x' y' t') (u : World) (hu : Below W.heap.size W u) :
    (u.cell? ⟨g, 0, none⟩ = some x ∧ u.cell? ⟨g, 1, none⟩ = some y ∧ u.cell? ⟨g', 0, none⟩ = some x' ∧ u.cell? ⟨g', 1, none⟩ = some y') ∧ Below W.heap.size W u :=
  ⟨⟨(h.on hu).c0, (h.on hu).c1, (h'.on hu).c0, (h'.on hu).c1⟩, hu⟩
theorem keep_reg {S : World → Prop} {W w w1 : World} (HS : ∀ u, Below W.heap.size W u → S u) (hb : Below W.heap.size W w) (hb1 : Below w.heap.size w w1) : S w1 := HS _ (hb.trans (hb1.mono hb.size))

end Go.Proofs.Ytemflcegkebloaa
