/- Rows, tables and fields in memory: how they read, where they lie, which of them are a call's own, and what later writes leave of them. No condition. -/
import Derived.Test.YtemflcegkebloaaPlainRow
namespace Go.Proofs.Ytemflcegkebloaa
open Go.RowKit

def iv (l : List Int) : List Value := l.map (Value.int .i64)
theorem iv_length (l : List Int) : (iv l).length = l.length := List.length_map _
theorem iv_at {l : List Int} {k : Nat} (h : k < l.length) : (iv l)[k]? = some (.int .i64 l[k]) := by unfold iv; rw [List.getElem?_map, List.getElem?_eq_getElem h]; rfl
theorem iv_nil {l : List Int} (h : iv l = []) : l = [] := by unfold iv at h; simpa using h

/-- Old blocks outside lo.. are as they were; new ones may have come. -/
structure Touch (lo hi : Nat) (w w' : World) : Prop where
  os : w'.os = w.os
  tape : w'.tape = w.tape
  output : w'.output = w.output
  size : w.heap.size ≤ w'.heap.size
  block : ∀ k, k < w.heap.size → ¬ (lo ≤ k ∧ k < hi) → w'.heap[k]? = w.heap[k]?

theorem Touch.refl (lo hi : Nat) (w : World) : Touch lo hi w w := ⟨rfl, rfl, rfl, Nat.le_refl _, fun _ _ _ => rfl⟩
theorem Touch.trans {lo hi : Nat} {a b c : World} (h : Touch lo hi a b) (k : Touch lo hi b c) : Touch lo hi a c :=
  ⟨k.os.trans h.os, k.tape.trans h.tape, k.output.trans h.output, Nat.le_trans h.size k.size, fun i hi hn => (k.block i (Nat.lt_of_lt_of_le hi h.size) hn).trans (h.block i hi hn)⟩
theorem Touch.of_below {lo hi : Nat} {w w' : World} (h : Below w.heap.size w w') : Touch lo hi w w' := ⟨h.os, h.tape, h.output, h.size, fun k hk _ => h.block k hk⟩
theorem Touch.below {lo hi B : Nat} {w w' : World} (h : Touch lo hi w w') (hB : B ≤ lo) (hw : B ≤ w.heap.size) : Below B w w' :=
  ⟨h.os, h.tape, h.output, h.size, fun k hk => h.block k (by omega) (by omega)⟩
theorem Touch.wide {lo hi lo' hi' : Nat} {w w' : World} (h : Touch lo hi w w') (h1 : lo' ≤ lo) (h2 : hi ≤ hi') : Touch lo' hi' w w' :=
  ⟨h.os, h.tape, h.output, h.size, fun k hk hn => h.block k hk (by omega)⟩
theorem Touch.draws {lo hi : Nat} {a w : World} (h : Touch lo hi a w) (n : Nat) : Touch lo hi a (w.drewN n) := ⟨h.os, h.tape, h.output, h.size, h.block⟩
theorem Touch.set {lo hi g : Nat} {a w : World} (h : Touch lo hi a w) (h1 : lo ≤ g) (h2 : g < hi) (o : Nat) (v : Value) : Touch lo hi a (w.setCell ⟨g, o, none⟩ v) :=
  h.trans ⟨rfl, rfl, rfl, by simp [World.setCell], fun k _ hn => Below.heap_setCell w ⟨g, o, none⟩ v k (by intro e; simp at e; omega)⟩
theorem Touch.cell {lo hi : Nat} {w w' : World} (h : Touch lo hi w w') {p : Addr} (hp : p.block < w.heap.size) (hn : ¬ (lo ≤ p.block ∧ p.block < hi)) : w'.cell? p = w.cell? p := World.cell?_of_block (w := w) (h.block p.block hp hn)

theorem below_draws (w : World) (d : Nat) : Below w.heap.size w (w.drewN d) := DrewTo.below ⟨d, rfl⟩

/-- A slice that reads as xs, in blocks lo.. -/
def RowIn (lo hi : Nat) (w : World) (a : Option Addr) (c : Nat) (xs : List Value) : Prop :=
  xs.length ≤ c ∧ c ≤ maxLen ∧ (xs = [] ∨ ∃ b o, a = some ⟨b, o, none⟩ ∧ lo ≤ b ∧ b < hi ∧ b < w.heap.size ∧ ∀ j x, xs[j]? = some x → w.cell? ⟨b, o + j, none⟩ = some x)
theorem RowIn.at {lo hi : Nat} {w : World} {a : Option Addr} {c : Nat} {xs : List Value} (h : RowIn lo hi w a c xs) : RowAt w a c xs := by
  obtain ⟨h1, h2, h3⟩ := h
  refine ⟨h1, h2, ?_⟩
  rcases h3 with h3 | ⟨b, o, e, _, _, hb, hc⟩
  · exact .inl h3
  · exact .inr ⟨b, o, e, hb, hc⟩
theorem RowIn.of {w : World} {a : Option Addr} {c : Nat} {xs : List Value} (h : RowAt w a c xs) : RowIn 0 w.heap.size w a c xs := by
  obtain ⟨h1, h2, h3⟩ := h
  refine ⟨h1, h2, ?_⟩
  rcases h3 with h3 | ⟨b, o, e, hb, hc⟩
  · exact .inl h3
  · exact .inr ⟨b, o, e, Nat.zero_le _, hb, hb, hc⟩
theorem RowIn.touch {lo hi p q : Nat} {w w' : World} {a : Option Addr} {c : Nat} {xs : List Value} (h : RowIn lo hi w a c xs) (t : Touch p q w w') (hn : hi ≤ p ∨ q ≤ lo) : RowIn lo hi w' a c xs := by
  obtain ⟨h1, h2, h3⟩ := h
  refine ⟨h1, h2, ?_⟩
  rcases h3 with h3 | ⟨b, o, e, hl, hh, hb, hc⟩
  · exact .inl h3
  · exact .inr ⟨b, o, e, hl, hh, Nat.lt_of_lt_of_le hb t.size, fun j x hj => (t.cell (p := ⟨b, o + j, none⟩) hb (by simp only; omega)).trans (hc j x hj)⟩
theorem RowIn.on {lo hi : Nat} {w w' : World} {a : Option Addr} {c : Nat} {xs : List Value} (h : RowIn lo hi w a c xs) (t : Below w.heap.size w w') : RowIn lo hi w' a c xs :=
  h.touch (p := hi) (q := hi) (Touch.of_below t) (.inl (Nat.le_refl _))
theorem RowIn.wide {lo hi lo' hi' : Nat} {w : World} {a : Option Addr} {c : Nat} {xs : List Value} (h : RowIn lo hi w a c xs) (h1 : lo' ≤ lo) (h2 : hi ≤ hi') : RowIn lo' hi' w a c xs := by
  obtain ⟨a1, a2, a3⟩ := h
  refine ⟨a1, a2, ?_⟩
  rcases a3 with a3 | ⟨b, o, e, hl, hh, hb, hc⟩
  · exact .inl a3
  · exact .inr ⟨b, o, e, by omega, by omega, hb, hc⟩

/-- A row of integers. -/
structure Row where
  a : Option Addr
  c : Nat
  l : List Int
def Row.val (r : Row) : Value := .slice r.a r.l.length r.c
def Row.In (lo hi : Nat) (w : World) (r : Row) : Prop := RowIn lo hi w r.a r.c (iv r.l)
def Row.At (w : World) (r : Row) : Prop := RowAt w r.a r.c (iv r.l)
/-- It may be written. -/
def Row.Own (e : TypeId) (w : World) (r : Row) : Prop := r.l = [] ∨ ∃ g, r.a = some ⟨g, 0, none⟩ ∧ w.ownsRow 0 e 1 (.slice (some ⟨g, 0, none⟩) r.l.length r.c) r.l.length (iv r.l)
/-- Two rows of which no write to one is seen in the other. -/
def Row.Apart (r s : Row) : Prop := ∀ x y, r.l ≠ [] → s.l ≠ [] → r.a = some x → s.a = some y → x.block ≠ y.block
theorem Row.Apart.symm {r s : Row} (h : r.Apart s) : s.Apart r := fun x y h1 h2 e1 e2 => (h y x h2 h1 e2 e1).symm
theorem Row.In.at {lo hi : Nat} {w : World} {r : Row} (h : r.In lo hi w) : r.At w := RowIn.at h
theorem Row.In.touch {lo hi p q : Nat} {w w' : World} {r : Row} (h : r.In lo hi w) (t : Touch p q w w') (hn : hi ≤ p ∨ q ≤ lo) : r.In lo hi w' := RowIn.touch h t hn
theorem Row.In.on {lo hi : Nat} {w w' : World} {r : Row} (h : r.In lo hi w) (t : Below w.heap.size w w') : r.In lo hi w' := RowIn.on h t
theorem Row.In.wide {lo hi lo' hi' : Nat} {w : World} {r : Row} (h : r.In lo hi w) (h1 : lo' ≤ lo) (h2 : hi ≤ hi') : r.In lo' hi' w := RowIn.wide h h1 h2
theorem Row.At.on {w w' : World} {r : Row} (h : r.At w) (t : Below w.heap.size w w') : r.At w' := RowAt.on h t

theorem owns_block {w w' : World} {e : TypeId} {g c n : Nat} {xs : List Value} (h : w.ownsRow 0 e 1 (.slice (some ⟨g, 0, none⟩) n c) n xs) (hb : w'.heap[g]? = w.heap[g]?) : w'.ownsRow 0 e 1 (.slice (some ⟨g, 0, none⟩) n c) n xs := by
  obtain ⟨h1, h2⟩ := id h
  refine ⟨h1, ?_⟩
  rcases h2 with h2 | ⟨g', cap, cur, he, hB, hg, r⟩
  · exact .inl h2
  · simp only [Value.slice.injEq, Option.some.injEq, Addr.mk.injEq, and_true, true_and] at he
    obtain ⟨rfl, rfl⟩ := he
    exact .inr ⟨g, c, cur, rfl, hB, by rw [hb]; exact hg, r⟩
theorem owns_lt {w : World} {B : Nat} {e : TypeId} {g c n : Nat} {xs : List Value} (h : w.ownsRow B e 1 (.slice (some ⟨g, 0, none⟩) n c) n xs) : g < w.heap.size ∧ n ≤ c ∧ c ≤ maxLen ∧ B ≤ g := by
  rcases h.2 with ⟨h', _⟩ | ⟨g', cap', cur, h', hB, hg, h1, h2, _⟩
  · simp at h'
  · simp only [Value.slice.injEq, Option.some.injEq, Addr.mk.injEq, and_true, true_and] at h'
    obtain ⟨rfl, rfl⟩ := h'
    exact ⟨(Array.getElem?_eq_some_iff.1 hg).1, h1, h2, hB⟩
theorem owns_base {w : World} {B : Nat} {e : TypeId} {v : Value} {n : Nat} {xs : List Value} (h : w.ownsRow B e 1 v n xs) : w.ownsRow 0 e 1 v n xs := by
  obtain ⟨h1, h2⟩ := id h
  refine ⟨h1, ?_⟩
  rcases h2 with h2 | ⟨g, cap, cur, rfl, hB, r⟩
  · exact .inl h2
  · exact .inr ⟨g, cap, cur, rfl, Nat.zero_le _, r⟩
theorem Row.Own.keep {e : TypeId} {w w' : World} {r : Row} (h : r.Own e w) (hb : ∀ g, r.l ≠ [] → r.a = some ⟨g, 0, none⟩ → w'.heap[g]? = w.heap[g]?) : r.Own e w' := by
  rcases h with h | ⟨g, ha, ho⟩
  · exact .inl h
  · by_cases hl : r.l = []
    · exact .inl hl
    · exact .inr ⟨g, ha, owns_block ho (hb g hl ha)⟩
theorem Row.Own.on {e : TypeId} {w w' : World} {r : Row} (h : r.Own e w) (t : Below w.heap.size w w') : r.Own e w' := by
  rcases h with h | ⟨g, ha, ho⟩
  · exact .inl h
  · exact .inr ⟨g, ha, owns_below ho t⟩

/-- Rows that may be written, no two of them seen in each other. -/
def Lots (e : TypeId) (w : World) (L : List Row) : Prop := (∀ r ∈ L, r.Own e w) ∧ L.Pairwise Row.Apart
theorem Lots.on {e : TypeId} {w w' : World} {L : List Row} (h : Lots e w L) (t : Below w.heap.size w w') : Lots e w' L := ⟨fun r hr => (h.1 r hr).on t, h.2⟩

/-- A table: a row of rows. -/
structure Tab where
  a : Option Addr
  c : Nat
  R : List Row
def tv (R : List Row) : List Value := R.map Row.val
theorem tv_length (R : List Row) : (tv R).length = R.length := List.length_map _
theorem tv_at {R : List Row} {k : Nat} (h : k < R.length) : (tv R)[k]? = some (.slice R[k].a R[k].l.length R[k].c) := by unfold tv; rw [List.getElem?_map, List.getElem?_eq_getElem h]; rfl
def Tab.val (T : Tab) : Value := .slice T.a T.R.length T.c
def Tab.con (T : Tab) : List (List Int) := T.R.map Row.l
def Tab.In (lo hi : Nat) (w : World) (T : Tab) : Prop := RowIn lo hi w T.a T.c (tv T.R) ∧ ∀ r ∈ T.R, r.In lo hi w
def Tab.At (w : World) (T : Tab) : Prop := RowAt w T.a T.c (tv T.R) ∧ ∀ r ∈ T.R, r.At w
theorem Tab.In.at {lo hi : Nat} {w : World} {T : Tab} (h : T.In lo hi w) : T.At w := ⟨h.1.at, fun r hr => (h.2 r hr).at⟩
theorem Tab.In.touch {lo hi p q : Nat} {w w' : World} {T : Tab} (h : T.In lo hi w) (t : Touch p q w w') (hn : hi ≤ p ∨ q ≤ lo) : T.In lo hi w' := ⟨h.1.touch t hn, fun r hr => (h.2 r hr).touch t hn⟩
theorem Tab.In.on {lo hi : Nat} {w w' : World} {T : Tab} (h : T.In lo hi w) (t : Below w.heap.size w w') : T.In lo hi w' := ⟨h.1.on t, fun r hr => (h.2 r hr).on t⟩
theorem Tab.In.wide {lo hi lo' hi' : Nat} {w : World} {T : Tab} (h : T.In lo hi w) (h1 : lo' ≤ lo) (h2 : hi ≤ hi') : T.In lo' hi' w := ⟨h.1.wide h1 h2, fun r hr => (h.2 r hr).wide h1 h2⟩
theorem Tab.At.on {w w' : World} {T : Tab} (h : T.At w) (t : Below w.heap.size w w') : T.At w' := ⟨h.1.on t, fun r hr => (h.2 r hr).on t⟩
/-- Some rows none of which is seen in the row of the table's rows. -/
def Tab.Off (T : Tab) (L : List Row) : Prop := ∀ r ∈ L, ∀ x y, r.l ≠ [] → T.R ≠ [] → r.a = some x → T.a = some y → x.block ≠ y.block
def Tab.Own (e : TypeId) (w : World) (T : Tab) : Prop := Lots e w T.R ∧ T.Off T.R
theorem Tab.Own.on {e : TypeId} {w w' : World} {T : Tab} (h : T.Own e w) (t : Below w.heap.size w w') : T.Own e w' := ⟨h.1.on t, h.2⟩

/-- A Field. -/
structure Fld where
  o : Row
  t : Tab
def Fld.val (F : Fld) : Value := .agg #[F.o.val, F.t.val]
def Fld.In (lo hi : Nat) (w : World) (F : Fld) : Prop := F.o.In lo hi w ∧ F.t.In lo hi w
def Fld.At (w : World) (F : Fld) : Prop := F.o.At w ∧ F.t.At w
def Fld.Own (e : TypeId) (w : World) (F : Fld) : Prop := Lots e w (F.o :: F.t.R) ∧ F.t.Off (F.o :: F.t.R)
theorem Fld.In.at {lo hi : Nat} {w : World} {F : Fld} (h : F.In lo hi w) : F.At w := ⟨h.1.at, h.2.at⟩
theorem Fld.In.touch {lo hi p q : Nat} {w w' : World} {F : Fld} (h : F.In lo hi w) (t : Touch p q w w') (hn : hi ≤ p ∨ q ≤ lo) : F.In lo hi w' := ⟨h.1.touch t hn, h.2.touch t hn⟩
theorem Fld.In.on {lo hi : Nat} {w w' : World} {F : Fld} (h : F.In lo hi w) (t : Below w.heap.size w w') : F.In lo hi w' := ⟨h.1.on t, h.2.on t⟩
theorem Fld.In.wide {lo hi lo' hi' : Nat} {w : World} {F : Fld} (h : F.In lo hi w) (h1 : lo' ≤ lo) (h2 : hi ≤ hi') : F.In lo' hi' w := ⟨h.1.wide h1 h2, h.2.wide h1 h2⟩
theorem Fld.At.on {w w' : World} {F : Fld} (h : F.At w) (t : Below w.heap.size w w') : F.At w' := ⟨h.1.on t, h.2.on t⟩
theorem Fld.Own.on {e : TypeId} {w w' : World} {F : Fld} (h : F.Own e w) (t : Below w.heap.size w w') : F.Own e w' := ⟨h.1.on t, h.2⟩
/-- Two Fields that read alike. -/
def Fld.Like (F G : Fld) : Prop := F.o.l = G.o.l ∧ F.t.con = G.t.con

/-- How much there is of it. -/
def tot (d : List (List Int)) : Nat := (d.map List.length).sum
theorem tot_step {d : List (List Int)} {k : Nat} (h : k < d.length) : tot (d.take (k + 1)) = tot (d.take k) + d[k].length := by
  unfold tot; rw [List.take_succ_eq_append_getElem h, List.map_append, List.sum_append]; simp
theorem tot_all (d : List (List Int)) : tot (d.take d.length) = tot d := by rw [List.take_length]

theorem set_touch (w : World) (B k : Nat) (v : Value) : Touch B (B + 1) w (w.setCell ⟨B, k, none⟩ v) := (Touch.refl _ _ _).set (Nat.le_refl _) (by omega) k v
theorem Row.Own.touch {e : TypeId} {lo hi p q : Nat} {w w' : World} {r : Row} (h : r.Own e w) (hi' : r.In lo hi w) (t : Touch p q w w') (hn : hi ≤ p ∨ q ≤ lo) : r.Own e w' := by
  refine h.keep fun g hl ha => ?_
  obtain ⟨_, _, h3⟩ := hi'
  rcases h3 with h3 | ⟨b, o, e', hlo, hhi, hb, _⟩
  · exact absurd (iv_nil h3) hl
  · rw [ha] at e'
    simp only [Option.some.injEq, Addr.mk.injEq] at e'
    obtain ⟨rfl, _⟩ := e'
    exact t.block g hb (by omega)

/-- Only the row r may have been written. -/
structure Wrote (r : Row) (w w' : World) : Prop where
  os : w'.os = w.os
  tape : w'.tape = w.tape
  output : w'.output = w.output
  size : w.heap.size ≤ w'.heap.size
  block : ∀ j, j < w.heap.size → (∀ x, r.l ≠ [] → r.a = some x → x.block ≠ j) → w'.heap[j]? = w.heap[j]?
theorem Wrote.same (r : Row) (w : World) : Wrote r w w := ⟨rfl, rfl, rfl, Nat.le_refl _, fun _ _ _ => rfl⟩
theorem Wrote.touch {r : Row} {lo hi : Nat} {w w' : World} (h : Wrote r w w') (hr : r.In lo hi w) : Touch lo hi w w' :=
  ⟨h.os, h.tape, h.output, h.size, fun k hk hn => h.block k hk fun x hl hx e => by
    obtain ⟨_, _, h3⟩ := hr
    rcases h3 with h3 | ⟨b, o, e', hlo, hhi, _, _⟩
    · exact hl (iv_nil h3)
    · rw [hx] at e'; simp only [Option.some.injEq] at e'; subst e'; simp only at e; subst e; exact hn ⟨hlo, hhi⟩⟩
theorem RowIn.wrote {r : Row} {lo hi : Nat} {w w' : World} {a : Option Addr} {c : Nat} {xs : List Value} (h : RowIn lo hi w a c xs) (hw : Wrote r w w') (ha : ∀ x y, r.l ≠ [] → xs ≠ [] → r.a = some x → a = some y → x.block ≠ y.block) : RowIn lo hi w' a c xs := by
  obtain ⟨h1, h2, h3⟩ := h
  refine ⟨h1, h2, ?_⟩
  rcases h3 with h3 | ⟨b, o, e, hl, hh, hb, hc⟩
  · exact .inl h3
  · by_cases hx : xs = []
    · exact .inl hx
    · refine .inr ⟨b, o, e, hl, hh, Nat.lt_of_lt_of_le hb hw.size, fun j x hj => ?_⟩
      rw [← hc j x hj]
      exact World.cell?_of_block (w := w) (hw.block b hb fun y hl' hy => ha y ⟨b, o, none⟩ hl' hx hy e)
theorem Row.In.wrote {r s : Row} {lo hi : Nat} {w w' : World} (h : s.In lo hi w) (hw : Wrote r w w') (ha : r.Apart s) : s.In lo hi w' :=
  RowIn.wrote h hw fun x y h1 h2 e1 e2 => ha x y h1 (fun h => h2 (by rw [h]; rfl)) e1 e2
theorem Row.Own.wrote {e : TypeId} {r s : Row} {lo hi : Nat} {w w' : World} (h : s.Own e w) (hi' : s.In lo hi w) (hw : Wrote r w w') (ha : r.Apart s) : s.Own e w' := by
  refine h.keep fun g hl hg => ?_
  obtain ⟨_, _, h3⟩ := hi'
  rcases h3 with h3 | ⟨b, o, e', hlo, hhi, hb, _⟩
  · exact absurd (iv_nil h3) hl
  · rw [hg] at e'
    simp only [Option.some.injEq, Addr.mk.injEq] at e'
    obtain ⟨rfl, _⟩ := e'
    exact hw.block g hb fun x h1 h2 => ha x ⟨g, 0, none⟩ h1 hl h2 hg

/-- The numbers from k on. -/
def nums (k n : Nat) : List Int := (List.range n).map fun i => ((k + i : Nat) : Int)
theorem nums_length (k n : Nat) : (nums k n).length = n := by simp [nums]
theorem nums_at {k n i : Nat} (h : i < n) : (nums k n)[i]'(by rw [nums_length]; exact h) = ((k + i : Nat) : Int) := by simp [nums]
/-- A row of which the first i numbers have been written over. -/
def over (xs ms : List Value) (i : Nat) : List Value := ms.take i ++ xs.drop i
theorem over_zero (xs ms : List Value) : over xs ms 0 = xs := by simp [over]
theorem over_all (xs ms : List Value) (h : ms.length = xs.length) : over xs ms xs.length = ms := by simp [over, ← h]
theorem over_length (xs ms : List Value) (i : Nat) (h : ms.length = xs.length) : (over xs ms i).length = xs.length := by simp [over]; omega
theorem over_set (xs ms : List Value) (i : Nat) (x : Value) (h : ms.length = xs.length) (hx : ms[i]? = some x) : (over xs ms i).set i x = over xs ms (i + 1) := by
  have hi : i < ms.length := (List.getElem?_eq_some_iff.1 hx).1
  have hv : ms[i] = x := (List.getElem?_eq_some_iff.1 hx).2
  unfold over
  rw [List.set_append_right _ _ (by rw [List.length_take]; omega), List.length_take, show i - min i ms.length = 0 by omega]
  rw [List.drop_eq_getElem_cons (show i < xs.length by omega), List.set_cons_zero, List.take_succ_eq_append_getElem hi, hv, List.append_assoc]
  rfl

/-- The row written over with the numbers from k on. -/
def Row.mark (k : Nat) (r : Row) : Row := ⟨r.a, r.c, nums k r.l.length⟩
theorem Row.mark_length (k : Nat) (r : Row) : (r.mark k).l.length = r.l.length := nums_length _ _
theorem Row.mark_some (k : Nat) (r : Row) : (r.mark k).l ≠ [] ↔ r.l ≠ [] := by
  rw [← List.length_pos_iff, ← List.length_pos_iff, Row.mark_length]
theorem Row.Apart.mark_left {r s : Row} (h : r.Apart s) (k : Nat) : (r.mark k).Apart s := fun x y h1 h2 e1 e2 => h x y ((Row.mark_some k r).1 h1) h2 e1 e2
/-- Rows written over one after the other. -/
def markRows (k : Nat) : List Row → List Row
  | [] => []
  | r :: R => r.mark k :: markRows (k + r.l.length) R
theorem markRows_length (R : List Row) : ∀ k, (markRows k R).length = R.length := by
  induction R with
  | nil => intro k; rfl
  | cons r R ih => intro k; simp [markRows, ih]
theorem markRows_at (R : List Row) : ∀ (k i : Nat) (h : i < R.length), (markRows k R)[i]'(by rw [markRows_length]; exact h) = R[i].mark (k + tot ((R.map Row.l).take i)) := by
  induction R with
  | nil => intro k i h; simp at h
  | cons r R ih =>
    intro k i h
    cases i with
    | zero => simp [markRows, tot]
    | succ i =>
      have := ih (k + r.l.length) i (by simpa using h)
      simp only [markRows, List.getElem_cons_succ, this, List.map_cons, List.take_succ_cons]
      congr 1
      simp [tot]; omega

/-- A struct of two cells in a block of its own. -/
def Box2 (w : World) (g : Nat) (x y : Value) (t : TypeId) : Prop := w.heap[g]? = some (Obj.cells #[x, y] t)
theorem Box2.lt {w : World} {g : Nat} {x y : Value} {t : TypeId} (h : Box2 w g x y t) : g < w.heap.size := (Array.getElem?_eq_some_iff.1 h).1
theorem Box2.c0 {w : World} {g : Nat} {x y : Value} {t : TypeId} (h : Box2 w g x y t) : w.cell? ⟨g, 0, none⟩ = some x := by unfold World.cell?; simp only [show w.heap[g]? = some (Obj.cells #[x, y] t) from h]; rfl
theorem Box2.c1 {w : World} {g : Nat} {x y : Value} {t : TypeId} (h : Box2 w g x y t) : w.cell? ⟨g, 1, none⟩ = some y := by unfold World.cell?; simp only [show w.heap[g]? = some (Obj.cells #[x, y] t) from h]; rfl
theorem Box2.fr {w : World} {g : Nat} {x y : Value} {t : TypeId} (h : Box2 w g x y t) (k : Nat) : w.frozen? ⟨g, k, none⟩ = false := by unfold World.frozen?; simp only [show w.heap[g]? = some (Obj.cells #[x, y] t) from h]; simp
theorem Box2.on {w w' : World} {g : Nat} {x y : Value} {t : TypeId} (h : Box2 w g x y t) (b : Below w.heap.size w w') : Box2 w' g x y t := (b.block g h.lt).trans h
theorem Box2.made (w : World) (x y : Value) (t : TypeId) : Box2 (w.alloc (Obj.cells #[x, y] t)) w.heap.size x y t := by
  show (w.heap.push (Obj.cells #[x, y] t))[w.heap.size]? = _
  simp
theorem Box2.later {w : World} {g : Nat} {x y : Value} {t : TypeId} (h : Box2 w g x y t) (o : Obj) : Box2 (w.alloc o) g x y t := (Below.heap_alloc w o g h.lt).trans h
theorem Box2.other {w : World} {g : Nat} {x y : Value} {t : TypeId} (h : Box2 w g x y t) (a : Addr) (v : Value) (hne : a.block ≠ g) : Box2 (w.setCell a v) g x y t := (Below.heap_setCell w a v g (fun e => hne e.symm)).trans h
theorem Box2.set0 {w : World} {g : Nat} {x y : Value} {t : TypeId} (h : Box2 w g x y t) (v : Value) : Box2 (w.setCell ⟨g, 0, none⟩ v) g v y t := by
  have h' : w.heap[g]? = some (Obj.cells #[x, y] t) := h
  unfold Box2 World.setCell
  simp only [Array.getElem?_modify, h', Option.map_some, if_true]
  rfl
theorem Box2.set1 {w : World} {g : Nat} {x y : Value} {t : TypeId} (h : Box2 w g x y t) (v : Value) : Box2 (w.setCell ⟨g, 1, none⟩ v) g x v t := by
  have h' : w.heap[g]? = some (Obj.cells #[x, y] t) := h
  unfold Box2 World.setCell
  simp only [Array.getElem?_modify, h', Option.map_some, if_true]
  rfl
theorem below_alloc (w : World) (o : Obj) : Below w.heap.size w (w.alloc o) := (Below.refl _ _).alloc (Nat.le_refl _) o
theorem size_alloc (w : World) (o : Obj) : (w.alloc o).heap.size = w.heap.size + 1 := by show (w.heap.push o).size = _; simp
theorem Row.At.in {w : World} {r : Row} (h : r.At w) : r.In 0 w.heap.size w := RowIn.of h
theorem Tab.At.in {w : World} {T : Tab} (h : T.At w) : T.In 0 w.heap.size w := ⟨RowIn.of h.1, fun r hr => (h.2 r hr).in⟩
theorem Fld.At.in {w : World} {F : Fld} (h : F.At w) : F.In 0 w.heap.size w := ⟨h.1.in, h.2.in⟩

end Go.Proofs.Ytemflcegkebloaa
