/- A range over an iterator that makes its lists in memory, where a round may leave early: what such an iterator promises, and a law for the loop over it. No condition. -/
import Derived.Test.YtemflcegkebloaaRange
import Derived.Test.YtemflcegkebloaaPlainServe
namespace Go.Proofs.Ytemflcegkebloaa
open Go.RowKit

/-- An iterator that hands the lists of L, one after the other, each in memory of its own, to rounds that write only blocks lo.. that lay before it was called, and not its own, p.. up to q; it ends when a round says so. -/
def ListSeqX (F : Fence) (n : Nat) (P : Program) (gf : Nat) (lb : Array Value) (L : List (List Int)) (p q : Nat) (w0 : World) : Prop :=
  ∀ (l lo hi : Nat) (J : Nat → Row → World → Prop) (S : Row → World → Prop) (W : World) (y0 : Row), Below w0.heap.size w0 W → (hi ≤ p ∨ q ≤ lo) → hi ≤ W.heap.size →
    (∀ k y A B, J k y A → Below W.heap.size A B → J k y B) → (∀ y A B, S y A → Below W.heap.size A B → S y B) →
    (∀ (k : Nat) (y x : Row) (W1 : World) (h : k < L.length), x.l = L[k] → J k y W1 → y.Held W1 → x.Held W1 → x.In W.heap.size W1.heap.size W1 → W.heap.size ≤ W1.heap.size →
      YieldAt F (n - 1) P l #[.slice x.a x.l.length x.c] W1 fun e W' => ∃ y', (y' = y ∨ y' = x) ∧ y'.Held W' ∧ ((e = .returned (.bool true) ∧ Touch lo hi W1 W' ∧ J (k + 1) y' W') ∨ (e = .returned (.bool false) ∧ Touch 0 W.heap.size W1 W' ∧ S y' W'))) →
    J 0 y0 W → y0.Held W →
    CallsIn F n P gf (#[.func (.yield l) #[] #[]] ++ lb) W fun e W' => (∃ v, e = .returned v) ∧ ∃ y, y.Held W' ∧ (J L.length y W' ∨ S y W')

theorem ListSeqX.all {F : Fence} {n : Nat} {P : Program} {gf : Nat} {lb : Array Value} {L : List (List Int)} {p q : Nat} {w0 : World} (h : ListSeqX F n P gf lb L p q w0) : ListSeq F n P gf lb L p q w0 := by
  intro l lo hi J W y0 h1 h2 h3 h4 h5 h6 h7
  refine (h l lo hi J (fun _ _ => False) W y0 h1 h2 h3 h4 (fun _ _ _ h _ => h) ?_ h6 h7).mono ?_
  · intro k y x W1 hk hx hj hy hxh hxi hsz
    obtain ⟨fn, tmps, asg, bd, hyl, hr⟩ := h5 k y x W1 hk hx hj hy hxh hxi hsz
    exact ⟨fn, tmps, asg, bd, hyl, hr.mono fun e W' ⟨e1, e2, y', e3, e4, e5⟩ => ⟨y', e3, e5, .inl ⟨e1, e2, e4⟩⟩⟩
  · rintro e W' ⟨h1, y, h2, h3 | h3⟩
    · exact ⟨h1, y, h3, h2⟩
    · exact h3.elim

/-- How a round ends. -/
def RoundEndX (B : Nat) (I : Nat → Row → World → Prop) (S : Code → Row → World → Prop) (k : Nat) (y x : Row) (lo hi : Nat) (W : World) : Exit → Act → World → Prop
  | .normal, _, W' => Touch lo hi W W' ∧ ∃ y', (y' = y ∨ y' = x) ∧ I (k + 1) y' W' ∧ y'.Held W'
  | .ret, _, W' => Touch 0 B W W' ∧ ∃ y', (y' = y ∨ y' = x) ∧ S .ret y' W' ∧ y'.Held W'
  | .exit id, _, W' => Touch 0 B W W' ∧ ∃ y', (y' = y ∨ y' = x) ∧ S (.exit id) y' W' ∧ y'.Held W'
  | .goto t, _, W' => Touch 0 B W W' ∧ ∃ y', (y' = y ∨ y' = x) ∧ S (.goto t) y' W' ∧ y'.Held W'
  | _, _, _ => False

variable {F : Fence} {n : Nat} {P : Program}

set_option maxHeartbeats 1000000 in
theorem wpIn_rangeListsX {g : Operand} {ps : Array Tmp} {assign body : Code} {Q : Exit → Act → World → Prop} {a : Act} {w : World}
    (hro : F.round = none) (h1 : 1 ≤ n) {gf : Nat} {lb : Array Value} (hg : a.eval g = .func (.func gf) #[] lb) (hFg : F.fn gf) (eg : ∀ args w, (callFunc gf args).run P w = .ok (.enter gf args) w)
    {L : List (List Int)} {p q : Nat} {w0 : World} (hseq : ListSeqX F (n - 1) P gf lb L p q w0) (hb0 : Below w0.heap.size w0 w) (hps : ps.size = 1) (lo hi : Nat) (hlo : hi ≤ p ∨ q ≤ lo) (hhi : hi ≤ w.heap.size)
    (I : Nat → Row → World → Prop) (hI : ∀ k y A B, I k y A → Below w.heap.size A B → I k y B)
    (S : Code → Row → World → Prop) (hS : ∀ c y A B, S c y A → Below w.heap.size A B → S c y B)
    (y0 : Row) (h0 : I 0 y0 w) (hy0 : y0.Held w) (a₁ : Row → Act)
    (hassign : ∀ (l : Nat) (x : Row) (W : World) (K : Act → World → Prop), K (a₁ x) W →
      assign.wpIn (F.inRound l) (n - 1 - 1) P (Exit.then K (fun _ _ _ => False)) { tmps := (ps.zip #[.slice x.a x.l.length x.c]).foldl (fun t (p, v) => t.setIfInBounds p v) a.tmps, defers := [] } W)
    (hbody : ∀ (l k : Nat) (y x : Row) (W : World) (h : k < L.length), x.l = L[k] → I k y W → y.Held W → x.Held W → x.In w.heap.size W.heap.size W → w.heap.size ≤ W.heap.size →
      body.wpIn (F.inRound l) (n - 1 - 1) P (RoundEndX w.heap.size I S k y x lo hi W) (a₁ x) W)
    (hdone : ∀ (D : Nat) (y : Row) (W : World), w.heap.size ≤ D → I L.length y W → y.Held W → W.heap[D]? = some (.deferred (some [])) → Q .normal { a with defers := { target := .collected D, args := #[] } :: a.defers } W)
    (hstop : ∀ (D : Nat) (c : Code) (y : Row) (W : World), w.heap.size ≤ D → S c y W → y.Held W → W.heap[D]? = some (.deferred (some [])) → c.wpIn F n P Q { a with defers := { target := .collected D, args := #[] } :: a.defers } W) :
    (Code.rangeFunc g ps assign body).wpIn F n P Q a w := by
  refine wpIn_rangeFunc ?_
  intro fn hfn
  rw [hro]
  obtain ⟨rc, hrc⟩ : ∃ rc : LoopState → Option Code → Loop, rc = fun st pe => { state := st, pending := pe, fn, tmps := a.tmps, params := ps, assign, body, defers := w.heap.size } := ⟨_, rfl⟩
  obtain ⟨V, hV⟩ : ∃ V, (w.alloc (.deferred (some []))).alloc (.loop (rc .ready none)) = V := ⟨_, rfl⟩
  have szV : V.heap.size = w.heap.size + 1 + 1 := by rw [← hV]; simp
  have bV : Below w.heap.size w V := by rw [← hV]; exact ((Below.refl _ w).alloc (Nat.le_refl _) _).alloc (by simp) _
  have loopV : V.heap[w.heap.size + 1]? = some (.loop (rc .ready none)) := by
    rw [← hV]; have := World.alloc_heap_new (w.alloc (.deferred (some []))) (.loop (rc .ready none)); rwa [World.size_alloc] at this
  have defV : V.heap[w.heap.size]? = some (.deferred (some [])) := by
    rw [← hV]; exact (Below.heap_alloc _ _ _ (by simp)).trans (World.alloc_heap_new w _)
  refine ⟨w.heap.size + 1, [{ target := .collected w.heap.size, args := #[] }], V, { target := .fn (.func gf) lb, args := #[.func (.yield (w.heap.size + 1)) #[] #[]] }, V, gf,
    #[.func (.yield (w.heap.size + 1)) #[] #[]] ++ lb, V, ?_, ?_, ?_, ?_, fun _ => h1, ?_⟩
  · rw [← hV, hrc]; exact run_enterLoop_outer _ _ _ _ _
  · simp only [resolve, hg]
    simp [go_sem]
  · intro f' hf'; simp [Target.leads] at hf'; subst hf'; exact hFg
  · simp [invoke, go_sem, eg]
  refine (hseq (w.heap.size + 1) lo hi (fun k y W => I k y W ∧ W.heap[w.heap.size + 1]? = some (.loop (rc .ready none)) ∧ W.heap[w.heap.size]? = some (.deferred (some [])))
    (fun y W => ∃ c, S c y W ∧ W.heap[w.heap.size + 1]? = some (.loop (rc .done (some c))) ∧ W.heap[w.heap.size]? = some (.deferred (some [])))
    V y0 (hb0.trans (bV.mono hb0.size)) hlo (by omega) ?keep ?keepS ?round ⟨hI _ _ _ _ h0 bV, loopV, defV⟩ (hy0.on bV)).mono ?fin
  case keep =>
    rintro k y A B ⟨i1, i2, i3⟩ hb
    exact ⟨hI _ _ _ _ i1 (hb.mono (by omega)), (hb.block _ (by omega)).trans i2, (hb.block _ (by omega)).trans i3⟩
  case keepS =>
    rintro y A B ⟨c, i1, i2, i3⟩ hb
    exact ⟨c, hS _ _ _ _ i1 (hb.mono (by omega)), (hb.block _ (by omega)).trans i2, (hb.block _ (by omega)).trans i3⟩
  case round =>
    rintro k y x W hk hx ⟨i1, i2, i3⟩ hy hxh hxi hsz
    have hy1 := run_yield (P := P) (args := #[.slice x.a x.l.length x.c]) i2 (by rw [hrc]; exact hps.symm)
    rw [hrc] at hy1
    refine ⟨fn, _, assign, body, hy1, roundIn_of_wpIn hfn (hassign _ x W _ ⟨_, run_beginRound i2 (by rw [hrc]), ?_⟩)⟩
    obtain ⟨bz, hbz⟩ : ∃ bz, bz = Obj.loop { rc .ready none with state := .busy } := ⟨_, rfl⟩
    rw [← hbz]
    have hlt : w.heap.size + 1 < W.heap.size := by omega
    have s1 : (W.putObj (w.heap.size + 1) bz).heap.size = W.heap.size := by simp [World.putObj]
    have l2 : (W.putObj (w.heap.size + 1) bz).heap[w.heap.size + 1]? = some bz := World.putObj_heap_same hlt
    have d2 : (W.putObj (w.heap.size + 1) bz).heap[w.heap.size]? = some (.deferred (some [])) := (World.putObj_heap_other (by omega)).trans i3
    refine wpIn_mono (hbody _ k y x _ hk hx (hI _ _ _ _ i1 (put_below _ (by omega))) (held_put hy _ i2 rfl) (held_put hxh _ i2 rfl) ?_ (by omega)) ?_
    · obtain ⟨q1, q2, q3⟩ := hxi
      refine ⟨q1, q2, ?_⟩
      rcases q3 with q3 | ⟨b, of, e, h3, h4, h5, h6⟩
      · exact .inl q3
      · have n0 : b ≠ w.heap.size + 1 := by omega
        exact .inr ⟨b, of, e, by omega, by omega, by omega, fun j u hj => (World.cell?_of_block (a := ⟨b, of + j, none⟩) (World.putObj_heap_other n0)).trans (h6 j u hj)⟩
    have fin : ∀ (jump : Option Code) (lo hi : Nat) (W3 : World), hi ≤ w.heap.size → Touch lo hi (W.putObj (w.heap.size + 1) bz) W3 →
        (Instr.endRound (w.heap.size + 1) jump).run P W3 = .ok (.bool jump.isNone) (W3.putObj (w.heap.size + 1) (.loop (rc (if jump.isNone then .ready else .done) jump))) ∧
        W3.heap[w.heap.size + 1]? = some bz ∧
        (W3.putObj (w.heap.size + 1) (.loop (rc (if jump.isNone then .ready else .done) jump))).heap[w.heap.size + 1]? = some (.loop (rc (if jump.isNone then .ready else .done) jump)) ∧
        (W3.putObj (w.heap.size + 1) (.loop (rc (if jump.isNone then .ready else .done) jump))).heap[w.heap.size]? = some (.deferred (some [])) := fun jump lo hi W3 hhi ht => by
      have l3 : W3.heap[w.heap.size + 1]? = some bz := (ht.block _ (by omega) (by omega)).trans l2
      have d3 : W3.heap[w.heap.size]? = some (.deferred (some [])) := (ht.block _ (by omega) (by omega)).trans d2
      have he := run_endRound (P := P) jump (by rw [hbz] at l3; exact l3)
      rw [hrc] at he ⊢
      exact ⟨he, l3, World.putObj_heap_same (Array.getElem?_eq_some_iff.1 l3).1, (World.putObj_heap_other (by omega)).trans d3⟩
    rintro e a3 W3 hp
    cases e with
    | normal =>
      obtain ⟨ht, y', hy', hi', hh'⟩ := hp
      obtain ⟨hr, l3, l4, d4⟩ := fin none lo hi W3 hhi ht
      have hs3 := ht.size
      have s3 : ∀ o, (W3.putObj (w.heap.size + 1) o).heap.size = W3.heap.size := fun o => by simp [World.putObj]
      refine ⟨_, _, hr, y', hy', held_put hh' _ l3 (by rw [hbz]; rfl), .inl ⟨rfl, ?_, hI _ _ _ _ hi' (put_below _ (by omega)), l4, d4⟩⟩
      refine ⟨ht.os, ht.tape, ht.output, by rw [s3]; omega, fun i hi' hn => ?_⟩
      by_cases n2 : i = w.heap.size + 1
      · subst n2
        rw [World.putObj_heap_same (by omega), i2]
        simp [hrc]
      · have n3 : i < (W.putObj (w.heap.size + 1) bz).heap.size := by rw [s1]; exact hi'
        exact (World.putObj_heap_other n2).trans ((ht.block i n3 hn).trans (World.putObj_heap_other n2))
    | ret =>
      obtain ⟨ht, y', hy', hi', hh'⟩ := hp
      obtain ⟨hr, l3, l4, d4⟩ := fin (some .ret) 0 w.heap.size W3 (Nat.le_refl _) ht
      have hs3 := ht.size
      have s3 : ∀ o, (W3.putObj (w.heap.size + 1) o).heap.size = W3.heap.size := fun o => by simp [World.putObj]
      refine ⟨_, _, hr, y', hy', held_put hh' _ l3 (by rw [hbz]; rfl), .inr ⟨rfl, ?_, .ret, hS _ _ _ _ hi' (put_below _ (by omega)), l4, d4⟩⟩
      refine ⟨ht.os, ht.tape, ht.output, by rw [s3]; omega, fun i hi' hn => ?_⟩
      have n2 : i ≠ w.heap.size + 1 := by omega
      have n3 : i < (W.putObj (w.heap.size + 1) bz).heap.size := by rw [s1]; exact hi'
      exact (World.putObj_heap_other n2).trans ((ht.block i n3 (by omega)).trans (World.putObj_heap_other n2))
    | exit id =>
      obtain ⟨ht, y', hy', hi', hh'⟩ := hp
      obtain ⟨hr, l3, l4, d4⟩ := fin (some (.exit id)) 0 w.heap.size W3 (Nat.le_refl _) ht
      have hs3 := ht.size
      have s3 : ∀ o, (W3.putObj (w.heap.size + 1) o).heap.size = W3.heap.size := fun o => by simp [World.putObj]
      refine ⟨_, _, hr, y', hy', held_put hh' _ l3 (by rw [hbz]; rfl), .inr ⟨rfl, ?_, (.exit id), hS _ _ _ _ hi' (put_below _ (by omega)), l4, d4⟩⟩
      refine ⟨ht.os, ht.tape, ht.output, by rw [s3]; omega, fun i hi' hn => ?_⟩
      have n2 : i ≠ w.heap.size + 1 := by omega
      have n3 : i < (W.putObj (w.heap.size + 1) bz).heap.size := by rw [s1]; exact hi'
      exact (World.putObj_heap_other n2).trans ((ht.block i n3 (by omega)).trans (World.putObj_heap_other n2))
    | goto t =>
      obtain ⟨ht, y', hy', hi', hh'⟩ := hp
      obtain ⟨hr, l3, l4, d4⟩ := fin (some (.goto t)) 0 w.heap.size W3 (Nat.le_refl _) ht
      have hs3 := ht.size
      have s3 : ∀ o, (W3.putObj (w.heap.size + 1) o).heap.size = W3.heap.size := fun o => by simp [World.putObj]
      refine ⟨_, _, hr, y', hy', held_put hh' _ l3 (by rw [hbz]; rfl), .inr ⟨rfl, ?_, (.goto t), hS _ _ _ _ hi' (put_below _ (by omega)), l4, d4⟩⟩
      refine ⟨ht.os, ht.tape, ht.output, by rw [s3]; omega, fun i hi' hn => ?_⟩
      have n2 : i ≠ w.heap.size + 1 := by omega
      have n3 : i < (W.putObj (w.heap.size + 1) bz).heap.size := by rw [s1]; exact hi'
      exact (World.putObj_heap_other n2).trans ((ht.block i n3 (by omega)).trans (World.putObj_heap_other n2))
    | panic ch => exact hp.elim
    | outgrown => exact hp.elim
  case fin =>
    rintro e W2 ⟨⟨v, rfl⟩, y, hy, ⟨i1, i2, i3⟩ | ⟨c, i1, i2, i3⟩⟩
    · have hend := run_endLoop (P := P) i2 (by rw [hrc]; simp)
      rw [hrc] at hend
      exact ⟨none, _, hend, hdone _ y _ (Nat.le_refl _) (hI _ _ _ _ i1 (put_below _ (by omega))) (held_put hy _ i2 rfl) ((World.putObj_heap_other (by omega)).trans i3)⟩
    · have hend := run_endLoop (P := P) i2 (by rw [hrc]; simp)
      rw [hrc] at hend
      exact ⟨some c, _, hend, hstop _ c y _ (Nat.le_refl _) (hS _ _ _ _ i1 (put_below _ (by omega))) (held_put hy _ i2 rfl) ((World.putObj_heap_other (by omega)).trans i3)⟩

/-- In blocks from B on. -/
def Row.Ge (B : Nat) (r : Row) : Prop := r.l ≠ [] → ∀ x, r.a = some x → B ≤ x.block
theorem held_in {B : Nat} {w : World} {r : Row} (h : r.Held w) (hg : r.Ge B) : r.In B w.heap.size w := by
  obtain ⟨q1, q2, q3⟩ := h.2
  refine ⟨q1, q2, ?_⟩
  rcases q3 with q3 | ⟨b, o, e, _, hh, hlt, hc⟩
  · exact .inl q3
  · by_cases hn : r.l = []
    · exact .inl (by rw [hn]; rfl)
    · exact .inr ⟨b, o, e, hg hn _ e, hh, hlt, hc⟩
theorem in_ge {B hi : Nat} {w : World} {r : Row} (h : r.In B hi w) : r.Ge B := fun hl x hx => by
  obtain ⟨_, _, q3⟩ := h
  rcases q3 with q3 | ⟨b, o, e, hl', _⟩
  · exact absurd (iv_nil q3) hl
  · rw [hx] at e; simp only [Option.some.injEq] at e; subst e; exact hl'

/-- The first one of a list, by its place. -/
theorem find_at {α : Type} {p : α → Bool} {L : List α} {k : Nat} (hk : k < L.length) (h : ∀ i, (hi : i < k) → p (L[i]'(by omega)) = false) (hp : p L[k] = true) : L.find? p = some L[k] := by
  rw [List.find?_eq_some_iff_getElem]
  exact ⟨hp, k, hk, rfl, fun j hj => by rw [h j hj]; rfl⟩
theorem find_none {α : Type} {p : α → Bool} {L : List α} (h : ∀ i, (hi : i < L.length) → p L[i] = false) : L.find? p = none := by
  rw [List.find?_eq_none]
  intro x hx
  obtain ⟨i, hi, rfl⟩ := List.mem_iff_getElem.1 hx
  rw [h i hi]; simp

/-- No row at all. -/
def noRow : Row := ⟨none, 0, []⟩
theorem noRow_held (w : World) : noRow.Held w := ⟨.inl rfl, by unfold Row.In RowIn; exact ⟨Nat.le_refl _, Nat.zero_le _, .inl rfl⟩⟩
/-- How the search stands when it has found a set. -/
structure Found (B : Nat) (w : World) (p : List Nat → Bool) (C : List (List Nat)) (y : Row) (W : World) : Prop where
  set : ∃ T, C.find? p = some T ∧ y.l = up T
  b2 : Boxed W (B + 1 + 1) 22 (.slice y.a y.l.length y.c)
  b3 : Boxed W (B + 1 + 1 + 1) 4 (.bool true)
  bl : Below B w W
  ge : y.Ge B
theorem Found.keep {B M : Nat} {w : World} {p : List Nat → Bool} {C : List (List Nat)} {y : Row} {A A' : World} (h : Found B w p C y A) (hb : Below M A A') (hM : B + 1 + 1 + 1 + 1 ≤ M) : Found B w p C y A' :=
  ⟨h.set, (hb.block _ (by omega)).trans h.b2, (hb.block _ (by omega)).trans h.b3, h.bl.trans (hb.mono (by omega)), h.ge⟩

/-- Marks of loops over iterators, none of them shut. -/
structure Marks (B : Nat) (ds : List Deferred) (w : World) : Prop where
  at_ : ∀ d ∈ ds, ∃ D, d.target = .collected D ∧ B ≤ D ∧ w.heap[D]? = some (.deferred (some []))
  apart : ds.Pairwise fun d e => ∀ D E, d.target = .collected D → e.target = .collected E → D ≠ E
theorem Marks.keep {B : Nat} {ds : List Deferred} {w w' : World} (h : Marks B ds w) (hk : ∀ i, B ≤ i → i < w.heap.size → w'.heap[i]? = w.heap[i]?) : Marks B ds w' :=
  ⟨fun d hd => by
    obtain ⟨D, h1, h2, h3⟩ := h.at_ d hd
    exact ⟨D, h1, h2, (hk D h2 (Array.getElem?_eq_some_iff.1 h3).1).trans h3⟩, h.apart⟩
theorem Marks.push {B D : Nat} {ds : List Deferred} {w : World} {d : Deferred} (h : Marks B ds w) (ht : d.target = .collected D) (hB : B ≤ D) (hD : w.heap[D]? = some (.deferred (some []))) (hn : ∀ e ∈ ds, ∀ E, e.target = .collected E → E < D) : Marks B (d :: ds) w :=
  ⟨fun e he => by
    rcases List.mem_cons.1 he with rfl | he
    · exact ⟨D, ht, hB, hD⟩
    · exact h.at_ e he,
   List.pairwise_cons.2 ⟨fun e he D' E hD' hE => by
    rw [ht] at hD'
    have := hn e he E hE
    cases hD'; omega, h.apart⟩⟩
theorem leaves_marks {F : Fence} {n : Nat} {P : Program} {fn : Func} {tmps : Array Value} {R : Ending → World → Prop} {B : Nat} (hres : fn.results = #[]) (P0 : World → Prop)
    (hput : ∀ w D, B ≤ D → w.heap[D]? = some (.deferred (some [])) → P0 w → P0 (w.putObj D (.deferred none))) (hR : ∀ v w, P0 w → R (.returned v) w) :
    ∀ (ds : List Deferred) (w : World), Marks B ds w → P0 w → LeavesInM F n P fn tmps R ds .returning w
  | [], w, _, h => ⟨_, results_none hres _ _ _, hR _ _ h⟩
  | d :: ds, w, hm, h => by
    obtain ⟨D, h1, h2, h3⟩ := hm.at_ d List.mem_cons_self
    refine ⟨by simp, .inl ⟨D, _, h1, run_takeDeferred h3, ?_⟩⟩
    refine leaves_marks hres P0 hput hR ds _ ⟨fun e he => ?_, (List.pairwise_cons.1 hm.apart).2⟩ (hput _ _ h2 h3 h)
    obtain ⟨E, e1, e2, e3⟩ := hm.at_ e (List.mem_cons_of_mem _ he)
    have hne := (List.pairwise_cons.1 hm.apart).1 e he D E h1 e1
    exact ⟨E, e1, e2, (World.putObj_heap_other (fun h => hne h.symm)).trans e3⟩

theorem round_wide {n m l l' : Nat} {P : Program} {f : FuncId} {tmps : Array Value} {assign body : Code} {w : World} {R : Ending → World → Prop} (h : RoundIn Fence.wide n P l f tmps assign body w R) : RoundIn (Fence.wide.inRound l') m P l f tmps assign body w R :=
  ⟨trivial, fun c cs _ => h.2 c cs (room_wide _)⟩

/-- The same, where the function has results. -/
theorem leaves_marksR {F : Fence} {n : Nat} {P : Program} {fn : Func} {tmps : Array Value} {R : Ending → World → Prop} {B : Nat} (P0 : World → Prop)
    (hput : ∀ w D, B ≤ D → w.heap[D]? = some (.deferred (some [])) → P0 w → P0 (w.putObj D (.deferred none))) (hR : ∀ w, P0 w → ∃ v, (results fn tmps).run P w = .ok v w ∧ R (.returned v) w) :
    ∀ (ds : List Deferred) (w : World), Marks B ds w → P0 w → LeavesInM F n P fn tmps R ds .returning w
  | [], w, _, h => by
    obtain ⟨v, h1, h2⟩ := hR w h
    exact ⟨v, h1, h2⟩
  | d :: ds, w, hm, h => by
    obtain ⟨D, h1, h2, h3⟩ := hm.at_ d List.mem_cons_self
    refine ⟨by simp, .inl ⟨D, _, h1, run_takeDeferred h3, ?_⟩⟩
    refine leaves_marksR P0 hput hR ds _ ⟨fun e he => ?_, (List.pairwise_cons.1 hm.apart).2⟩ (hput _ _ h2 h3 h)
    obtain ⟨E, e1, e2, e3⟩ := hm.at_ e (List.mem_cons_of_mem _ he)
    have hne := (List.pairwise_cons.1 hm.apart).1 e he D E h1 e1
    exact ⟨E, e1, e2, (World.putObj_heap_other (fun h => hne h.symm)).trans e3⟩
end Go.Proofs.Ytemflcegkebloaa
