/- A range over an iterator that makes its lists in memory: what such an iterator promises, and a law for the loop over it whose rounds keep at most one of the lists. No condition. -/
import Derived.RangeFuncNested
import Derived.RangeFuncBound
import Derived.RangeFuncCalls
import Derived.RangeFuncLeaves
import Derived.RangeFuncBox
import Derived.Test.YtemflcegkebloaaMem
namespace Go.Proofs.Ytemflcegkebloaa
open Go.RowKit

/-- A row that reads and may be written. -/
def Row.Held (w : World) (r : Row) : Prop := r.Own 3 w ∧ r.In 0 w.heap.size w
theorem Row.Held.on {w w' : World} {r : Row} (h : r.Held w) (t : Below w.heap.size w w') : r.Held w' := ⟨h.1.on t, (h.2.on t).wide (Nat.le_refl _) t.size⟩

/-- An iterator that hands the lists of L, one after the other, each in memory of its own, to rounds that write only blocks lo.. that lay before it was called, and not its own, p.. up to q. -/
def ListSeq (F : Fence) (n : Nat) (P : Program) (gf : Nat) (lb : Array Value) (L : List (List Int)) (p q : Nat) (w0 : World) : Prop :=
  ∀ (l lo hi : Nat) (J : Nat → Row → World → Prop) (W : World) (y0 : Row), Below w0.heap.size w0 W → (hi ≤ p ∨ q ≤ lo) → hi ≤ W.heap.size →
    (∀ k y A B, J k y A → Below W.heap.size A B → J k y B) →
    (∀ (k : Nat) (y x : Row) (W1 : World) (h : k < L.length), x.l = L[k] → J k y W1 → y.Held W1 → x.Held W1 → x.In W.heap.size W1.heap.size W1 → W.heap.size ≤ W1.heap.size →
      YieldAt F (n - 1) P l #[.slice x.a x.l.length x.c] W1 fun e W' => e = .returned (.bool true) ∧ Touch lo hi W1 W' ∧ ∃ y', (y' = y ∨ y' = x) ∧ J (k + 1) y' W' ∧ y'.Held W') →
    J 0 y0 W → y0.Held W →
    CallsIn F n P gf (#[.func (.yield l) #[] #[]] ++ lb) W fun e W' => (∃ v, e = .returned v) ∧ ∃ y, J L.length y W' ∧ y.Held W'

/-- How a round ends. -/
def RoundEnd (I : Nat → Row → World → Prop) (k : Nat) (y x : Row) (lo hi : Nat) (W : World) : Exit → Act → World → Prop
  | .normal, _, W' => Touch lo hi W W' ∧ ∃ y', (y' = y ∨ y' = x) ∧ I (k + 1) y' W' ∧ y'.Held W'
  | _, _, _ => False

theorem held_put {W : World} {y : Row} (h : y.Held W) {l : Nat} {o : Obj} (o' : Obj) (hl : W.heap[l]? = some o) (ho : o.isCells = false) : y.Held (W.putObj l o') := by
  have hsz : (W.putObj l o').heap.size = W.heap.size := by simp [World.putObj]
  have hk : ∀ g, g ≠ l → (W.putObj l o').heap[g]? = W.heap[g]? := fun g hg => World.putObj_heap_other hg
  obtain ⟨h1, h2⟩ := h
  refine ⟨?_, ?_⟩
  · rcases h1 with h1 | ⟨g, ha, hw⟩
    · exact .inl h1
    · refine .inr ⟨g, ha, owns_block hw (hk g fun e => ?_)⟩
      subst e
      rcases hw.2 with ⟨h', _⟩ | ⟨g', cap', cur, h', _, hg, _⟩
      · simp at h'
      · simp only [Value.slice.injEq, Option.some.injEq, Addr.mk.injEq, and_true, true_and] at h'
        obtain ⟨rfl, rfl⟩ := h'
        rw [hl] at hg; cases hg; cases ho
  · obtain ⟨q1, q2, q3⟩ := h2
    refine ⟨q1, q2, ?_⟩
    rcases q3 with q3 | ⟨b, of, e, h3, h4, h5, h6⟩
    · exact .inl q3
    · refine .inr ⟨b, of, e, h3, by rw [hsz]; exact h4, by rw [hsz]; exact h5, fun j x hj => ?_⟩
      have hc := h6 j x hj
      refine (World.cell?_of_block (a := ⟨b, of + j, none⟩) (hk b fun e' => ?_)).trans hc
      subst e'
      unfold World.cell? at hc
      simp only [hl] at hc
      cases o <;> simp_all [Obj.isCells]
theorem put_below {W : World} {B l : Nat} (o : Obj) (hl : B ≤ l) : Below B W (W.putObj l o) :=
  ⟨rfl, rfl, rfl, by simp [World.putObj], fun k hk => World.putObj_heap_other (by omega)⟩

variable {F : Fence} {n : Nat} {P : Program}

set_option maxHeartbeats 1000000 in
theorem wpIn_rangeLists {g : Operand} {ps : Array Tmp} {assign body : Code} {Q : Exit → Act → World → Prop} {a : Act} {w : World}
    (hro : F.round = none) (h1 : 1 ≤ n) {gf : Nat} {lb : Array Value} (hg : a.eval g = .func (.func gf) #[] lb) (hFg : F.fn gf) (eg : ∀ args w, (callFunc gf args).run P w = .ok (.enter gf args) w)
    {L : List (List Int)} {p q : Nat} {w0 : World} (hseq : ListSeq F (n - 1) P gf lb L p q w0) (hb0 : Below w0.heap.size w0 w) (hps : ps.size = 1) (lo hi : Nat) (hlo : hi ≤ p ∨ q ≤ lo) (hhi : hi ≤ w.heap.size)
    (I : Nat → Row → World → Prop) (hI : ∀ k y A B, I k y A → Below w.heap.size A B → I k y B)
    (y0 : Row) (h0 : I 0 y0 w) (hy0 : y0.Held w) (a₁ : Row → Act)
    (hassign : ∀ (l : Nat) (x : Row) (W : World) (K : Act → World → Prop), K (a₁ x) W →
      assign.wpIn (F.inRound l) (n - 1 - 1) P (Exit.then K (fun _ _ _ => False)) { tmps := (ps.zip #[.slice x.a x.l.length x.c]).foldl (fun t (p, v) => t.setIfInBounds p v) a.tmps, defers := [] } W)
    (hbody : ∀ (l k : Nat) (y x : Row) (W : World) (h : k < L.length), x.l = L[k] → I k y W → y.Held W → x.Held W → x.In w.heap.size W.heap.size W → w.heap.size ≤ W.heap.size →
      body.wpIn (F.inRound l) (n - 1 - 1) P (RoundEnd I k y x lo hi W) (a₁ x) W)
    (hdone : ∀ (D : Nat) (y : Row) (W : World), w.heap.size ≤ D → I L.length y W → y.Held W → W.heap[D]? = some (.deferred (some [])) → Q .normal { a with defers := { target := .collected D, args := #[] } :: a.defers } W) :
    (Code.rangeFunc g ps assign body).wpIn F n P Q a w := by
  refine wpIn_rangeFunc ?_
  intro fn hfn
  rw [hro]
  obtain ⟨rc, hrc⟩ : ∃ rc : LoopState → Option Code → Loop, rc = fun st pe => { state := st, pending := pe, fn, tmps := a.tmps, params := ps, assign, body, defers := w.heap.size } := ⟨_, rfl⟩
  obtain ⟨V, hV⟩ : ∃ V, (w.alloc (.deferred (some []))).alloc (.loop (rc .ready none)) = V := ⟨_, rfl⟩
  have szV : V.heap.size = w.heap.size + 1 + 1 := by rw [← hV]; simp
  have bV : Below w.heap.size w V := by rw [← hV]; exact ((Below.refl _ w).alloc (Nat.le_refl _) _).alloc (by simp) _
  have loopV : V.heap[w.heap.size + 1]? = some (.loop (rc .ready none)) := by
    rw [← hV]; have := World.alloc_heap_new (w.alloc (.deferred (some []))) (.loop (rc .ready none)); rwa [World.size_alloc] at this
  have defV : V.heap[w.heap.size]? = some (.deferred (some [])) := by
    rw [← hV]; exact (Below.heap_alloc _ _ _ (by simp)).trans (World.alloc_heap_new w _)
  refine ⟨w.heap.size + 1, [{ target := .collected w.heap.size, args := #[] }], V, { target := .fn (.func gf) lb, args := #[.func (.yield (w.heap.size + 1)) #[] #[]] }, V, gf,
    #[.func (.yield (w.heap.size + 1)) #[] #[]] ++ lb, V, ?_, ?_, ?_, ?_, fun _ => h1, ?_⟩
  · rw [← hV, hrc]; exact run_enterLoop_outer _ _ _ _ _
  · simp only [resolve, hg]
    simp [go_sem]
  · intro f' hf'; simp [Target.leads] at hf'; subst hf'; exact hFg
  · simp [invoke, go_sem, eg]
  refine (hseq (w.heap.size + 1) lo hi (fun k y W => I k y W ∧ W.heap[w.heap.size + 1]? = some (.loop (rc .ready none)) ∧ W.heap[w.heap.size]? = some (.deferred (some [])))
    V y0 (hb0.trans (bV.mono hb0.size)) hlo (by omega) ?keep ?round ⟨hI _ _ _ _ h0 bV, loopV, defV⟩ (hy0.on bV)).mono ?fin
  case keep =>
    rintro k y A B ⟨i1, i2, i3⟩ hb
    exact ⟨hI _ _ _ _ i1 (hb.mono (by omega)), (hb.block _ (by omega)).trans i2, (hb.block _ (by omega)).trans i3⟩
  case round =>
    rintro k y x W hk hx ⟨i1, i2, i3⟩ hy hxh hxi hsz
    have hy1 := run_yield (P := P) (args := #[.slice x.a x.l.length x.c]) i2 (by rw [hrc]; exact hps.symm)
    rw [hrc] at hy1
    refine ⟨fn, _, assign, body, hy1, roundIn_of_wpIn hfn (hassign _ x W _ ⟨_, run_beginRound i2 (by rw [hrc]), ?_⟩)⟩
    obtain ⟨bz, hbz⟩ : ∃ bz, bz = Obj.loop { rc .ready none with state := .busy } := ⟨_, rfl⟩
    rw [← hbz]
    have hlt : w.heap.size + 1 < W.heap.size := by omega
    have s1 : (W.putObj (w.heap.size + 1) bz).heap.size = W.heap.size := by simp [World.putObj]
    have l2 : (W.putObj (w.heap.size + 1) bz).heap[w.heap.size + 1]? = some bz := World.putObj_heap_same hlt
    have d2 : (W.putObj (w.heap.size + 1) bz).heap[w.heap.size]? = some (.deferred (some [])) := (World.putObj_heap_other (by omega)).trans i3
    refine wpIn_mono (hbody _ k y x _ hk hx (hI _ _ _ _ i1 (put_below _ (by omega))) (held_put hy _ i2 rfl) (held_put hxh _ i2 rfl) ?_ (by omega)) ?_
    · obtain ⟨q1, q2, q3⟩ := hxi
      refine ⟨q1, q2, ?_⟩
      rcases q3 with q3 | ⟨b, of, e, h3, h4, h5, h6⟩
      · exact .inl q3
      · have n0 : b ≠ w.heap.size + 1 := by omega
        exact .inr ⟨b, of, e, by omega, by omega, by omega, fun j u hj => (World.cell?_of_block (a := ⟨b, of + j, none⟩) (World.putObj_heap_other n0)).trans (h6 j u hj)⟩
    rintro e a3 W3 hp
    cases e with
    | normal =>
      obtain ⟨ht, y', hy', hi', hh'⟩ := hp
      have l3 : W3.heap[w.heap.size + 1]? = some bz := (ht.block _ (by omega) (by omega)).trans l2
      have d3 : W3.heap[w.heap.size]? = some (.deferred (some [])) := (ht.block _ (by omega) (by omega)).trans d2
      have hs3 := ht.size
      have he := run_endRound (P := P) none (by rw [hbz] at l3; exact l3)
      rw [hrc] at he
      have s3 : ∀ o, (W3.putObj (w.heap.size + 1) o).heap.size = W3.heap.size := fun o => by simp [World.putObj]
      refine ⟨_, _, he, rfl, ?_, y', hy', ⟨hI _ _ _ _ hi' (put_below _ (by omega)), ?_, (World.putObj_heap_other (by omega)).trans d3⟩, held_put hh' _ l3 (by rw [hbz]; rfl)⟩
      · refine ⟨ht.os, ht.tape, ht.output, by rw [s3]; omega, fun i hi' hn => ?_⟩
        by_cases n2 : i = w.heap.size + 1
        · subst n2
          rw [World.putObj_heap_same (by omega), i2]
          simp [hrc]
        · have n3 : i < (W.putObj (w.heap.size + 1) bz).heap.size := by rw [s1]; exact hi'
          exact (World.putObj_heap_other n2).trans ((ht.block i n3 hn).trans (World.putObj_heap_other n2))
      · rw [World.putObj_heap_same (by omega)]
        simp [hrc]
    | ret => exact hp.elim
    | exit id => exact hp.elim
    | goto t => exact hp.elim
    | panic ch => exact hp.elim
    | outgrown => exact hp.elim
  case fin =>
    rintro e W2 ⟨⟨v, rfl⟩, y, ⟨i1, i2, i3⟩, hy⟩
    have hend := run_endLoop (P := P) i2 (by rw [hrc]; simp)
    rw [hrc] at hend
    exact ⟨none, _, hend, hdone _ y _ (Nat.le_refl _) (hI _ _ _ _ i1 (put_below _ (by omega))) (held_put hy _ i2 rfl) ((World.putObj_heap_other (by omega)).trans i3)⟩
end Go.Proofs.Ytemflcegkebloaa
