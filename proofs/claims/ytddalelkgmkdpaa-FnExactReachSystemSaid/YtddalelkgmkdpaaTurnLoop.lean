/- A System that a function makes in a variable of its own, set by set: what its memory holds between two sets. No condition. -/
import Derived.Test.YtddalelkgmkdpaaTurnProg
import Derived.Test.YtddalelkgmkdpaaMapField
namespace Go.Proofs.Ytddalelkgmkdpaa
open Go.RowKit Go.Shelf

/-- k sets and j costs of the sets D have been laid into the variable in block b + 2; nothing below b has been written. -/
structure Turn (b : Nat) (m : Int) (D : List (List Int)) (V : World) (k j : Nat) (Q : List Row) (vs vc : Value) (W : World) : Prop where
  len : Q.length = k
  con : Q.map Row.l = D.take k
  grows : Grows b W vs Q
  box : Box3 W (b + 2) (.int .i64 m) vs vc 29
  own : W.ownsRow b 3 1 vc j (iv (List.replicate j 1))
  ns : vs.ownBlock ≠ some (b + 2)
  nc : vc.ownBlock ≠ some (b + 2)
  sc : ∀ g, vs.ownBlock = some g → vc.ownBlock ≠ some g
  ins : ∀ r ∈ Q, r.In (b + 3) W.heap.size W
  off : ∀ r ∈ Q, r.l ≠ [] → ∀ x, r.a = some x → vc.ownBlock ≠ some x.block
  below : Below b V W
  base : b ≤ V.heap.size

theorem owns_keep {w w' : World} {B n : Nat} {e : TypeId} {v : Value} {xs : List Value} (h : w.ownsRow B e 1 v n xs) (hb : ∀ g, v.ownBlock = some g → g < w.heap.size → w'.heap[g]? = w.heap[g]?) : w'.ownsRow B e 1 v n xs := by
  obtain ⟨h1, h2⟩ := id h
  refine ⟨h1, ?_⟩
  rcases h2 with h2 | ⟨g, cap, cur, rfl, hB, hg, r⟩
  · exact .inl h2
  · exact .inr ⟨g, cap, cur, rfl, hB, (hb g rfl (Array.getElem?_eq_some_iff.1 hg).1).trans hg, r⟩
theorem Turn.size {b : Nat} {m : Int} {D : List (List Int)} {V W : World} {k j : Nat} {Q : List Row} {vs vc : Value} (h : Turn b m D V k j Q vs vc W) : b + 3 ≤ W.heap.size := h.box.lt
theorem Turn.on {b : Nat} {m : Int} {D : List (List Int)} {V W W' : World} {k j : Nat} {Q : List Row} {vs vc : Value} (h : Turn b m D V k j Q vs vc W) (t : Below W.heap.size W W') : Turn b m D V k j Q vs vc W' :=
  ⟨h.len, h.con, h.grows.on t, h.box.on t, owns_below h.own t, h.ns, h.nc, h.sc, fun r hr => ((h.ins r hr).on t).wide (Nat.le_refl _) t.size, h.off, h.below.trans (t.mono (by have := h.size; omega)), h.base⟩

theorem Turn.sets {b : Nat} {m : Int} {D : List (List Int)} {V W0 W w1 : World} {k j : Nat} {Q : List Row} {vs vc vs' : Value} {t : Row} {o : Obj} (h : Turn b m D V k j Q vs vc W0) (hb : Below W0.heap.size W0 W) (hk : k < D.length) (htl : t.l = D[k]) (hto : t.Own 3 W) (hti : t.In W0.heap.size W.heap.size W)
    (hown' : w1.ownsRow b 23 1 vs' (k + 1) (tv Q ++ [.slice t.a t.l.length t.c])) (hgrow : (W.alloc o).grownBy w1 vs.ownBlock) (hloc : vs'.ownBlock = vs.ownBlock ∨ vs'.ownBlock = some (W.alloc o).heap.size) :
    Turn b m D V (k + 1) j (Q ++ [t]) vs' vc (w1.setCell ⟨b + 2, 1, none⟩ vs') := by
  have hsz := h.size
  have hba := below_alloc W o
  have hW := hb.trans (hba.mono hb.size)
  have hs1 := hb.size
  have hs2 : (W.alloc o).heap.size = W.heap.size + 1 := size_alloc _ _
  have hfr := h.grows.fresh hti
  have hlen := h.len
  have hti3 : t.In (b + 3) W.heap.size W := hti.wide (by omega) (Nat.le_refl _)
  have R1 := ((h.grows.on hb).on hba).append (hto.on hba) (((hti3.wide (by omega) (Nat.le_refl _)).on hba).wide (Nat.le_refl _) hba.size) hfr.1 hfr.2 (by rw [hlen]; exact hown') hgrow (hloc.imp id fun h => ⟨_, h, Nat.le_refl _⟩)
  have hbx : Box3 w1 (b + 2) (.int .i64 m) vs vc 29 := (hgrow.block (b + 2) (by omega) (fun e => h.ns e.symm)).trans (h.box.on hW)
  have hns : vs'.ownBlock ≠ some (b + 2) := by
    rcases hloc with h1 | h1
    · rw [h1]; exact h.ns
    · rw [h1]; intro e; simp only [Option.some.injEq] at e; omega
  have hall : ∀ r ∈ Q ++ [t], r.In (b + 3) w1.heap.size w1 := fun r hr => by
    have h1 := R1.ins r hr
    rcases List.mem_append.1 hr with hr | hr
    · exact ((h.ins r hr).on hW).mix h1
    · rw [List.mem_singleton] at hr; subst hr; exact hti3.mix h1
  have hown1 : w1.ownsRow b 3 1 vc j (iv (List.replicate j 1)) := owns_keep (owns_below h.own hW) fun g hg hlt => hgrow.block g hlt fun e => h.sc g e.symm hg
  have hst := set_touch w1 (b + 2) 1 vs'
  refine ⟨by rw [List.length_append, hlen]; rfl, ?_, R1.touch hst hns hall, hbx.set1 vs', owns_keep hown1 fun g hg hlt => hst.block g hlt (fun e => h.nc (by rw [hg]; congr 1; omega)), hns, h.nc, ?_, fun r hr => ((hall r hr).touch hst (.inr (Nat.le_refl _))).wide (Nat.le_refl _) hst.size, ?_, ?_, h.base⟩
  · rw [List.map_append, h.con, List.take_succ_eq_append_getElem hk, ← htl]; rfl
  · intro g hg hc
    rcases hloc with h1 | h1
    · exact h.sc g (by rw [← h1]; exact hg) hc
    · rw [h1] at hg
      simp only [Option.some.injEq] at hg
      have := (h.own.lt g hc).2
      omega
  · intro r hr hl x hx hc
    rcases List.mem_append.1 hr with hr | hr
    · exact h.off r hr hl x hx hc
    · rw [List.mem_singleton] at hr; subst hr
      have h1 := (h.own.lt _ hc).2
      obtain ⟨_, _, h3⟩ := hti
      rcases h3 with h3 | ⟨b', o', e, hl', _, _, _⟩
      · exact hl (iv_nil h3)
      · rw [hx] at e
        simp only [Option.some.injEq] at e
        subst e
        simp only at h1; omega
  · exact ((h.below.trans (hW.mono (by omega))).grown hgrow (by omega) (fun g hg => ((h.grows.own.lt g hg)).1)).setCell (p := ⟨b + 2, 1, none⟩) (by show b ≤ b + 2; omega) vs'

theorem Turn.costs {b : Nat} {m : Int} {D : List (List Int)} {V W w1 : World} {k j : Nat} {Q : List Row} {vs vc vc' : Value} {o : Obj} (h : Turn b m D V k j Q vs vc W)
    (hown' : w1.ownsRow b 3 1 vc' (j + 1) (iv (List.replicate j 1) ++ [.int .i64 1])) (hgrow : (W.alloc o).grownBy w1 vc.ownBlock) (hloc : vc'.ownBlock = vc.ownBlock ∨ vc'.ownBlock = some (W.alloc o).heap.size) :
    Turn b m D V k (j + 1) Q vs vc' (w1.setCell ⟨b + 2, 2, none⟩ vc') := by
  have hsz := h.size
  have hW := below_alloc W o
  have hs2 : (W.alloc o).heap.size = W.heap.size + 1 := size_alloc _ _
  have hbx : Box3 w1 (b + 2) (.int .i64 m) vs vc 29 := (hgrow.block (b + 2) (by omega) (fun e => h.nc e.symm)).trans (h.box.on hW)
  have hnc : vc'.ownBlock ≠ some (b + 2) := by
    rcases hloc with h1 | h1
    · rw [h1]; exact h.nc
    · rw [h1]; intro e; simp only [Option.some.injEq] at e; omega
  have hgo := h.grows.on hW
  -- the sets lie apart from the costs
  have keepRow : ∀ r ∈ Q, r.In (b + 3) w1.heap.size w1 := fun r hr => by
    obtain ⟨a1, a2, a3⟩ := (h.ins r hr).on hW
    refine ⟨a1, a2, ?_⟩
    rcases a3 with a3 | ⟨b', o', e, hl, hh, hb', hc⟩
    · exact .inl a3
    · by_cases hx : r.l = []
      · exact .inl (by rw [hx]; rfl)
      · refine .inr ⟨b', o', e, hl, Nat.lt_of_lt_of_le hh (by have := hgrow.size; omega), Nat.lt_of_lt_of_le hb' hgrow.size, fun i x hi => ?_⟩
        rw [← hc i x hi]
        exact World.cell?_of_block (w := W.alloc o) (hgrow.block b' hb' (fun e' => h.off r hr hx _ e e'.symm))
  have keepOwn : ∀ r ∈ Q, r.Own 3 w1 := fun r hr => by
    refine (hgo.lots.1 r hr).keep fun g hl hg => ?_
    obtain ⟨_, _, h3⟩ := (h.ins r hr).on hW
    rcases h3 with h3 | ⟨b', o', e, _, _, hb', _⟩
    · exact absurd (iv_nil h3) hl
    · rw [hg] at e
      simp only [Option.some.injEq, Addr.mk.injEq] at e
      obtain ⟨rfl, _⟩ := e
      exact hgrow.block g hb' (fun e' => h.off r hr hl _ hg e'.symm)
  have hgr1 : Grows b w1 vs Q := ⟨owns_keep hgo.own fun g hg hlt => hgrow.block g hlt fun e => h.sc g hg e.symm, ⟨keepOwn, hgo.lots.2⟩, fun r hr => (keepRow r hr).wide (by omega) (Nat.le_refl _), hgo.off⟩
  have hst := set_touch w1 (b + 2) 2 vc'
  have hrep : iv (List.replicate j 1) ++ [Value.int .i64 1] = iv (List.replicate (j + 1) 1) := by
    rw [List.replicate_succ']; simp [iv]
  rw [hrep] at hown'
  refine ⟨h.len, h.con, hgr1.touch hst h.ns keepRow, hbx.set2 vc', owns_keep hown' fun g hg hlt => hst.block g hlt (fun e => hnc (by rw [hg]; congr 1; omega)), h.ns, hnc, ?_, fun r hr => ((keepRow r hr).touch hst (.inr (Nat.le_refl _))).wide (Nat.le_refl _) hst.size, ?_, ?_, h.base⟩
  · intro g hg hc
    rcases hloc with h1 | h1
    · exact h.sc g hg (by rw [← h1]; exact hc)
    · rw [h1] at hc
      simp only [Option.some.injEq] at hc
      have := (h.grows.own.lt g hg).2
      omega
  · intro r hr hl x hx hc
    rcases hloc with h1 | h1
    · exact h.off r hr hl x hx (by rw [← h1]; exact hc)
    · rw [h1] at hc
      simp only [Option.some.injEq] at hc
      obtain ⟨_, _, h3⟩ := h.ins r hr
      rcases h3 with h3 | ⟨b', o', e, _, hh, _, _⟩
      · exact hl (iv_nil h3)
      · rw [hx] at e
        simp only [Option.some.injEq] at e
        subst e
        simp only at hc; omega
  · exact ((h.below.trans (hW.mono (by omega))).grown hgrow (by omega) (fun g hg => ((h.own.lt g hg)).1)).setCell (p := ⟨b + 2, 2, none⟩) (by show b ≤ b + 2; omega) vc'

/-- The parts of the System that has been made. -/
theorem Turn.parts {b : Nat} {m : Int} {D : List (List Int)} {V W : World} {k j : Nat} {Q : List Row} {vs vc : Value} (h : Turn b m D V k j Q vs vc W) : ∃ (T : Tab) (t : Row), vs = .slice T.a T.R.length T.c ∧ vc = .slice t.a t.l.length t.c ∧ T.con = D.take k ∧ t.l = List.replicate j 1 ∧
    Fld.Own 3 W ⟨t, T⟩ ∧ Fld.In b W.heap.size W ⟨t, T⟩ := by
  have hsp : ∃ T : Tab, vs = .slice T.a T.R.length T.c ∧ T.R = Q ∧ T.Own 3 W ∧ T.In b W.heap.size W ∧ (∀ x, T.a = some x → T.R ≠ [] → vs.ownBlock = some x.block) := by
    obtain ⟨T, h1, h2, h3, h4⟩ := h.grows.tab
    refine ⟨T, h1, h2, h3, h4, fun x hx hne => ?_⟩
    rcases id h.grows.own.2 with ⟨hv, h0⟩ | ⟨g, cap, cur, hv, _⟩
    · exact absurd (by rw [h2]; exact List.eq_nil_of_length_eq_zero h0) hne
    · rw [h1] at hv ⊢
      simp only [Value.slice.injEq] at hv
      rw [hx] at hv
      simp only [Option.some.injEq] at hv
      rw [hx, hv.1]
      rfl
  obtain ⟨T, hTv, hTR, hTo, hTi, hblk⟩ := hsp
  obtain ⟨t, htv, htl, hto, hti⟩ := rowN_of_own (l := List.replicate j 1) (by simp) h.own
  have htb : t.l ≠ [] → ∀ x, t.a = some x → vc.ownBlock = some x.block := fun hl x hx => by
    rcases id h.own.2 with ⟨hv, h0⟩ | ⟨g, cap, cur, hv, _⟩
    · exact absurd (by rw [htl, h0]; rfl) hl
    · rw [htv] at hv ⊢
      simp only [Value.slice.injEq] at hv
      rw [hx] at hv
      simp only [Option.some.injEq] at hv
      rw [hx, hv.1]
      rfl
  refine ⟨T, t, hTv, htv, by show T.R.map Row.l = _; rw [hTR, h.con], htl, ⟨⟨fun r hr => ?_, List.pairwise_cons.2 ⟨fun r hr x y h1 h2 e1 e2 he => ?_, hTo.1.2⟩⟩, fun r hr => ?_⟩, ⟨hti, hTi⟩⟩
  · rcases List.mem_cons.1 hr with hr | hr
    · subst hr; exact hto
    · exact hTo.1.1 r hr
  · exact h.off r (by rw [← hTR]; exact hr) h2 y e2 (by rw [htb h1 x e1, he])
  · rcases List.mem_cons.1 hr with hr | hr
    · subst hr
      intro x y h1 h2 e1 e2 he
      exact h.sc y.block (hblk y e2 h2) (by rw [htb h1 x e1, he])
    · exact hTo.2 r hr

end Go.Proofs.Ytddalelkgmkdpaa
