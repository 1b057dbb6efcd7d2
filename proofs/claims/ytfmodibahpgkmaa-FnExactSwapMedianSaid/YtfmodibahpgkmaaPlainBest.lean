/- Plain facts of the best swap. No condition. -/
import Derived.Test.YtfmodibahpgkmaaPlainGain
namespace Go.Proofs.Ytfmodibahpgkmaa
open Go.RowKit

/-- The best swap so far: what is taken out, what is put in, the gain. -/
def stepS (F : Fld) (l : List Int) (o : Int) (st : Int × Int × Int) (n : Nat) : Int × Int × Int :=
  if hasI l (n : Int) = false ∧ st.2.2 < gain F l o n then (o, (n : Int), gain F l o n) else st
def rowS (F : Fld) (l : List Int) (o : Int) (st : Int × Int × Int) (k : Nat) : Int × Int × Int := (List.range k).foldl (stepS F l o) st
def bestS (F : Fld) (l : List Int) (i : Nat) : Int × Int × Int := (l.take i).foldl (fun st o => rowS F l o st F.o.l.length) (0, 0, 0)
theorem rowS_zero (F : Fld) (l : List Int) (o : Int) (st : Int × Int × Int) : rowS F l o st 0 = st := rfl
theorem rowS_step (F : Fld) (l : List Int) (o : Int) (st : Int × Int × Int) (k : Nat) : rowS F l o st (k + 1) = stepS F l o (rowS F l o st k) k := by
  unfold rowS; rw [List.range_succ, List.foldl_append]; rfl
theorem bestS_step {F : Fld} {l : List Int} {i : Nat} (h : i < l.length) : bestS F l (i + 1) = rowS F l l[i] (bestS F l i) F.o.l.length := by
  unfold bestS; rw [List.take_succ_eq_append_getElem h, List.foldl_append]; rfl
/-- What the best swap keeps to. -/
def Kept (F : Fld) (l : List Int) (i : Nat) (st : Int × Int × Int) : Prop :=
  0 ≤ st.2.2 ∧ st.2.2 ≤ 693 ∧ (0 < st.2.2 → ∃ (o : Int) (n : Nat), o ∈ l ∧ n < i ∧ hasI l (n : Int) = false ∧ st = (o, (n : Int), gain F l o n))
theorem kept_step {F : Fld} {l : List Int} {o : Int} {n k : Nat} {st : Int × Int × Int} (hg : F.good = true) (ho : o ∈ l) (hn : n < k) (h : Kept F l k st) : Kept F l k (stepS F l o st n) := by
  unfold stepS
  by_cases hc : hasI l (n : Int) = false ∧ st.2.2 < gain F l o n
  · rw [if_pos hc]
    have := gain_bounds hg l o n
    have h0 := h.1
    have hc2 := hc.2
    exact ⟨by show 0 ≤ gain F l o n; omega, this.2, fun _ => ⟨o, n, ho, hn, hc.1, rfl⟩⟩
  · rw [if_neg hc]; exact h
theorem kept_row {F : Fld} {l : List Int} {o : Int} {st : Int × Int × Int} {m : Nat} (hg : F.good = true) (ho : o ∈ l) : ∀ k, k ≤ m → Kept F l m st → Kept F l m (rowS F l o st k)
  | 0, _, h => h
  | k + 1, hk, h => by rw [rowS_step]; exact kept_step hg ho (by omega) (kept_row hg ho k (by omega) h)
theorem kept_best {F : Fld} {l : List Int} (hg : F.good = true) : ∀ i, i ≤ l.length → Kept F l F.o.l.length (bestS F l i)
  | 0, _ => ⟨by simp [bestS], by simp [bestS], fun h => by simp [bestS] at h⟩
  | i + 1, hi => by rw [bestS_step (by omega)]; exact kept_row hg (List.getElem_mem _) _ (Nat.le_refl _) (kept_best hg i (by omega))
theorem kept_part {F : Fld} {l : List Int} (hg : F.good = true) {i k : Nat} (hi : i < l.length) (hk : k ≤ F.o.l.length) : Kept F l F.o.l.length (rowS F l l[i] (bestS F l i) k) := kept_row hg (List.getElem_mem _) _ hk (kept_best hg i (by omega))
theorem swapAt_of {F : Fld} {s : Row} {o : Int} {n : Nat} (h : twoB F s = true) (ho : o ∈ s.l) (hn : n < F.o.l.length) (hno : hasI s.l (n : Int) = false) : SwapAt F s o n :=
  ⟨h, by omega, by omega, hno, by unfold hasI; exact List.contains_iff_mem.2 ho⟩
theorem swapAt_not {F : Fld} {s : Row} {o n : Int} (h : hasI s.l n = true) : ¬ SwapAt F s o n := fun e => by have := e.no; rw [h] at this; cases this
theorem step_no {F : Fld} {l : List Int} {o : Int} {st : Int × Int × Int} {n : Nat} (h : hasI l (n : Int) = true) : stepS F l o st n = st := by unfold stepS; rw [if_neg fun e => by rw [h] at e; cases e.1]
theorem step_more {F : Fld} {l : List Int} {o : Int} {st : Int × Int × Int} {n : Nat} (h : hasI l (n : Int) = false) (hg : st.2.2 < gain F l o n) : stepS F l o st n = (o, (n : Int), gain F l o n) := by unfold stepS; rw [if_pos ⟨h, hg⟩]
theorem step_less {F : Fld} {l : List Int} {o : Int} {st : Int × Int × Int} {n : Nat} (hg : ¬ st.2.2 < gain F l o n) : stepS F l o st n = st := by unfold stepS; rw [if_neg fun e => hg e.2]
theorem bestS_like {F G : Fld} (hl : G.Like F) (l : List Int) (i : Nat) : bestS G l i = bestS F l i := by
  have h1 : ∀ o st n, stepS G l o st n = stepS F l o st n := fun o st n => by unfold stepS; rw [gain_like hl]
  have h2 : ∀ o, stepS G l o = stepS F l o := fun o => funext fun st => funext fun n => h1 o st n
  unfold bestS rowS
  rw [hl.1]; simp only [h2]
end Go.Proofs.Ytfmodibahpgkmaa
