/- Lists of integers, tables and Fields among the inputs, opened. No condition. -/
import Derived.Test.YtemflcegkebloaaMem
import Derived.Deep.Matrix
import Derived.Lib.SmallJoins
import Derived.ChangeSlices
import Derived.WideShapes
namespace Go.Proofs.Ytemflcegkebloaa
open Go.RowKit Go.ChangeShapes Go.WideShapes Go.Joins Go.Deep Go.ChangeMaps
variable {H : Type} {enc : TypeId × Value → H} {P : Program} {W : World}

theorem row_of_cells {x : Addr} {n c : Nat} {zs : List Int} (hl : n ≤ c) (hm : c ≤ maxLen) (hz : zs.length = c) (hcell : ∀ j, j < zs.length → W.cell? (x.add j) = some (.int .i64 (zs.getD j 0))) :
    Row.At W ⟨some x, c, zs.take n⟩ ∧ (zs.take n).length = n := by
  have hle : n ≤ zs.length := by omega
  refine ⟨⟨by rw [iv_length]; simp only [List.length_take]; omega, hm, ?_⟩, by rw [List.length_take]; omega⟩
  by_cases h0 : n = 0
  · subst h0; exact .inl (by simp [iv])
  · obtain ⟨b, off, spot⟩ := x
    have hc0 := hcell 0 (by omega)
    have hspot : spot = none := by simpa [Addr.add] using World.cell?_spot hc0
    subst hspot
    refine .inr ⟨b, off, rfl, by simpa [Addr.add] using World.block_lt_of_cell? W _ hc0, fun j y hj => ?_⟩
    obtain ⟨hj1, hj2⟩ := List.getElem?_eq_some_iff.1 hj
    rw [iv_length, List.length_take] at hj1
    have := hcell j (by omega)
    rw [← hj2]
    rw [Addr.add_lit] at this
    simpa [iv, List.getD_eq_getElem?_getD, show j < zs.length by omega] using this

theorem open_row_cells {t e : TypeId} {fuel : Nat} {cs : List Value} {x : DataW H × List MemPlace} (ht : P.underlying t = some (.slice e)) (he : P.underlying e = some (.int .i64)) (ce : P.cellsOf e = 1)
    (h : DataW.trod enc P W 0 (fun _ => true) true fuel t cs = some x) : ∃ r : Row, cs = [r.val] ∧ r.At W := by
  rcases open_ints ht he ce h with ⟨hcs, _⟩ | ⟨a, len, cap, zs, hcs, _, hl, hm, hz, _, hcell, _⟩
  · exact ⟨⟨none, 0, []⟩, hcs, ⟨by simp [iv], by decide, .inl rfl⟩⟩
  · simp only [if_true] at hz
    obtain ⟨h1, h2⟩ := row_of_cells hl hm hz hcell
    refine ⟨⟨some a, cap, zs.take len⟩, ?_, h1⟩
    rw [hcs]; unfold Row.val; simp only [h2]

theorem open_tab_cells {t e q : TypeId} {fuel : Nat} {cs : List Value} {x : DataW H × List MemPlace} (ht : P.underlying t = some (.slice e)) (he : P.underlying e = some (.slice q)) (hq : P.underlying q = some (.int .i64)) (ce : P.cellsOf e = 1) (cq : P.cellsOf q = 1)
    (h : DataW.trod enc P W 0 (fun _ => true) true fuel t cs = some x) : ∃ T : Tab, cs = [T.val] ∧ T.At W := by
  rcases open_int_rows ht he hq ce cq h with ⟨hcs, _⟩ | ⟨a, len, cap, A, L, C, Z, hcs, _, hl, hm, _, hr⟩
  · exact ⟨⟨none, 0, []⟩, hcs, ⟨by simp [tv], by decide, .inl rfl⟩, by simp⟩
  · have each : ∀ r, r < cap → Row.At W ⟨A r, C r, (Z r).take (L r)⟩ ∧ ((Z r).take (L r)).length = L r := fun r hrc => by
      obtain ⟨_, h1, h2, h3, _, h5, h6⟩ := hr r hrc
      cases hA : A r with
      | none =>
        have h0 := h5 hA
        have hL : L r = 0 := by omega
        have hZ : Z r = [] := List.eq_nil_of_length_eq_zero (by omega)
        rw [hL, hZ]
        exact ⟨⟨by simp [iv], h2, .inl (by simp [iv])⟩, rfl⟩
      | some a' =>
        exact row_of_cells h1 h2 h3 (fun j hj => (h6 a' hA).2 j (by omega))
    let R : List Row := (List.range len).map fun r => ⟨A r, C r, (Z r).take (L r)⟩
    have hRl : R.length = len := by simp [R]
    refine ⟨⟨some a, cap, R⟩, by rw [hcs]; unfold Tab.val; simp only [hRl], ⟨by rw [tv_length, hRl]; exact hl, hm, ?_⟩, fun r hr' => ?_⟩
    · by_cases h0 : len = 0
      · left
        have : R = [] := List.eq_nil_of_length_eq_zero (by rw [hRl, h0])
        show tv R = []
        rw [this]; rfl
      · obtain ⟨b, off, spot⟩ := a
        have hc0 := (hr 0 (by omega)).1
        have hspot : spot = none := by simpa [Addr.add] using World.cell?_spot hc0
        subst hspot
        refine .inr ⟨b, off, rfl, by simpa [Addr.add] using World.block_lt_of_cell? W _ hc0, fun j y hj => ?_⟩
        obtain ⟨hj1, _⟩ := List.getElem?_eq_some_iff.1 hj
        rw [tv_length, hRl] at hj1
        have h1 := (hr j (by omega)).1
        rw [Addr.add_lit] at h1
        rw [h1, ← hj]
        show _ = (tv R)[j]?
        simp [tv, R, Row.val, hj1, (each j (by omega)).2]
    · obtain ⟨j, hj, rfl⟩ := List.mem_map.1 hr'
      exact (each j (by have := List.mem_range.1 hj; omega)).1

theorem open_row {r : Reach} {b0 : Nat} {t e : TypeId} {v : Value} {d : DataW H} {p : List MemPlace} (ht : P.underlying t = some (.slice e)) (he : P.underlying e = some (.int .i64)) (ce : P.cellsOf e = 1) (hv : Value.okWide P W r b0 t v)
    (h : DataW.Trod enc P W 0 (fun _ => true) true t v d p) : ∃ r : Row, v = r.val ∧ r.At W := by
  obtain ⟨a, n, c, rfl⟩ := okWide_slice ht hv
  obtain ⟨fuel, hf⟩ := h
  obtain ⟨r, h1, h2⟩ := open_row_cells ht he ce hf
  exact ⟨r, by simpa [Value.cells] using h1, h2⟩

theorem open_tab {r : Reach} {b0 : Nat} {t e q : TypeId} {v : Value} {d : DataW H} {p : List MemPlace} (ht : P.underlying t = some (.slice e)) (he : P.underlying e = some (.slice q)) (hq : P.underlying q = some (.int .i64)) (ce : P.cellsOf e = 1) (cq : P.cellsOf q = 1) (hv : Value.okWide P W r b0 t v)
    (h : DataW.Trod enc P W 0 (fun _ => true) true t v d p) : ∃ T : Tab, v = T.val ∧ T.At W := by
  obtain ⟨a, n, c, rfl⟩ := okWide_slice ht hv
  obtain ⟨fuel, hf⟩ := h
  obtain ⟨T, h1, h2⟩ := open_tab_cells ht he hq ce cq hf
  exact ⟨T, by simpa [Value.cells] using h1, h2⟩

theorem open_fld {r : Reach} {b0 : Nat} {t t0 t1 e q : TypeId} {f0 f1 : Field} {v : Value} {d : DataW H} {p : List MemPlace} (hs : P.underlying t = some (.struct #[f0, f1])) (hone : oneCellFields P #[f0, f1] = true) (hC : P.cellsOf t = 2)
    (h0 : f0.type = t0) (h1 : f1.type = t1) (ht0 : P.underlying t0 = some (.slice q)) (hq : P.underlying q = some (.int .i64)) (cq : P.cellsOf q = 1) (ht1 : P.underlying t1 = some (.slice e)) (he : P.underlying e = some (.slice q)) (ce : P.cellsOf e = 1) (hv : Value.okWide P W r b0 t v)
    (h : DataW.Trod enc P W 0 (fun _ => true) true t v d p) : ∃ F : Fld, v = F.val ∧ F.At W := by
  obtain ⟨v0, v1, y0, y1, n, rfl, _, _, g0, g1⟩ := open_agg2 hs hone hC hv h
  subst h0 h1
  obtain ⟨r, e0, hr⟩ := open_row_cells ht0 hq cq g0
  obtain ⟨T, e1, hT⟩ := open_tab_cells ht1 he hq ce cq g1
  simp only [List.cons.injEq, and_true] at e0 e1
  subst e0 e1
  exact ⟨⟨r, T⟩, rfl, hr, hT⟩

end Go.Proofs.Ytemflcegkebloaa
