/- Both sides of CostTable answer alike. Condition: the Field reads as such. -/
import Derived.Test.YtfplcgakpildmaaCostsOf
import Derived.Test.YtfplcgakpildmaaCostSpec
namespace Go.Proofs.Ytfplcgakpildmaa
open Go.RowKit

theorem costsOf_any (F : Fld) (w : World) (hF : F.At w) (hg : F.good = true) :
    Calls Try.prog 40 #[.agg #[.slice F.o.a F.o.l.length F.o.c, .slice F.t.a F.t.R.length F.t.c]] w fun e w' => ∃ t : Row, e = .returned (.slice t.a t.l.length t.c) ∧ t.l = costs F ∧ t.Own 3 w' ∧ t.In w.heap.size w'.heap.size w' ∧ Below w.heap.size w w' :=
  callsIn_wide.1 (costsOf_in 8 (Nat.le_refl _) F w hF hg)

def CostsAre (F : Fld) (l : List Int) (b : Bool) : Prop := (F.good = false ∧ l = [] ∧ b = false) ∨ (F.good = true ∧ l = costs F ∧ b = true)
theorem costsAre_like {F G : Fld} {l : List Int} {b : Bool} (h : CostsAre F l b) (hl : G.Like F) : CostsAre G l b := by
  unfold CostsAre at *; rw [hl.good, costs_like hl]; exact h
theorem pow_le128 {m : Nat} (h : m ≤ 7) : 2 ^ m ≤ 128 := by have := Nat.pow_le_pow_right (show 0 < 2 by omega) h; simpa using this
theorem costsAre_some (F : Fld) : ∃ (l : List Int) (b : Bool), CostsAre F l b ∧ l.length ≤ 1048576 := by
  cases h : F.good with
  | false => exact ⟨[], false, .inl ⟨h, rfl, rfl⟩, by simp⟩
  | true => exact ⟨_, true, .inr ⟨h, rfl, rfl⟩, by rw [costs_len]; have := pow_le128 (good_sizes h).2.2; omega⟩

set_option maxHeartbeats 1000000 in
theorem implCostTable_any (F : Fld) (w : World) (hF : F.At w) (l : List Int) (b : Bool) (hv : CostsAre F l b) :
    Calls Try.prog 18 #[.agg #[.slice F.o.a F.o.l.length F.o.c, .slice F.t.a F.t.R.length F.t.c]] w (PInts l b w) := by
  obtain ⟨wA, hA, hbA, bx, hFA, hszA⟩ := laid_fld F w 29 hF
  have HFA := Lib.hid hFA
  have HBX : Hid (Box2 wA w.heap.size (.slice F.o.a F.o.l.length F.o.c) (.slice F.t.a F.t.R.length F.t.c) 29) := Lib.hid bx
  have HA : Hid (wA = w.alloc (Obj.cells #[.slice F.o.a F.o.l.length F.o.c, .slice F.t.a F.t.R.length F.t.c] 29)) := Lib.hid hA
  have CT := implIsField_any F wA hFA
  have HBA := Lib.hid hbA
  have x0 := HBX.out.c0
  have x1 := HBX.out.c1
  rw [HA.out] at x0 x1
  rcases hv with ⟨hg, rfl, rfl⟩ | ⟨hg, rfl, rfl⟩
  · rw [hg] at CT
    have CT1 := Lib.hid CT
    clear hF hA hbA bx hFA hszA CT hg
    go_enter Try.func18, Try.ntmps18
    go_wp2_with fail
    rw [← HA.out]
    refine (show Calls _ _ #[.agg #[.slice F.o.a F.o.l.length F.o.c, .slice F.t.a F.t.R.length F.t.c]] _ _ from CT1.out).mono ?_
    rintro e W1 ⟨rfl, hb1⟩
    have HBW1 := Lib.hid (HBA.out.trans (hb1.mono HBA.out.size))
    have HO1 := Lib.hid (empty_own W1)
    have hb0 := below_alloc W1 (.cells #[] 3)
    have hsz1 := HBW1.out.size
    clear hb1 x0 x1
    go_wp2
    go_ret2
    exact ints_end rfl HO1.out hsz1 (HBW1.out.trans (hb0.mono hsz1))
  · rw [hg] at CT
    have CT1 := Lib.hid CT
    have HG := Lib.hid hg
    clear hF hA hbA bx hFA hszA CT hg
    go_enter Try.func18, Try.ntmps18
    go_wp2_with fail
    rw [← HA.out]
    refine (show Calls _ _ #[.agg #[.slice F.o.a F.o.l.length F.o.c, .slice F.t.a F.t.R.length F.t.c]] _ _ from CT1.out).mono ?_
    rintro e W1 ⟨rfl, hb1⟩
    have HBW1 := Lib.hid (HBA.out.trans (hb1.mono HBA.out.size))
    have CC := Lib.hid (costsOf_any F W1 (HFA.out.on hb1) HG.out)
    have y0 := (HBX.out.on hb1).c0
    have y1 := (HBX.out.on hb1).c1
    have hszw := HBW1.out.size
    clear hb1 x0 x1
    go_wp2_with fail
    refine (show Calls _ _ _ _ _ from CC.out).mono ?_
    rintro e W2 ⟨t, rfl, htl, hto, hti, hb2⟩
    have HR : Hid (PInts (costs F) true w (.returned (.tuple #[.slice t.a t.l.length t.c, .bool true])) W2) := Lib.hid ⟨t, rfl, htl, hto, hti.wide hszw (Nat.le_refl _), HBW1.out.trans (hb2.mono hszw)⟩
    clear htl hto hti hb2 y0 y1
    go_wp2
    go_ret2
    exact HR.out

set_option maxHeartbeats 1000000 in
theorem specCostTable_any (F : Fld) (w : World) (hF : F.At w) (l : List Int) (b : Bool) (hv : CostsAre F l b) :
    Calls Try.prog 17 #[.agg #[.slice F.o.a F.o.l.length F.o.c, .slice F.t.a F.t.R.length F.t.c]] w (PInts l b w) := by
  obtain ⟨wA, hA, hbA, bx, hFA, hszA⟩ := laid_fld F w 29 hF
  have HFA := Lib.hid hFA
  have HBX : Hid (Box2 wA w.heap.size (.slice F.o.a F.o.l.length F.o.c) (.slice F.t.a F.t.R.length F.t.c) 29) := Lib.hid bx
  have HA : Hid (wA = w.alloc (Obj.cells #[.slice F.o.a F.o.l.length F.o.c, .slice F.t.a F.t.R.length F.t.c] 29)) := Lib.hid hA
  have CT := l2Good_any F wA hFA
  have HBA := Lib.hid hbA
  have x0 := HBX.out.c0
  have x1 := HBX.out.c1
  rw [HA.out] at x0 x1
  rcases hv with ⟨hg, rfl, rfl⟩ | ⟨hg, rfl, rfl⟩
  · rw [hg] at CT
    have CT1 := Lib.hid CT
    clear hF hA hbA bx hFA hszA CT hg
    go_enter Try.func17, Try.ntmps17
    go_wp2_with fail
    rw [← HA.out]
    refine (show Calls _ _ #[.agg #[.slice F.o.a F.o.l.length F.o.c, .slice F.t.a F.t.R.length F.t.c]] _ _ from CT1.out).mono ?_
    rintro e W1 ⟨rfl, hb1⟩
    have HBW1 := Lib.hid (HBA.out.trans (hb1.mono HBA.out.size))
    have HO1 := Lib.hid (empty_own W1)
    have hb0 := below_alloc W1 (.cells #[] 3)
    have hsz1 := HBW1.out.size
    clear hb1 x0 x1
    go_wp2
    go_ret2
    exact ints_end rfl HO1.out hsz1 (HBW1.out.trans (hb0.mono hsz1))
  · rw [hg] at CT
    have CT1 := Lib.hid CT
    have HG := Lib.hid hg
    clear hF hA hbA bx hFA hszA CT hg
    go_enter Try.func17, Try.ntmps17
    go_wp2_with fail
    rw [← HA.out]
    refine (show Calls _ _ #[.agg #[.slice F.o.a F.o.l.length F.o.c, .slice F.t.a F.t.R.length F.t.c]] _ _ from CT1.out).mono ?_
    rintro e W1 ⟨rfl, hb1⟩
    have HBW1 := Lib.hid (HBA.out.trans (hb1.mono HBA.out.size))
    have CC := Lib.hid (l9Table_any F W1 (HFA.out.on hb1) HG.out)
    have y0 := (HBX.out.on hb1).c0
    have y1 := (HBX.out.on hb1).c1
    have hszw := HBW1.out.size
    clear hb1 x0 x1
    go_wp2_with fail
    refine (show Calls _ _ _ _ _ from CC.out).mono ?_
    rintro e W2 ⟨t, rfl, htl, hto, hti, hb2⟩
    have HR : Hid (PInts (costs F) true w (.returned (.tuple #[.slice t.a t.l.length t.c, .bool true])) W2) := Lib.hid ⟨t, rfl, htl, hto, hti.wide hszw (Nat.le_refl _), HBW1.out.trans (hb2.mono hszw)⟩
    clear htl hto hti hb2 y0 y1
    go_wp2
    go_ret2
    exact HR.out

theorem costTable_pair (F : Fld) (_ : F.Small) : ∃ (l : List Int) (b : Bool) (_ : l.length ≤ 1048576),
    (∀ (G : Fld) (W : World), G.At W → G.Like F → Calls Try.prog 17 #[G.val] W (PInts l b W)) ∧
    (∀ (G : Fld) (W : World), G.At W → G.Like F → Calls Try.prog 18 #[G.val] W (PInts l b W)) := by
  obtain ⟨l, b, h, hl⟩ := costsAre_some F
  exact ⟨l, b, hl, fun G W hG hk => specCostTable_any G W hG l b (costsAre_like h hk), fun G W hG hk => implCostTable_any G W hG l b (costsAre_like h hk)⟩
end Go.Proofs.Ytfplcgakpildmaa
