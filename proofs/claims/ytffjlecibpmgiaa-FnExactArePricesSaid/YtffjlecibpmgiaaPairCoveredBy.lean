/- Both sides of CoveredBy, IsCover and CostOf answer alike. Condition: System and choice read as such. -/
import Derived.Test.YtffjlecibpmgiaaCovered
import Derived.Deep.RegionHeld3
namespace Go.Proofs.Ytffjlecibpmgiaa
open Go.RowKit Go.Shelf

/-- The cells of a System's variable, and that all old blocks stand. -/
theorem sys_cells {W : World} {g : Nat} {x y z : Value} {t : TypeId} (h : Box3 W g x y z t) (u : World) (hu : Below W.heap.size W u) :
    (u.cell? ⟨g, 0, none⟩ = some x ∧ u.cell? ⟨g, 1, none⟩ = some y ∧ u.cell? ⟨g, 2, none⟩ = some z) ∧ Below W.heap.size W u := ⟨⟨(h.on hu).c0, (h.on hu).c1, (h.on hu).c2⟩, hu⟩
theorem empty_row (w : World) : ∃ t : Row, Value.slice (some ⟨w.heap.size, 0, none⟩) 0 0 = .slice t.a t.l.length t.c ∧ t.l = [] ∧ t.Own 3 (w.alloc (.cells #[] 3)) ∧ t.In w.heap.size (w.alloc (.cells #[] 3)).heap.size (w.alloc (.cells #[] 3)) :=
  row_of_own (l := []) (empty_own w)
theorem twoS_like {S U : Sys} {c e : Row} (hl : U.Like S) (he : e.l = c.l) : twoS U e.l = twoS S c.l := by unfold twoS; rw [hl.good, hl.2.2, he]

set_option maxHeartbeats 1000000 in
theorem specCoveredBy_any (S : Sys) (c : Row) (w : World) (hS : S.At w) (hc : c.At w) (l : List Int) (b : Bool) (h : (twoS S c.l = false ∧ l = [] ∧ b = false) ∨ ∃ T, FineS S c T ∧ twoS S c.l = true ∧ l = elsT S.f.t.con T ∧ b = true) :
    Calls Try.prog 18 #[.agg #[.int .i64 S.n, .slice S.f.t.a S.f.t.R.length S.f.t.c, .slice S.f.o.a S.f.o.l.length S.f.o.c], .slice c.a c.l.length c.c] w (PInts l b w) := by
  obtain ⟨wA, hA, hb, bx, hSA, hszA⟩ := laid_sys S w 28 hS
  have x0 := bx.c0
  have x1 := bx.c1
  have x2 := bx.c2
  rw [hA] at x0 x1 x2
  have HSA : Hid (S.At wA) := Lib.hid hSA
  have HCA := Lib.hid (hc.on hb)
  have HBX := Lib.hid bx
  have HA := Lib.hid hA
  have hwA := hb.size
  have CG := l6Two_any S c wA hSA (hc.on hb)
  unfold PInts
  rcases h with ⟨hv, rfl, rfl⟩ | ⟨T, hf, hv, hl, rfl⟩
  · rw [hv] at CG
    have CG1 := Lib.hid CG
    clear hS hc bx hSA hA CG hv
    go_enter Try.func18, Try.ntmps18
    go_wp2_with fail
    rw [← HA.out]
    refine (show Calls _ _ _ _ _ from CG1.out).mono ?_
    rintro e W1 ⟨rfl, hb1⟩
    have hbw := hb.trans (hb1.mono hb.size)
    obtain ⟨t, ht, htl, hto, hti⟩ := empty_row W1
    have HT := Lib.hid ht
    have HTL := Lib.hid htl
    have hb2 := hbw.trans ((below_alloc W1 (.cells #[] 3)).mono hbw.size)
    have hsz := hb1.size
    clear x0 x1 x2 ht htl
    go_wp2
    go_ret2
    exact ⟨t, by rw [← HT.out]; rfl, HTL.out, hto, hti.wide (by omega) (Nat.le_refl _), hb2⟩
  · rw [hv] at CG
    have CG1 := Lib.hid CG
    have CB := Lib.hid fun u (hu : Below wA.heap.size wA u) => l6Covered_any S c T u (HSA.out.on hu) (HCA.out.on hu) (good_row8 hf.good) hf.set hf.lt hf.few
    have HL := Lib.hid hl
    clear hS hc bx hSA hA CG hv hf hl
    go_enter Try.func18, Try.ntmps18
    go_wp2_with fail
    rw [← HA.out]
    refine (show Calls _ _ _ _ _ from CG1.out).mono ?_
    rintro e W1 ⟨rfl, hb1⟩
    have hbw := hb.trans (hb1.mono hb.size)
    have hsz := hb1.size
    have bx1 := HBX.out.on hb1
    have y0 := bx1.c0
    have y1 := bx1.c1
    have y2 := bx1.c2
    have CB1 := Lib.hid (CB.out W1 hb1)
    clear x0 x1 x2 bx1 hb1
    go_wp2_with fail
    refine (show Calls _ _ _ _ _ from CB1.out).mono ?_
    rintro e W2 ⟨t, rfl, htl, hto, hti, hb2⟩
    have HTL := Lib.hid htl
    clear htl
    go_wp2
    go_ret2
    exact ⟨t, rfl, by rw [HTL.out, HL.out], hto, hti.wide (by omega) (Nat.le_refl _), hbw.trans (hb2.mono hbw.size)⟩

set_option maxHeartbeats 1000000 in
theorem implCoveredBy_any (S : Sys) (c : Row) (w : World) (hS : S.At w) (hc : c.At w) (l : List Int) (b : Bool) (h : (twoS S c.l = false ∧ l = [] ∧ b = false) ∨ ∃ T, FineS S c T ∧ twoS S c.l = true ∧ l = elsT S.f.t.con T ∧ b = true) :
    Calls Try.prog 20 #[.agg #[.int .i64 S.n, .slice S.f.t.a S.f.t.R.length S.f.t.c, .slice S.f.o.a S.f.o.l.length S.f.o.c], .slice c.a c.l.length c.c] w (PInts l b w) := by
  obtain ⟨wA, hA, hb, bx, hSA, hszA⟩ := laid_sys S w 28 hS
  have x0 := bx.c0
  have x1 := bx.c1
  have x2 := bx.c2
  rw [hA] at x0 x1 x2
  have HSA : Hid (S.At wA) := Lib.hid hSA
  have HCA := Lib.hid (hc.on hb)
  have HBX := Lib.hid bx
  have HA := Lib.hid hA
  have hwA := hb.size
  have CG := canChoose_any S c wA hSA (hc.on hb)
  unfold PInts
  rcases h with ⟨hv, rfl, rfl⟩ | ⟨T, hf, hv, hl, rfl⟩
  · rw [hv] at CG
    have CG1 := Lib.hid CG
    clear hS hc bx hSA hA CG hv
    go_enter Try.func20, Try.ntmps20
    go_wp2_with fail
    rw [← HA.out]
    refine (show Calls _ _ _ _ _ from CG1.out).mono ?_
    rintro e W1 ⟨rfl, hb1⟩
    have hbw := hb.trans (hb1.mono hb.size)
    obtain ⟨t, ht, htl, hto, hti⟩ := empty_row W1
    have HT := Lib.hid ht
    have HTL := Lib.hid htl
    have hb2 := hbw.trans ((below_alloc W1 (.cells #[] 3)).mono hbw.size)
    have hsz := hb1.size
    clear x0 x1 x2 ht htl
    go_wp2
    go_ret2
    exact ⟨t, by rw [← HT.out]; rfl, HTL.out, hto, hti.wide (by omega) (Nat.le_refl _), hb2⟩
  · rw [hv] at CG
    have CG1 := Lib.hid CG
    have CB := Lib.hid fun u (hu : Below wA.heap.size wA u) => elementsOf_any S c T u (HSA.out.on hu) (HCA.out.on hu) (good_row8 hf.good) hf.set hf.lt hf.few
    have HL := Lib.hid hl
    clear hS hc bx hSA hA CG hv hf hl
    go_enter Try.func20, Try.ntmps20
    go_wp2_with fail
    rw [← HA.out]
    refine (show Calls _ _ _ _ _ from CG1.out).mono ?_
    rintro e W1 ⟨rfl, hb1⟩
    have hbw := hb.trans (hb1.mono hb.size)
    have hsz := hb1.size
    have bx1 := HBX.out.on hb1
    have y0 := bx1.c0
    have y1 := bx1.c1
    have y2 := bx1.c2
    have CB1 := Lib.hid (CB.out W1 hb1)
    clear x0 x1 x2 bx1 hb1
    go_wp2_with fail
    refine (show Calls _ _ _ _ _ from CB1.out).mono ?_
    rintro e W2 ⟨t, rfl, htl, hto, hti, hb2⟩
    have HTL := Lib.hid htl
    clear htl
    go_wp2
    go_ret2
    exact ⟨t, rfl, by rw [HTL.out, HL.out], hto, hti.wide (by omega) (Nat.le_refl _), hbw.trans (hb2.mono hbw.size)⟩

theorem coveredBy_pair (S : Sys) (c : Row) (_ : S.Small) (_ : c.l.length ≤ 1048576) : ∃ (l : List Int) (b : Bool) (_ : l.length ≤ 1048576),
    (∀ (G : Sys) (t : Row) (W : World), G.At W → t.At W → G.Like S → t.l = c.l → Calls Try.prog 18 #[.agg #[.int .i64 G.n, .slice G.f.t.a G.f.t.R.length G.f.t.c, .slice G.f.o.a G.f.o.l.length G.f.o.c], .slice t.a t.l.length t.c] W (PInts l b W)) ∧
    (∀ (G : Sys) (t : Row) (W : World), G.At W → t.At W → G.Like S → t.l = c.l → Calls Try.prog 20 #[.agg #[.int .i64 G.n, .slice G.f.t.a G.f.t.R.length G.f.t.c, .slice G.f.o.a G.f.o.l.length G.f.o.c], .slice t.a t.l.length t.c] W (PInts l b W)) := by
  by_cases h : twoS S c.l = true
  · obtain ⟨T, hf⟩ := fineS_of h
    have hlen : (elsT S.f.t.con T).length ≤ 1048576 := by
      have h1 := putAll_few (flatS S.f.t.con T)
      have h2 := flat_bound (good_row8 hf.good) T
      have h3 := hf.few
      unfold elsT; omega
    refine ⟨elsT S.f.t.con T, true, hlen, fun G t W hG ht hl hs => specCoveredBy_any G t W hG ht _ _ ?_, fun G t W hG ht hl hs => implCoveredBy_any G t W hG ht _ _ ?_⟩
    all_goals exact .inr ⟨T, hf.like hl hs, by rw [twoS_like hl hs]; exact h, by rw [hl.2.2], rfl⟩
  · have h' : twoS S c.l = false := by simpa using h
    refine ⟨[], false, by simp, fun G t W hG ht hl hs => specCoveredBy_any G t W hG ht _ _ ?_, fun G t W hG ht hl hs => implCoveredBy_any G t W hG ht _ _ ?_⟩
    all_goals exact .inl ⟨by rw [twoS_like hl hs]; exact h', rfl, rfl⟩
end Go.Proofs.Ytffjlecibpmgiaa
