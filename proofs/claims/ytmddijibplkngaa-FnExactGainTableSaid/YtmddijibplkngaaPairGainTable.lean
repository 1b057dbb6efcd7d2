/- Both sides of GainTable answer alike. Condition: the Field reads as such. -/
import Derived.Test.YtmddijibplkngaaSetAt
import Derived.Test.YtmddijibplkngaaWorthAsk
import Derived.Test.YtmddijibplkngaaTable
import Derived.Deep.AppendLies
namespace Go.Proofs.Ytmddijibplkngaa
open Go.RowKit Go.Shelf

/-- The first gains of the table. -/
def gtab (F : Fld) (u : Int) (n c : Nat) : List Int := (List.range c).map fun k => gainT F u (bitsT n k)
theorem gtab_len (F : Fld) (u : Int) (n c : Nat) : (gtab F u n c).length = c := by simp [gtab]
theorem gtab_step (F : Fld) (u : Int) (n c : Nat) : gtab F u n (c + 1) = gtab F u n c ++ [gainT F u (bitsT n c)] := by unfold gtab; rw [List.range_succ, List.map_append]; rfl
theorem bitsT_lt {n c m : Nat} (h : m ∈ bitsT n c) : m < n := List.mem_range.1 (List.mem_filter.1 h).1
theorem bitsT_few (n c : Nat) : (bitsT n c).length ≤ n := bitsTo_len c n

set_option maxRecDepth 100000 in
set_option maxHeartbeats 2000000 in
theorem implGainTable_any (F : Fld) (u : Int) (w : World) (hF : F.At w) (b : Bool) (hb0 : b = worthB F u) (l : List Int) (hl0 : l = if b then gtab F u F.o.l.length (2 ^ F.o.l.length) else []) :
    Calls Try.prog 21 #[.agg #[.slice F.o.a F.o.l.length F.o.c, .slice F.t.a F.t.R.length F.t.c], .int .i64 u] w (PInts l b w) := by
  obtain ⟨i0, hi, hz0, hz1, hz2⟩ := info_parts infoInt
  obtain ⟨wB, hB⟩ : ∃ wB, ((w.alloc (Obj.cells #[.slice F.o.a F.o.l.length F.o.c, .slice F.t.a F.t.R.length F.t.c] 29)).alloc (.cells #[] 3)).alloc (Obj.cells #[.slice F.o.a F.o.l.length F.o.c, .slice F.t.a F.t.R.length F.t.c, .int .i64 u] 55) = wB := ⟨_, rfl⟩
  have hbB : Below w.heap.size w wB := by rw [← hB]; exact (((below_alloc w _).alloc (by rw [size_alloc]; omega) _).alloc (by rw [size_alloc, size_alloc]; omega) _)
  have hszB : wB.heap.size = w.heap.size + 1 + 1 + 1 := by rw [← hB, size_alloc, size_alloc, size_alloc]
  have hown0 : wB.ownsRow (w.heap.size + 1) 3 1 (.slice (some ⟨w.heap.size + 1, 0, none⟩) 0 0) 0 (iv []) := by
    rw [← hB]
    have := (empty_own (w.alloc (Obj.cells #[.slice F.o.a F.o.l.length F.o.c, .slice F.t.a F.t.R.length F.t.c] 29))).alloc (Obj.cells #[.slice F.o.a F.o.l.length F.o.c, .slice F.t.a F.t.R.length F.t.c, .int .i64 u] 55)
    rw [size_alloc] at this; exact this
  have bv : BoxV wB (w.heap.size + 1 + 1) F u 55 := by
    rw [← hB]
    have := BoxV.made ((w.alloc (Obj.cells #[.slice F.o.a F.o.l.length F.o.c, .slice F.t.a F.t.R.length F.t.c] 29)).alloc (.cells #[] 3)) F u 55
    rw [size_alloc, size_alloc] at this; exact this
  have bx : Box2 wB w.heap.size (.slice F.o.a F.o.l.length F.o.c) (.slice F.t.a F.t.R.length F.t.c) 29 := by
    rw [← hB]; exact ((Box2.made w _ _ _).later _).later _
  have x0 := (Box2.made w (.slice F.o.a F.o.l.length F.o.c) (.slice F.t.a F.t.R.length F.t.c) 29).c0
  have x1 := (Box2.made w (.slice F.o.a F.o.l.length F.o.c) (.slice F.t.a F.t.R.length F.t.c) 29).c1
  have v0 := bv.c0
  have v1 := bv.c1
  have v2 := bv.c2
  rw [← hB] at v0 v1 v2
  have CV := Lib.hid (by have := validV_any F u wB (hF.on hbB); rw [← hb0] at this; exact (this : Calls Try.prog 50 #[.agg #[.slice F.o.a F.o.l.length F.o.c, .slice F.t.a F.t.R.length F.t.c, .int .i64 u]] wB fun e w' => e = .returned (.bool b) ∧ Below wB.heap.size wB w'))
  have CG := Lib.hid (fun (hg : worthB F u = true) (c : Nat) (U : World) (hU : Below w.heap.size w U) (t : Row) (htl : t.l = up (bitsT F.o.l.length c)) (hta : t.At U) => (show Calls Try.prog 42 #[.agg #[.slice F.o.a F.o.l.length F.o.c, .slice F.t.a F.t.R.length F.t.c, .int .i64 u], .slice t.a t.l.length t.c] U fun e w' => e = .returned (.int .i64 (gainT F u (bitsT F.o.l.length c))) ∧ Below U.heap.size U w' from gain_any F u t (bitsT F.o.l.length c) U (hF.on hU) hta ⟨hg, htl, fun m hm => bitsT_lt hm, by have := bitsT_few F.o.l.length c; have := (good_sizes (worthB_iff.1 hg).1).2.1; omega⟩))
  have CS := Lib.hid (fun (hg : worthB F u = true) (c : Nat) (hc : c < 2 ^ F.o.l.length) (U : World) => (by
    have h7 := (good_sizes (worthB_iff.1 hg).1).2.1
    have := setAt_any c U (by have := (pow7 h7).2; omega)
    rw [wid_bits hc h7] at this
    exact this : Calls Try.prog 51 #[.int .i64 (c : Int)] U fun e w' => ∃ t : Row, e = .returned (.slice t.a t.l.length t.c) ∧ t.l = up (bitsT F.o.l.length c) ∧ t.Own 3 w' ∧ t.In U.heap.size w'.heap.size w' ∧ Below U.heap.size U w'))
  have HOW := Lib.hid hown0
  have HBB := Lib.hid hbB
  have HSZ := Lib.hid hszB
  have HL0 := Lib.hid hl0
  have HBW := Lib.hid hb0
  have HBX := Lib.hid bx
  have HBV := Lib.hid bv
  have HB := Lib.hid hB
  clear hF hb0 hl0 hB hbB hszB hown0 bx bv
  go_enter Try.func21, Try.ntmps21
  go_wp2_with fail
  rw [HB.out]
  clear x0 x1 v0 v1 v2
  refine (show Calls _ _ _ _ _ from CV.out).mono ?_
  rintro e W1 ⟨rfl, hb1⟩
  cases b with
  | false =>
    have HE : Hid (PInts l false w (.returned (.tuple #[.slice (some ⟨w.heap.size + 1, 0, none⟩) 0 0, .bool false])) W1) := Lib.hid (by
      have e : l = [] := HL0.out
      rw [e]
      exact ints_end (B := w.heap.size + 1) rfl (owns_below HOW.out hb1) (by omega) (HBB.out.trans (hb1.mono HBB.out.size)))
    clear hb1
    go_wp2
    go_ret2
    exact HE.out
  | true =>
    have hg : worthB F u = true := HBW.out.symm
    have h7 := (good_sizes (worthB_iff.1 hg).1).2.1
    obtain ⟨hp1, hp2⟩ := pow7 h7
    obtain ⟨q, hq⟩ : ∃ q, q = 2 ^ F.o.l.length := ⟨_, rfl⟩
    have hpi : (2 : Int) ^ F.o.l.length = (q : Int) := by rw [hq]; push_cast; rfl
    rw [← hq] at hp1 hp2
    have hqi : (q : Int) ≤ 128 := by omega
    have hoi : (F.o.l.length : Int) ≤ 7 := by omega
    have HLL : Hid (l = gtab F u F.o.l.length q) := Lib.hid (by rw [hq]; exact HL0.out)
    have HGD := Lib.hid hg
    have HQQ := Lib.hid hq
    have y0 := (HBX.out.on hb1).c0
    have HB1 := Lib.hid hb1
    have HBW1 := Lib.hid (HBB.out.trans (hb1.mono HBB.out.size))
    have hszw := HSZ.out
    have hszw1 := hb1.size
    clear hg h7 hq hb1
    go_wp2
    go_loopw [7, 8, 21] (fun out _ cv wr => ∃ (c g cap : Nat), c ≤ q ∧ cv = .int .i64 c ∧ out = .slice (some ⟨g, 0, none⟩) c cap ∧ Hid (wr.ownsRow (w.heap.size + 1) 3 1 (.slice (some ⟨g, 0, none⟩) c cap) c (iv (gtab F u F.o.l.length c))) ∧ Hid ((wr.cell? ⟨w.heap.size + 1 + 1, 0, none⟩ = some (.slice F.o.a F.o.l.length F.o.c) ∧ wr.cell? ⟨w.heap.size + 1 + 1, 1, none⟩ = some (.slice F.t.a F.t.R.length F.t.c) ∧ wr.cell? ⟨w.heap.size + 1 + 1, 2, none⟩ = some (.int .i64 u))) ∧ Hid (g ≠ w.heap.size + 1 + 1) ∧ Below w.heap.size w wr) (fun _ _ cv _ => q - (intOf cv).toNat)
    case atStart => exact ⟨0, w.heap.size + 1, 0, Nat.zero_le _, rfl, rfl, Lib.hid (owns_below HOW.out HB1.out), Lib.hid ⟨(HBV.out.on HB1.out).c0, (HBV.out.on HB1.out).c1, (HBV.out.on HB1.out).c2⟩, Lib.hid (by omega), HBW1.out⟩
    case round =>
      obtain ⟨c, g, cap, hc, rfl, rfl, HO, HCE, HNE, hnx⟩ := hrel
      have HNX := Lib.hid hnx
      have hszr := hnx.size
      have hbl : w.heap.size + 1 + 1 < wr.heap.size := World.block_lt_of_cell? wr _ HCE.out.1
      have HSK : Hid (∀ U V, ((U.cell? ⟨w.heap.size + 1 + 1, 0, none⟩ = some (.slice F.o.a F.o.l.length F.o.c) ∧ U.cell? ⟨w.heap.size + 1 + 1, 1, none⟩ = some (.slice F.t.a F.t.R.length F.t.c) ∧ U.cell? ⟨w.heap.size + 1 + 1, 2, none⟩ = some (.int .i64 u)) ∧ Below w.heap.size w U) → Below U.heap.size U V → ((V.cell? ⟨w.heap.size + 1 + 1, 0, none⟩ = some (.slice F.o.a F.o.l.length F.o.c) ∧ V.cell? ⟨w.heap.size + 1 + 1, 1, none⟩ = some (.slice F.t.a F.t.R.length F.t.c) ∧ V.cell? ⟨w.heap.size + 1 + 1, 2, none⟩ = some (.int .i64 u)) ∧ Below w.heap.size w V)) := Lib.hid fun U V hu hb => ⟨⟨(hb.cell (World.block_lt_of_cell? U _ hu.1.1)).trans hu.1.1, (hb.cell (World.block_lt_of_cell? U _ hu.1.2.1)).trans hu.1.2.1, (hb.cell (World.block_lt_of_cell? U _ hu.1.2.2)).trans hu.1.2.2⟩, hu.2.trans (hb.mono hu.2.size)⟩
      have HSG : Hid (∀ U V, ((U.cell? ⟨w.heap.size + 1 + 1, 0, none⟩ = some (.slice F.o.a F.o.l.length F.o.c) ∧ U.cell? ⟨w.heap.size + 1 + 1, 1, none⟩ = some (.slice F.t.a F.t.R.length F.t.c) ∧ U.cell? ⟨w.heap.size + 1 + 1, 2, none⟩ = some (.int .i64 u)) ∧ Below w.heap.size w U) → U.grownBy V (some g) → ((V.cell? ⟨w.heap.size + 1 + 1, 0, none⟩ = some (.slice F.o.a F.o.l.length F.o.c) ∧ V.cell? ⟨w.heap.size + 1 + 1, 1, none⟩ = some (.slice F.t.a F.t.R.length F.t.c) ∧ V.cell? ⟨w.heap.size + 1 + 1, 2, none⟩ = some (.int .i64 u)) ∧ Below w.heap.size w V)) := Lib.hid fun U V hu hgr => by
        have hcell : ∀ k x, U.cell? ⟨w.heap.size + 1 + 1, k, none⟩ = some x → V.cell? ⟨w.heap.size + 1 + 1, k, none⟩ = some x := fun k x hx => (World.cell?_of_block (a := ⟨w.heap.size + 1 + 1, k, none⟩) (hgr.block _ (World.block_lt_of_cell? U _ hx) (fun e => HNE.out (by have e2 := Option.some.inj e; exact e2.symm)))).trans hx
        have hgl := owns_lt HO.out
        exact ⟨⟨hcell 0 _ hu.1.1, hcell 1 _ hu.1.2.1, hcell 2 _ hu.1.2.2⟩, hu.2.grown hgr hu.2.size (fun j hj => by cases hj; have := hgl.2.2.2; omega)⟩
      by_cases hlt : c < q
      · have hlti : (c : Int) < (q : Int) := by omega
        obtain ⟨x, hx⟩ : ∃ x, x = gainT F u (bitsT F.o.l.length c) := ⟨_, rfl⟩
        have CG1 := Lib.hid (fun U hU t htl hta => by have := CG.out HGD.out c U hU t htl hta; rw [← hx] at this; exact this)
        have CS1 := Lib.hid (fun U => CS.out HGD.out c (by rw [← HQQ.out]; exact hlt) U)
        have HNEW : Hid (iv (gtab F u F.o.l.length (c + 1)) = iv (gtab F u F.o.l.length c) ++ [.int .i64 x]) := Lib.hid (by rw [gtab_step, hx]; simp [iv])
        have HS0 : Hid ((wr.cell? ⟨w.heap.size + 1 + 1, 0, none⟩ = some (.slice F.o.a F.o.l.length F.o.c) ∧ wr.cell? ⟨w.heap.size + 1 + 1, 1, none⟩ = some (.slice F.t.a F.t.R.length F.t.c) ∧ wr.cell? ⟨w.heap.size + 1 + 1, 2, none⟩ = some (.int .i64 u)) ∧ Below w.heap.size w wr) := Lib.hid ⟨HCE.out, HNX.out⟩
        have s0 := HSK.out wr wr.drew HS0.out (Below.refl _ _).drew
        have HDR : Hid (Below wr.heap.size wr wr.drew) := Lib.hid (Below.refl _ _).drew
        clear hx hnx
        go_wp2_with fail
        go_region_held3 (fun U => ((U.cell? ⟨w.heap.size + 1 + 1, 0, none⟩ = some (.slice F.o.a F.o.l.length F.o.c) ∧ U.cell? ⟨w.heap.size + 1 + 1, 1, none⟩ = some (.slice F.t.a F.t.R.length F.t.c) ∧ U.cell? ⟨w.heap.size + 1 + 1, 2, none⟩ = some (.int .i64 u)) ∧ Below w.heap.size w U)) (first | exact s0 | assumption | exact HSK.out _ _ s0 (by assumption) | exact HSK.out _ _ (by assumption) (below_alloc _ _)) (first
          | (go_at_call 51; refine (show Calls _ _ _ _ _ from CS1.out _).mono ?_; rintro e u1 ⟨t, rfl, htl, -, hti, hb1⟩; have hs1 := HSK.out _ _ s0 hb1; have HTL := Lib.hid htl; have HTA := Lib.hid hti.at; have hbr1 := HDR.out.trans (hb1.mono HDR.out.size); clear htl hti)
          | (go_at_call 42; refine (show Calls _ _ _ _ _ from CG1.out _ hs1.2 t HTL.out HTA.out).mono ?_; rintro e u2 ⟨rfl, hb2⟩; have hs2 := HSK.out _ _ hs1 hb2; have hbr2 := hbr1.trans (hb2.mono hbr1.size); have HO2 := Lib.hid (owns_below HO.out hbr2); have hsz2 := hbr2.size)
          | (refine step_append_lies _ rfl (.tmp 24) (.tmp 29) 22 rfl (w.heap.size + 1) 3 i0 (.int .i64 0) 1 8 Try.underlying22 hi hz0 hz1 hz2 rfl (by decide) _ _ _ rfl (HO2.out.alloc _) ⟨u2.heap.size, 0, none⟩ 1 1 [.int .i64 x] rfl rfl (one_cell _ _ _) (by simp [Value.oneCell']) (by omega) (by unfold maxLen; omega) (by omega) (by have := HSZ.out; first | omega | (simp; omega)) _ rfl ?_; intro g' cap' w1 hown' hgrow hat hlt1; have hs3 := HSG.out _ _ (HSK.out _ _ hs2 (below_alloc _ _)) hgrow; have R1 := Lib.hid hown'; have R3 := Lib.hid hat))
        all_goals
          have RR : Hid (g' ≠ w.heap.size + 1 + 1) := Lib.hid (by
            rcases R3.out with h | h
            · have e := Option.some.inj (show some g = some g' from h)
              rw [← e]; exact HNE.out
            · rw [h]; simp only [World.size_alloc]; omega)
          have R2 : Hid (w1.ownsRow (w.heap.size + 1) 3 1 (.slice (some ⟨g', 0, none⟩) (c + 1) cap') (c + 1) (iv (gtab F u F.o.l.length (c + 1)))) := Lib.hid (by rw [HNEW.out]; exact R1.out)
          have HS3 := Lib.hid hs3
          clear hs1 hs2 hs3 hown' hgrow hat s0
          go_wp2
          go_roundw
          case rel => exact ⟨c + 1, g', cap', by omega, by go_num, rfl, R2, Lib.hid HS3.out.1, RR, HS3.out.2⟩
          case measure => simp [intOf]; omega
      · obtain rfl : c = q := by omega
        have HEND : Hid (PInts l true w (.returned (.tuple #[.slice (some ⟨g, 0, none⟩) c cap, .bool true])) wr) := Lib.hid (by
          rw [HLL.out]
          exact ints_end (B := w.heap.size + 1) (gtab_len _ _ _ _).symm HO.out (by omega) hnx)
        clear hnx
        go_wp2
        go_ret2
        exact HEND.out

set_option maxRecDepth 100000 in
set_option maxHeartbeats 2000000 in
theorem specGainTable_any (F : Fld) (u : Int) (w : World) (hF : F.At w) (b : Bool) (hb0 : b = worthB F u) (l : List Int) (hl0 : l = if b then gtab F u F.o.l.length (2 ^ F.o.l.length) else []) :
    Calls Try.prog 20 #[.agg #[.slice F.o.a F.o.l.length F.o.c, .slice F.t.a F.t.R.length F.t.c], .int .i64 u] w (PInts l b w) := by
  obtain ⟨i0, hi, hz0, hz1, hz2⟩ := info_parts infoInt
  obtain ⟨wB, hB⟩ : ∃ wB, (w.alloc (Obj.cells #[.slice F.o.a F.o.l.length F.o.c, .slice F.t.a F.t.R.length F.t.c] 29)).alloc (.cells #[] 3) = wB := ⟨_, rfl⟩
  have hbB : Below w.heap.size w wB := by rw [← hB]; exact (below_alloc w _).alloc (by rw [size_alloc]; omega) _
  have hszB : wB.heap.size = w.heap.size + 1 + 1 := by rw [← hB, size_alloc, size_alloc]
  have hown0 : wB.ownsRow (w.heap.size + 1) 3 1 (.slice (some ⟨w.heap.size + 1, 0, none⟩) 0 0) 0 (iv []) := by
    rw [← hB]
    have := empty_own (w.alloc (Obj.cells #[.slice F.o.a F.o.l.length F.o.c, .slice F.t.a F.t.R.length F.t.c] 29))
    rw [size_alloc] at this; exact this
  have bx : Box2 wB w.heap.size (.slice F.o.a F.o.l.length F.o.c) (.slice F.t.a F.t.R.length F.t.c) 29 := by
    rw [← hB]; exact (Box2.made w _ _ _).later _
  have x0 := bx.c0
  have x1 := bx.c1
  rw [← hB] at x0 x1
  have CV := Lib.hid (by have := l8Good_any F u wB (hF.on hbB); rw [← hb0] at this; exact (this : Calls Try.prog 37 #[.agg #[.slice F.o.a F.o.l.length F.o.c, .slice F.t.a F.t.R.length F.t.c], .int .i64 u] wB fun e w' => e = .returned (.bool b) ∧ Below wB.heap.size wB w'))
  have CG := Lib.hid (fun (hg : worthB F u = true) (c : Nat) (U : World) (hU : Below w.heap.size w U) (t : Row) (htl : t.l = up (bitsT F.o.l.length c)) (hta : t.At U) => (show Calls Try.prog 39 #[.agg #[.slice F.o.a F.o.l.length F.o.c, .slice F.t.a F.t.R.length F.t.c], .int .i64 u, .slice t.a t.l.length t.c] U fun e w' => e = .returned (.int .i64 (gainT F u (bitsT F.o.l.length c))) ∧ Below U.heap.size U w' from l8Gain_any F u t (bitsT F.o.l.length c) U (hF.on hU) hta ⟨hg, htl, fun m hm => bitsT_lt hm, by have := bitsT_few F.o.l.length c; have := (good_sizes (worthB_iff.1 hg).1).2.1; omega⟩))
  have CS := Lib.hid (fun (hg : worthB F u = true) (c : Nat) (hc : c < 2 ^ F.o.l.length) (U : World) => (by
    have h7 := (good_sizes (worthB_iff.1 hg).1).2.1
    exact l2Bits_any F.o.l.length c U h7 (by have := (pow7 h7).2; omega) : Calls Try.prog 49 #[.int .i64 (F.o.l.length : Int), .int .i64 (c : Int)] U fun e w' => ∃ t : Row, e = .returned (.slice t.a t.l.length t.c) ∧ t.l = up (bitsT F.o.l.length c) ∧ t.Own 3 w' ∧ t.In U.heap.size w'.heap.size w' ∧ Below U.heap.size U w'))
  have HOW := Lib.hid hown0
  have HBB := Lib.hid hbB
  have HSZ := Lib.hid hszB
  have HL0 := Lib.hid hl0
  have HBW := Lib.hid hb0
  have HBX := Lib.hid bx
  have HB := Lib.hid hB
  clear hF hb0 hl0 hB hbB hszB hown0 bx
  go_enter Try.func20, Try.ntmps20
  go_wp2_with fail
  rw [HB.out]
  clear x0 x1
  refine (show Calls _ _ _ _ _ from CV.out).mono ?_
  rintro e W1 ⟨rfl, hb1⟩
  cases b with
  | false =>
    have HE : Hid (PInts l false w (.returned (.tuple #[.slice (some ⟨w.heap.size + 1, 0, none⟩) 0 0, .bool false])) W1) := Lib.hid (by
      have e : l = [] := HL0.out
      rw [e]
      exact ints_end (B := w.heap.size + 1) rfl (owns_below HOW.out hb1) (by omega) (HBB.out.trans (hb1.mono HBB.out.size)))
    clear hb1
    go_wp2
    go_ret2
    exact HE.out
  | true =>
    have hg : worthB F u = true := HBW.out.symm
    have h7 := (good_sizes (worthB_iff.1 hg).1).2.1
    obtain ⟨hp1, hp2⟩ := pow7 h7
    obtain ⟨q, hq⟩ : ∃ q, q = 2 ^ F.o.l.length := ⟨_, rfl⟩
    have hpi : (2 : Int) ^ F.o.l.length = (q : Int) := by rw [hq]; push_cast; rfl
    rw [← hq] at hp1 hp2
    have hqi : (q : Int) ≤ 128 := by omega
    have hoi : (F.o.l.length : Int) ≤ 7 := by omega
    have HLL : Hid (l = gtab F u F.o.l.length q) := Lib.hid (by rw [hq]; exact HL0.out)
    have HGD := Lib.hid hg
    have HQQ := Lib.hid hq
    have y0 := (HBX.out.on hb1).c0
    have HB1 := Lib.hid hb1
    have HBW1 := Lib.hid (HBB.out.trans (hb1.mono HBB.out.size))
    have hszw := HSZ.out
    have hszw1 := hb1.size
    clear hg h7 hq hb1
    go_wp2
    go_loopw [6, 7] (fun out cv wr => ∃ (c g cap : Nat), c ≤ q ∧ cv = .int .i64 c ∧ out = .slice (some ⟨g, 0, none⟩) c cap ∧ Hid (wr.ownsRow (w.heap.size + 1) 3 1 (.slice (some ⟨g, 0, none⟩) c cap) c (iv (gtab F u F.o.l.length c))) ∧ Hid ((wr.cell? ⟨w.heap.size, 0, none⟩ = some (.slice F.o.a F.o.l.length F.o.c) ∧ wr.cell? ⟨w.heap.size, 1, none⟩ = some (.slice F.t.a F.t.R.length F.t.c))) ∧ Hid (g ≠ w.heap.size) ∧ Below w.heap.size w wr) (fun _ cv _ => q - (intOf cv).toNat)
    case atStart => exact ⟨0, w.heap.size + 1, 0, Nat.zero_le _, rfl, rfl, Lib.hid (owns_below HOW.out HB1.out), Lib.hid ⟨(HBX.out.on HB1.out).c0, (HBX.out.on HB1.out).c1⟩, Lib.hid (by omega), HBW1.out⟩
    case round =>
      obtain ⟨c, g, cap, hc, rfl, rfl, HO, HCE, HNE, hnx⟩ := hrel
      have HNX := Lib.hid hnx
      have hszr := hnx.size
      have hbl : w.heap.size < wr.heap.size := World.block_lt_of_cell? wr _ HCE.out.1
      have HSK : Hid (∀ U V, ((U.cell? ⟨w.heap.size, 0, none⟩ = some (.slice F.o.a F.o.l.length F.o.c) ∧ U.cell? ⟨w.heap.size, 1, none⟩ = some (.slice F.t.a F.t.R.length F.t.c)) ∧ Below w.heap.size w U) → Below U.heap.size U V → ((V.cell? ⟨w.heap.size, 0, none⟩ = some (.slice F.o.a F.o.l.length F.o.c) ∧ V.cell? ⟨w.heap.size, 1, none⟩ = some (.slice F.t.a F.t.R.length F.t.c)) ∧ Below w.heap.size w V)) := Lib.hid fun U V hu hb => ⟨⟨(hb.cell (World.block_lt_of_cell? U _ hu.1.1)).trans hu.1.1, (hb.cell (World.block_lt_of_cell? U _ hu.1.2)).trans hu.1.2⟩, hu.2.trans (hb.mono hu.2.size)⟩
      have HSG : Hid (∀ U V, ((U.cell? ⟨w.heap.size, 0, none⟩ = some (.slice F.o.a F.o.l.length F.o.c) ∧ U.cell? ⟨w.heap.size, 1, none⟩ = some (.slice F.t.a F.t.R.length F.t.c)) ∧ Below w.heap.size w U) → U.grownBy V (some g) → ((V.cell? ⟨w.heap.size, 0, none⟩ = some (.slice F.o.a F.o.l.length F.o.c) ∧ V.cell? ⟨w.heap.size, 1, none⟩ = some (.slice F.t.a F.t.R.length F.t.c)) ∧ Below w.heap.size w V)) := Lib.hid fun U V hu hgr => by
        have hcell : ∀ k x, U.cell? ⟨w.heap.size, k, none⟩ = some x → V.cell? ⟨w.heap.size, k, none⟩ = some x := fun k x hx => (World.cell?_of_block (a := ⟨w.heap.size, k, none⟩) (hgr.block _ (World.block_lt_of_cell? U _ hx) (fun e => HNE.out (by have e2 := Option.some.inj e; exact e2.symm)))).trans hx
        have hgl := owns_lt HO.out
        exact ⟨⟨hcell 0 _ hu.1.1, hcell 1 _ hu.1.2⟩, hu.2.grown hgr hu.2.size (fun j hj => by cases hj; have := hgl.2.2.2; omega)⟩
      have z0 := HCE.out.1
      by_cases hlt : c < q
      · have hlti : (c : Int) < (q : Int) := by omega
        obtain ⟨x, hx⟩ : ∃ x, x = gainT F u (bitsT F.o.l.length c) := ⟨_, rfl⟩
        have CG1 := Lib.hid (fun U hU t htl hta => by have := CG.out HGD.out c U hU t htl hta; rw [← hx] at this; exact this)
        have CS1 := Lib.hid (fun U => CS.out HGD.out c (by rw [← HQQ.out]; exact hlt) U)
        have HNEW : Hid (iv (gtab F u F.o.l.length (c + 1)) = iv (gtab F u F.o.l.length c) ++ [.int .i64 x]) := Lib.hid (by rw [gtab_step, hx]; simp [iv])
        have HS0 : Hid ((wr.cell? ⟨w.heap.size, 0, none⟩ = some (.slice F.o.a F.o.l.length F.o.c) ∧ wr.cell? ⟨w.heap.size, 1, none⟩ = some (.slice F.t.a F.t.R.length F.t.c)) ∧ Below w.heap.size w wr) := Lib.hid ⟨HCE.out, HNX.out⟩
        have s0 := HSK.out wr wr.drew HS0.out (Below.refl _ _).drew
        have HDR : Hid (Below wr.heap.size wr wr.drew) := Lib.hid (Below.refl _ _).drew
        clear hx hnx
        go_wp2_with fail
        go_region_held3 (fun U => ((U.cell? ⟨w.heap.size, 0, none⟩ = some (.slice F.o.a F.o.l.length F.o.c) ∧ U.cell? ⟨w.heap.size, 1, none⟩ = some (.slice F.t.a F.t.R.length F.t.c)) ∧ Below w.heap.size w U)) (first | exact s0 | assumption | exact HSK.out _ _ s0 (by assumption) | exact HSK.out _ _ (by assumption) (below_alloc _ _)) (first
          | (go_at_call 49; refine (show Calls _ _ _ _ _ from CS1.out _).mono ?_; rintro e u1 ⟨t, rfl, htl, -, hti, hb1⟩; have hs1 := HSK.out _ _ s0 hb1; have HTL := Lib.hid htl; have HTA := Lib.hid hti.at; have hbr1 := HDR.out.trans (hb1.mono HDR.out.size); clear htl hti)
          | (go_at_call 39; refine (show Calls _ _ _ _ _ from CG1.out _ hs1.2 t HTL.out HTA.out).mono ?_; rintro e u2 ⟨rfl, hb2⟩; have hs2 := HSK.out _ _ hs1 hb2; have hbr2 := hbr1.trans (hb2.mono hbr1.size); have HO2 := Lib.hid (owns_below HO.out hbr2); have hsz2 := hbr2.size)
          | (refine step_append_lies _ rfl (.tmp 22) (.tmp 31) 22 rfl (w.heap.size + 1) 3 i0 (.int .i64 0) 1 8 Try.underlying22 hi hz0 hz1 hz2 rfl (by decide) _ _ _ rfl (HO2.out.alloc _) ⟨u2.heap.size, 0, none⟩ 1 1 [.int .i64 x] rfl rfl (one_cell _ _ _) (by simp [Value.oneCell']) (by omega) (by unfold maxLen; omega) (by omega) (by have := HSZ.out; first | omega | (simp; omega)) _ rfl ?_; intro g' cap' w1 hown' hgrow hat hlt1; have hs3 := HSG.out _ _ (HSK.out _ _ hs2 (below_alloc _ _)) hgrow; have R1 := Lib.hid hown'; have R3 := Lib.hid hat))
        all_goals
          have RR : Hid (g' ≠ w.heap.size) := Lib.hid (by
            rcases R3.out with h | h
            · have e := Option.some.inj (show some g = some g' from h)
              rw [← e]; exact HNE.out
            · rw [h]; simp only [World.size_alloc]; omega)
          have R2 : Hid (w1.ownsRow (w.heap.size + 1) 3 1 (.slice (some ⟨g', 0, none⟩) (c + 1) cap') (c + 1) (iv (gtab F u F.o.l.length (c + 1)))) := Lib.hid (by rw [HNEW.out]; exact R1.out)
          have HS3 := Lib.hid hs3
          clear hs1 hs2 hs3 hown' hgrow hat s0
          go_wp2
          go_roundw
          case rel => exact ⟨c + 1, g', cap', by omega, by go_num, rfl, R2, Lib.hid HS3.out.1, RR, HS3.out.2⟩
          case measure => simp [intOf]; omega
      · obtain rfl : c = q := by omega
        have HEND : Hid (PInts l true w (.returned (.tuple #[.slice (some ⟨g, 0, none⟩) c cap, .bool true])) wr) := Lib.hid (by
          rw [HLL.out]
          exact ints_end (B := w.heap.size + 1) (gtab_len _ _ _ _).symm HO.out (by omega) hnx)
        clear hnx
        go_wp2
        go_ret2
        exact HEND.out

theorem gainTable_pair (F : Fld) (u : Int) {Q : Prop} (_ : Q) (_ : F.Small) : ∃ (l : List Int) (b : Bool) (_ : l.length ≤ 1048576),
    (∀ (G : Fld) (W : World), G.At W → G.Like F → Calls Try.prog 20 #[G.val, .int .i64 u] W (PInts l b W)) ∧
    (∀ (G : Fld) (W : World), G.At W → G.Like F → Calls Try.prog 21 #[G.val, .int .i64 u] W (PInts l b W)) := by
  have hg : ∀ G : Fld, G.Like F → gtab G u = gtab F u := fun G h => funext fun n => funext fun c => by unfold gtab; exact List.map_congr_left fun k _ => gainT_like h u _
  refine ⟨if worthB F u then gtab F u F.o.l.length (2 ^ F.o.l.length) else [], worthB F u, ?_, fun G W hG hl => specGainTable_any G u W hG _ (by rw [worthB_like hl]) _ (by rw [hg G hl, hl.1]), fun G W hG hl => implGainTable_any G u W hG _ (by rw [worthB_like hl]) _ (by rw [hg G hl, hl.1])⟩
  split
  · rename_i h
    have h7 := (good_sizes (worthB_iff.1 h).1).2.1
    rw [gtab_len]
    have := (pow7 h7).2
    omega
  · simp
end Go.Proofs.Ytmddijibplkngaa
