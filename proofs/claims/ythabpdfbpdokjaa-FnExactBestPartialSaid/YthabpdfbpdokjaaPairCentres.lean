/- Both sides of BestCentres and of CentreReach answer alike, and what the program's BestPartial answers. Condition: the Field reads as such. -/
import Derived.Test.YthabpdfbpdokjaaCentre
import Derived.Test.YthabpdfbpdokjaaFirstPart
namespace Go.Proofs.Ythabpdfbpdokjaa
open Go.RowKit Go.Shelf

/-- A list, a number and a bool. -/
def PList (l : List Int) (n : Int) (b : Bool) (W : World) (e : Ending) (w' : World) : Prop :=
  ∃ s : Row, e = .returned (.tuple #[.slice s.a s.l.length s.c, .int .i64 n, .bool b]) ∧ s.l = l ∧ s.Own 3 w' ∧ s.In W.heap.size w'.heap.size w' ∧ Below W.heap.size W w'
/-- A number of clients that may be left out. -/
def zB (z : Int) : Bool := decide (0 ≤ z) && decide (z ≤ 7)
/-- What BestPartial answers. -/
def Parts (F : Fld) (k z : Int) (l : List Int) (v : Int) (b : Bool) : Prop :=
  ((kB F k && zB z) = false ∧ l = [] ∧ v = 0 ∧ b = false) ∨ (∃ m q : Nat, F.good = true ∧ k = m ∧ 1 ≤ m ∧ m ≤ F.o.l.length ∧ z = q ∧ q ≤ 7 ∧ l = up (bestP F m q) ∧ v = partT F q (bestP F m q) ∧ b = true)
theorem parts_no {F : Fld} {k z v : Int} {l : List Int} {b : Bool} (h : Parts F k z l v b) (hn : kB F k = false ∨ zB z = false) : l = [] ∧ v = 0 ∧ b = false := by
  rcases h with ⟨_, h2⟩ | ⟨m, q, h1, rfl, h3, h4, rfl, h6, _⟩
  · exact h2
  · rcases hn with hn | hn
    · unfold kB at hn; rw [h1] at hn; simp at hn; omega
    · unfold zB at hn; simp at hn; omega
theorem parts_yes {F : Fld} {k z v : Int} {l : List Int} {b : Bool} (h : Parts F k z l v b) (h1 : kB F k = true) (h2 : zB z = true) : ∃ m q : Nat, F.good = true ∧ k = m ∧ 1 ≤ m ∧ m ≤ F.o.l.length ∧ z = q ∧ q ≤ 7 ∧ l = up (bestP F m q) ∧ v = partT F q (bestP F m q) ∧ b = true := by
  rcases h with ⟨h3, _⟩ | h
  · rw [h1, h2] at h3; cases h3
  · exact h
theorem parts_some (F : Fld) (k z : Int) : ∃ l v b, Parts F k z l v b ∧ l.length ≤ 1048576 := by
  by_cases h : (kB F k && zB z) = true
  · obtain ⟨h1, h2⟩ := Bool.and_eq_true_iff.1 h
    obtain ⟨hg, m, rfl, h3, h4⟩ := kB_nat h1
    unfold zB at h2
    simp only [Bool.and_eq_true, decide_eq_true_eq] at h2
    refine ⟨_, _, _, .inr ⟨m, z.toNat, hg, rfl, h3, h4, by omega, by omega, rfl, rfl, rfl⟩, ?_⟩
    have := (bestP_ok hg h3 h4 z.toNat).2.2
    rw [up_length]; omega
  · exact ⟨_, _, _, .inl ⟨by simpa using h, rfl, rfl, rfl⟩, by simp⟩
theorem parts_like {F G : Fld} {k z v : Int} {l : List Int} {b : Bool} (h : Parts F k z l v b) (hl : G.Like F) : Parts G k z l v b := by
  rcases h with ⟨h1, h2⟩ | ⟨m, q, h1, h2, h3, h4, h5, h6, h7, h8, h9⟩
  · exact .inl ⟨by rw [kB_like hl]; exact h1, h2⟩
  · exact .inr ⟨m, q, by rw [hl.good]; exact h1, h2, h3, by rw [hl.1]; exact h4, h5, h6, by rw [bestP_like hl]; exact h7, by rw [bestP_like hl, partT_like hl]; exact h8, h9⟩

set_option maxRecDepth 32000 in
set_option maxHeartbeats 2000000 in
theorem implPart_any (F : Fld) (k z : Int) (w : World) (hF : F.At w) (l : List Int) (v : Int) (b : Bool) (hv : Parts F k z l v b) :
    Calls Try.prog 30 #[F.val, .int .i64 k, .int .i64 z] w (PList l v b w) := by
  obtain ⟨wA, hA, hbA, bx, hFA, hszA⟩ := laid_fld F w 29 hF
  obtain ⟨wB, hB⟩ : ∃ wB, wB = wA.alloc (.cells #[.int .i64 z] 3) := ⟨_, rfl⟩
  have hbB0 : Below wA.heap.size wA wB := by rw [hB]; exact below_alloc _ _
  have hbB : Below w.heap.size w wB := hbA.trans (hbB0.mono hbA.size)
  have HZ : Hid (wB.cell? ⟨w.heap.size + 1, 0, none⟩ = some (.int .i64 z)) := Lib.hid (by
    have := (Boxed.new wA 3 (.int .i64 z)).cell
    rw [← hB, hszA] at this; exact this)
  have HFA := Lib.hid (hFA.on hbB0)
  have HBX := Lib.hid (bx.on hbB0)
  have HB : Hid (wB = (w.alloc (Obj.cells #[F.o.val, F.t.val] 29)).alloc (.cells #[.int .i64 z] 3)) := Lib.hid (by rw [hB, hA])
  have CT := Lib.hid (hasSites_any F k wB HFA.out)
  have x0 := HBX.out.c0
  have x1 := HBX.out.c1
  rw [HB.out] at x0 x1
  have hzlt : w.heap.size + 1 < wB.heap.size := World.block_lt_of_cell? wB _ HZ.out
  have HV := Lib.hid hv
  clear hF hA hFA bx hB hv
  show Calls _ _ #[.agg #[F.o.val, F.t.val], _, _] w _
  go_enter Try.func30, Try.ntmps30
  go_wp2_with fail
  rw [show (w.alloc (Obj.cells #[F.o.val, F.t.val] 29)).alloc (.cells #[.int .i64 z] 3) = wB from HB.out.symm]
  refine (show Calls _ _ _ _ _ from CT.out).mono ?_
  rintro e W1 ⟨rfl, hb1⟩
  have hbw := hbB.trans (hb1.mono hbB.size)
  have HEND : Hid (PList [] 0 false w (.returned (.tuple #[.slice (some ⟨W1.heap.size, 0, none⟩) 0 0, .int .i64 0, .bool false])) (W1.alloc (.cells #[] 3))) := Lib.hid (by
    obtain ⟨t, ht, htl, hto, hti⟩ := row_of_own (empty_own W1)
    exact ⟨t, congrArg (fun v => Ending.returned (.tuple #[v, .int .i64 0, .bool false])) ht, htl, hto, hti.wide hbw.size (Nat.le_refl _), hbw.trans ((below_alloc W1 _).mono hbw.size)⟩)
  have hsz1 := hbw.size
  have z0 : W1.cell? ⟨w.heap.size + 1, 0, none⟩ = some (.int .i64 z) := (hb1.cell (p := ⟨w.heap.size + 1, 0, none⟩) hzlt).trans HZ.out
  clear x0 x1
  obtain ⟨t, ht⟩ : ∃ t, t = kB F k := ⟨_, rfl⟩
  rw [← ht]
  have HT := Lib.hid ht
  clear ht
  cases t with
  | false =>
    obtain ⟨rfl, rfl, rfl⟩ := parts_no HV.out (.inl HT.out.symm)
    go_wp2
    go_ret3
    exact HEND.out
  | true =>
    by_cases hz0 : z < 0
    · obtain ⟨rfl, rfl, rfl⟩ := parts_no HV.out (.inr (by unfold zB; simp; omega))
      go_wp2
      go_ret3
      exact HEND.out
    by_cases hz7 : (7 : Int) < z
    · obtain ⟨rfl, rfl, rfl⟩ := parts_no HV.out (.inr (by unfold zB; simp; omega))
      go_wp2
      go_ret3
      exact HEND.out
    obtain ⟨m, q, hg, rfl, h1, hm, rfl, hq7, hl, hvv, rfl⟩ := parts_yes HV.out HT.out.symm (by unfold zB; simp; omega)
    have HL := Lib.hid hl
    obtain ⟨n, hn⟩ : ∃ n, n = F.o.l.length := ⟨_, rfl⟩
    have HN := Lib.hid hn
    have hok := bestP_ok hg h1 hm q
    have hsz := good_sizes hg
    have HBP : Hid (bestP F m q = firstB (partT F q) (preS n m)) := Lib.hid (by rw [hn]; rfl)
    have CS := Lib.hid (fun u => setsUpTo_any n m u)
    have CL := Lib.hid (fun (u : World) (hu : Below wB.heap.size wB u) (Bk Bs : Nat) (hk : u.cell? ⟨Bk, 0, none⟩ = some (.int .i64 m)) (hs : u.cell? ⟨Bs, 0, none⟩ = some (.int .i64 n)) => callsIn_wide.1 (firstPart_in 5 (by omega) F 94 #[.pointer (some ⟨Bk, 0, none⟩), .pointer (some ⟨Bs, 0, none⟩)] (preS n m) q w.heap.size (w.heap.size + 1) 0 u.heap.size u u (Nat.le_refl _) (enters_of Try.func94 (by kernel_rfl) rfl) (upTo_seq 4 (by omega) Bk Bs n m u (by omega) (by omega) hk hs 0 u.heap.size (Nat.zero_le _) (World.block_lt_of_cell? u _ hs)) (Below.refl _ _) (HFA.out.on hu) (HBX.out.on hu) ((hu.cell (p := ⟨w.heap.size + 1, 0, none⟩) hzlt).trans HZ.out) hq7 hg (fun T hT => by rw [hn] at hT; exact preS_ok hg hm hT)))
    have CV := Lib.hid (fun (u : World) (hu : Below wB.heap.size wB u) (y : Row) (hy : y.At u) (hyl : y.l = up (bestP F m q)) => by have := bestPart1_any F y (bestP F m q) q w.heap.size (w.heap.size + 1) u (HFA.out.on hu) (HBX.out.on hu) ((hu.cell (p := ⟨w.heap.size + 1, 0, none⟩) hzlt).trans HZ.out) hy hg hq7 hyl hok.1 hok.2; rw [← hvv] at this; exact this : ∀ u, Below wB.heap.size wB u → ∀ y : Row, y.At u → y.l = up (bestP F m q) → Calls Try.prog 64 #[.slice y.a y.l.length y.c, .pointer (some ⟨w.heap.size, 0, none⟩), .pointer (some ⟨w.heap.size + 1, 0, none⟩)] u fun e w' => e = .returned (.int .i64 v) ∧ Below u.heap.size u w')
    have y0 : W1.cell? ⟨w.heap.size, 0, none⟩ = some (.slice F.o.a n F.o.c) := by rw [hn]; exact (HBX.out.on hb1).c0
    have HB1 := Lib.hid hb1
    have HBW := Lib.hid hbw
    have hz0' : ¬ ((q : Int) < 0) := by omega
    have hz7' : ¬ ((7 : Int) < (q : Int)) := by omega
    clear hl hvv hn hok hg h1 hm hq7 hb1 hbw hz0 hz7 hsz
    go_wp2_with fail
    refine (CS.out _).mono ?_
    rintro e W2 ⟨Bk, Bs, rfl, HK, HS, hb2⟩
    have HB2 := Lib.hid (HB1.out.trans (hb2.mono HB1.out.size))
    have CL2 := Lib.hid (CL.out W2 HB2.out Bk Bs HK.out HS.out)
    have HC2 := Lib.hid hb2
    clear hb2 y0 z0
    go_wp2_with fail
    refine (show Calls _ _ _ _ _ from CL2.out).mono ?_
    rintro e W3 ⟨t, rfl, ht, hb3⟩
    have HT3 := Lib.hid ht
    have HTL : Hid (t.l = up (bestP F m q)) := Lib.hid (by rw [HBP.out]; exact ht.l)
    have HB3 := Lib.hid (HB2.out.trans (hb3.mono HB2.out.size))
    have CV3 := Lib.hid (CV.out W3 HB3.out t ht.ins.at HTL.out)
    have HC3 := Lib.hid hb3
    clear ht hb3
    go_wp2_with fail
    refine (show Calls _ _ _ _ _ from CV3.out).mono ?_
    rintro e W4 ⟨rfl, hb4⟩
    have HC4 := Lib.hid hb4
    have hB2 := HB2.out.size
    have hB3 := HB3.out.size
    have hwB := hbB.size
    clear hb4
    go_wp2
    go_ret3
    exact ⟨t, rfl, by rw [HL.out]; exact HTL.out, HT3.out.own.on HC4.out, (HT3.out.ins.on HC4.out).wide (by omega) HC4.out.size, (hbB.trans (HB3.out.mono hbB.size)).trans (HC4.out.mono (by omega))⟩

set_option maxHeartbeats 1000000 in
theorem implCen_any (F : Fld) (k : Int) (w : World) (hF : F.At w) (l : List Int) (v : Int) (b : Bool) (hv : Parts F k 0 l v b) :
    Calls Try.prog 26 #[F.val, .int .i64 k] w (PInts l b w) := by
  obtain ⟨wA, hA, hbA, bx, hFA, hszA⟩ := laid_fld F w 29 hF
  have HA := Lib.hid hA
  have CT := Lib.hid (implPart_any F k 0 wA hFA l v b hv)
  have x0 := bx.c0
  have x1 := bx.c1
  rw [hA] at x0 x1
  clear hF hA hFA bx hv
  show Calls _ _ #[.agg #[F.o.val, F.t.val], _] w _
  go_enter Try.func26, Try.ntmps26
  go_wp2_with fail
  rw [show w.alloc (Obj.cells #[F.o.val, F.t.val] 29) = wA from HA.out.symm]
  refine (show Calls _ _ _ _ _ from CT.out).mono ?_
  rintro e W1 ⟨t, rfl, htl, hto, hti, hb1⟩
  have HTL := Lib.hid htl
  clear x0 x1 htl
  go_wp2
  go_ret2
  exact ⟨t, rfl, HTL.out, hto, hti.wide hbA.size (Nat.le_refl _), hbA.trans (hb1.mono hbA.size)⟩

set_option maxHeartbeats 1000000 in
theorem implCenR_any (F : Fld) (k : Int) (w : World) (hF : F.At w) (l : List Int) (v : Int) (b : Bool) (hv : Parts F k 0 l v b) :
    Calls Try.prog 28 #[F.val, .int .i64 k] w (PInt v b w) := by
  obtain ⟨wA, hA, hbA, bx, hFA, hszA⟩ := laid_fld F w 29 hF
  have HA := Lib.hid hA
  have CT := Lib.hid (implPart_any F k 0 wA hFA l v b hv)
  have x0 := bx.c0
  have x1 := bx.c1
  rw [hA] at x0 x1
  clear hF hA hFA bx hv
  show Calls _ _ #[.agg #[F.o.val, F.t.val], _] w fun e w' => e = .returned (.tuple #[.int .i64 v, .bool b]) ∧ Below w.heap.size w w'
  go_enter Try.func28, Try.ntmps28
  go_wp2_with fail
  rw [show w.alloc (Obj.cells #[F.o.val, F.t.val] 29) = wA from HA.out.symm]
  refine (show Calls _ _ _ _ _ from CT.out).mono ?_
  rintro e W1 ⟨t, rfl, htl, hto, hti, hb1⟩
  clear x0 x1 htl
  go_wp2
  go_ret2
  exact ⟨rfl, hbA.trans (hb1.mono hbA.size)⟩

set_option maxHeartbeats 1000000 in
theorem specCen_any (F : Fld) (k : Int) (w : World) (hF : F.At w) (l : List Int) (v : Int) (b : Bool) (hv : Parts F k 0 l v b) :
    Calls Try.prog 25 #[F.val, .int .i64 k] w (PInts l b w) := by
  obtain ⟨wA, hA, hbA, bx, hFA, hszA⟩ := laid_fld F w 29 hF
  have HFA := Lib.hid hFA
  have HBX := Lib.hid bx
  have HA := Lib.hid hA
  have HV := Lib.hid hv
  have CT := Lib.hid (l5Ask_any F k wA hFA)
  have x0 := bx.c0
  have x1 := bx.c1
  rw [hA] at x0 x1
  clear hF hA hFA bx hv
  show Calls _ _ #[.agg #[F.o.val, F.t.val], _] w _
  go_enter Try.func25, Try.ntmps25
  go_wp2_with fail
  rw [show w.alloc (Obj.cells #[F.o.val, F.t.val] 29) = wA from HA.out.symm]
  refine (show Calls _ _ _ _ _ from CT.out).mono ?_
  rintro e W1 ⟨rfl, hb1⟩
  have hbw := hbA.trans (hb1.mono hbA.size)
  have HO1 := Lib.hid (empty_own W1)
  have HB0 := Lib.hid (below_alloc W1 (.cells #[] 3))
  clear x0 x1
  obtain ⟨t, ht⟩ : ∃ t, t = kB F k := ⟨_, rfl⟩
  rw [← ht]
  have HT := Lib.hid ht
  clear ht
  cases t with
  | false =>
    obtain ⟨rfl, rfl, rfl⟩ := parts_no HV.out (.inl HT.out.symm)
    go_wp2
    go_ret2
    exact ints_end rfl HO1.out hbw.size (hbw.trans (HB0.out.mono hbw.size))
  | true =>
    obtain ⟨m, q, hg, rfl, h1, hm, hq, hq7, hl, hvv, rfl⟩ := parts_yes HV.out HT.out.symm rfl
    obtain rfl : q = 0 := by omega
    have HL := Lib.hid hl
    have y0 := (HBX.out.on hb1).c0
    have y1 := (HBX.out.on hb1).c1
    have CB := Lib.hid (l5Best_any F m W1 (HFA.out.on hb1) hg h1 hm)
    have hok := bestP_ok hg h1 hm 0
    have HOK : Hid (0 < (bestP F m 0).length ∧ (bestP F m 0).length ≤ 7) := Lib.hid ⟨List.length_pos_iff.2 hok.1, hok.2.2⟩
    clear hl hvv hok hg h1 hm hb1 hq
    go_wp2_with fail
    refine (show Calls _ _ _ _ _ from CB.out).mono ?_
    rintro e W2 ⟨y, rfl, hyl, hyi, hb2⟩
    have hyn : y.l.length = (bestP F m 0).length := by rw [hyl, up_length]
    have CO := Lib.hid (l1OwnRow_any y W2 hyi.at (by have := HOK.out.2; omega))
    have HYL := Lib.hid hyl
    have hbw2 := hbw.trans (hb2.mono hbw.size)
    clear hyl hyi hyn y0 y1
    go_wp2_with fail
    refine (show Calls _ _ _ _ _ from CO.out).mono ?_
    rintro e W3 ⟨t, rfl, htl, hto, hti, hb3⟩
    have HTL := Lib.hid htl
    clear htl
    go_wp2
    go_ret2
    exact ⟨t, rfl, by rw [HTL.out, HYL.out, HL.out], hto, hti.wide hbw2.size (Nat.le_refl _), hbw2.trans (hb3.mono hbw2.size)⟩

set_option maxRecDepth 16000 in
set_option maxHeartbeats 1000000 in
theorem specCenR_any (F : Fld) (k : Int) (w : World) (hF : F.At w) (l : List Int) (v : Int) (b : Bool) (hv : Parts F k 0 l v b) :
    Calls Try.prog 27 #[F.val, .int .i64 k] w (PInt v b w) := by
  obtain ⟨wA, hA, hbA, bx, hFA, hszA⟩ := laid_fld F w 29 hF
  have HFA := Lib.hid hFA
  have HBX := Lib.hid bx
  have HA := Lib.hid hA
  have HV := Lib.hid hv
  have CT := Lib.hid (l5Ask_any F k wA hFA)
  have x0 := bx.c0
  have x1 := bx.c1
  rw [hA] at x0 x1
  clear hF hA hFA bx hv
  show Calls _ _ #[.agg #[F.o.val, F.t.val], _] w fun e w' => e = .returned (.tuple #[.int .i64 v, .bool b]) ∧ Below w.heap.size w w'
  go_enter Try.func27, Try.ntmps27
  go_wp2_with fail
  rw [show w.alloc (Obj.cells #[F.o.val, F.t.val] 29) = wA from HA.out.symm]
  refine (show Calls _ _ _ _ _ from CT.out).mono ?_
  rintro e W1 ⟨rfl, hb1⟩
  have HBW := Lib.hid (hbA.trans (hb1.mono hbA.size))
  clear x0 x1
  obtain ⟨t, ht⟩ : ∃ t, t = kB F k := ⟨_, rfl⟩
  rw [← ht]
  have HT := Lib.hid ht
  clear ht
  cases t with
  | false =>
    obtain ⟨rfl, rfl, rfl⟩ := parts_no HV.out (.inl HT.out.symm)
    go_wp2
    go_ret2
    exact ⟨rfl, HBW.out⟩
  | true =>
    obtain ⟨m, q, hg, rfl, h1, hm, hq, hq7, hl, hvv, rfl⟩ := parts_yes HV.out HT.out.symm rfl
    obtain rfl : q = 0 := by omega
    have hok := bestP_ok hg h1 hm 0
    have D1 := Lib.hid (fun u (hu : Below W1.heap.size W1 u) => l5Best_any F m u ((HFA.out.on hb1).on hu) hg h1 hm)
    have D2 := Lib.hid (fun u (hu : Below W1.heap.size W1 u) (y : Row) (hy : y.At u) (hyl : y.l = up (bestP F m 0)) => by have := far_part F y (bestP F m 0) u ((HFA.out.on hb1).on hu) hy ⟨hg, hyl, List.length_pos_iff.2 hok.1, hok.2.1.2⟩; rw [← hvv] at this; exact this : ∀ u, Below W1.heap.size W1 u → ∀ y : Row, y.At u → y.l = up (bestP F m 0) → Calls Try.prog 60 #[F.val, .slice y.a y.l.length y.c] u fun e w' => e = .returned (.int .i64 v) ∧ Below u.heap.size u w')
    have HS : Hid (∀ u, Below W1.heap.size W1 u → ((u.cell? ⟨w.heap.size, 0, none⟩ = some F.o.val ∧ u.cell? ⟨w.heap.size, 1, none⟩ = some F.t.val) ∧ Below W1.heap.size W1 u)) := Lib.hid fun u hu => ⟨⟨((HBX.out.on hb1).on hu).c0, ((HBX.out.on hb1).on hu).c1⟩, hu⟩
    have s0 := HS.out W1.drew (Below.refl _ _).drew
    have y0 := (HBX.out.on hb1).c0
    have y1 := (HBX.out.on hb1).c1
    have hszW := HBW.out.size
    clear hl hvv hok hg h1 hm hb1 hq
    go_wp2_with fail
    go_region_held3 (fun u => ((u.cell? ⟨w.heap.size, 0, none⟩ = some F.o.val ∧ u.cell? ⟨w.heap.size, 1, none⟩ = some F.t.val) ∧ Below W1.heap.size W1 u)) (first | exact s0 | exact keep_reg HS.out (by first | assumption | exact And.right (by assumption)) hb1) (first | (go_at_call 59; refine (show Calls _ _ _ _ _ from D1.out _ (by first | assumption | exact And.right (by assumption))).mono ?_; rintro e u1 ⟨y, rfl, hyl, hyi, hb1⟩; have HYL := Lib.hid hyl; have HYI := Lib.hid hyi; clear hyl hyi) | (go_at_call 60; refine (show Calls _ _ _ _ _ from D2.out _ (by first | assumption | exact And.right (by assumption)) y HYI.out.at HYL.out).mono ?_; rintro e u2 ⟨rfl, hb1⟩))
    refine at_exit (W := W1) (by first | assumption | exact And.right (by assumption)) ?_
    intro W8 hb8
    go_wp2
    go_ret2
    exact ⟨rfl, HBW.out.trans (hb8.mono hszW)⟩

theorem bestCentres_pair (F : Fld) (k : Int) (_ : (Lit.int .i64 k).wf = true) (_ : F.Small) : ∃ (l : List Int) (b : Bool) (_ : l.length ≤ 1048576),
    (∀ (G : Fld) (W : World), G.At W → G.Like F → Calls Try.prog 25 #[G.val, .int .i64 k] W (PInts l b W)) ∧
    (∀ (G : Fld) (W : World), G.At W → G.Like F → Calls Try.prog 26 #[G.val, .int .i64 k] W (PInts l b W)) := by
  obtain ⟨l, v, b, h, hl⟩ := parts_some F k 0
  exact ⟨l, b, hl, fun G W hG hlk => specCen_any G k W hG l v b (parts_like h hlk), fun G W hG hlk => implCen_any G k W hG l v b (parts_like h hlk)⟩
theorem centreReach_pair (F : Fld) (k : Int) (_ : (Lit.int .i64 k).wf = true) (_ : F.Small) : ∃ (v : Int) (b : Bool),
    (∀ (G : Fld) (W : World), G.At W → G.Like F → Calls Try.prog 27 #[G.val, .int .i64 k] W (PInt v b W)) ∧
    (∀ (G : Fld) (W : World), G.At W → G.Like F → Calls Try.prog 28 #[G.val, .int .i64 k] W (PInt v b W)) := by
  obtain ⟨l, v, b, h, hl⟩ := parts_some F k 0
  exact ⟨v, b, fun G W hG hlk => specCenR_any G k W hG l v b (parts_like h hlk), fun G W hG hlk => implCenR_any G k W hG l v b (parts_like h hlk)⟩
end Go.Proofs.Ythabpdfbpdokjaa
