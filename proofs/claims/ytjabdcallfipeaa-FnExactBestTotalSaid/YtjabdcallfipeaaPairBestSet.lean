/- Both sides of BestSet and of BestTotal answer alike. Condition: the Field reads as such. -/
import Derived.Test.YtjabdcallfipeaaSiteSeq
import Derived.Test.YtjabdcallfipeaaFirstTotal
namespace Go.Proofs.Ytjabdcallfipeaa
open Go.RowKit Go.Shelf

/-- The best set. -/
def bestA (F : Fld) : List Nat := firstB (totT F) (allSets F.o.l.length)
theorem bestA_like {F G : Fld} (h : G.Like F) : bestA G = bestA F := by unfold bestA; rw [totT_like h, h.1]
theorem bestA_ok {F : Fld} (hg : F.good = true) : bestA F ≠ [] ∧ ((setB F.o.l.length (up (bestA F)) = true ∧ ∀ m ∈ bestA F, m < F.o.l.length) ∧ (bestA F).length ≤ 7) :=
  all_ok (good_sizes hg).2.1 (firstB_all (good_sizes hg).2.1 (good_sizes hg).1)
def BSets (F : Fld) (l : List Int) (b : Bool) : Prop := (F.good = false ∧ l = [] ∧ b = false) ∨ (F.good = true ∧ l = up (bestA F) ∧ b = true)
def BTots (F : Fld) (v : Int) (b : Bool) : Prop := (F.good = false ∧ v = 0 ∧ b = false) ∨ (F.good = true ∧ v = totT F (bestA F) ∧ b = true)

set_option maxRecDepth 32000 in
set_option maxHeartbeats 2000000 in
theorem implBSet_any (F : Fld) (w : World) (hF : F.At w) (l : List Int) (b : Bool) (hv : BSets F l b) :
    Calls Try.prog 18 #[F.val] w (PInts l b w) := by
  obtain ⟨wA, hA, hbA, bx, hFA, hszA⟩ := laid_fld F w 29 hF
  have HFA := Lib.hid hFA
  have HBX := Lib.hid bx
  have HA := Lib.hid hA
  have CT := Lib.hid (implIsField_any F wA hFA)
  have x0 := bx.c0
  have x1 := bx.c1
  rw [hA] at x0 x1
  clear hF hA hFA bx
  show Calls _ _ #[.agg #[F.o.val, F.t.val]] w _
  rcases hv with ⟨h2, rfl, rfl⟩ | ⟨h2, rfl, rfl⟩
  · rw [h2] at CT
    clear h2
    go_enter Try.func18, Try.ntmps18
    go_wp2_with fail
    rw [show w.alloc (Obj.cells #[F.o.val, F.t.val] 29) = wA from HA.out.symm]
    refine (show Calls _ _ _ _ _ from CT.out).mono ?_
    rintro e W1 ⟨rfl, hb1⟩
    have HB := Lib.hid (hbA.trans (hb1.mono hbA.size))
    clear hb1 x0 x1
    go_wp2
    go_ret2
    obtain ⟨t, ht, htl, hto, hti⟩ := row_of_own (empty_own W1)
    exact ⟨t, congrArg (fun v => Ending.returned (.tuple #[v, .bool false])) ht, htl, hto, hti.wide HB.out.size (Nat.le_refl _), HB.out.trans ((below_alloc W1 _).mono HB.out.size)⟩
  · rw [h2] at CT
    have hsz := good_sizes h2
    obtain ⟨n, hn⟩ : ∃ n, n = F.o.l.length := ⟨_, rfl⟩
    have HN := Lib.hid hn
    have HBA : Hid (bestA F = firstB (totT F) (allSets n)) := Lib.hid (by rw [hn]; rfl)
    have CS := Lib.hid (fun u => siteSets_any n u)
    have CL := Lib.hid (fun (u : World) (hu : Below wA.heap.size wA u) (Bk Bs : Nat) (hk : u.cell? ⟨Bk, 0, none⟩ = some (.int .i64 n)) (hs : u.cell? ⟨Bs, 0, none⟩ = some (.int .i64 n)) => callsIn_wide.1 (firstTotal_in 5 (by omega) F 68 #[.pointer (some ⟨Bk, 0, none⟩), .pointer (some ⟨Bs, 0, none⟩)] (allSets n) w.heap.size 0 u.heap.size u u (Nat.le_refl _) (enters_of Try.func68 (by kernel_rfl) rfl) (sites_seq 4 (by omega) Bk Bs n u (by omega) hk hs 0 u.heap.size (Nat.zero_le _) (World.block_lt_of_cell? u _ hs)) (Below.refl _ _) (HFA.out.on hu) (HBX.out.on hu) h2 (fun T hT => by rw [← hn]; exact all_ok (by omega) hT)))
    clear h2 hn hsz
    go_enter Try.func18, Try.ntmps18
    go_wp2_with fail
    rw [show w.alloc (Obj.cells #[F.o.val, F.t.val] 29) = wA from HA.out.symm]
    refine (show Calls _ _ _ _ _ from CT.out).mono ?_
    rintro e W1 ⟨rfl, hb1⟩
    clear x0 x1
    have y0 : W1.cell? ⟨w.heap.size, 0, none⟩ = some (.slice F.o.a n F.o.c) := by rw [HN.out]; exact (HBX.out.on hb1).c0
    have HB1 := Lib.hid hb1
    clear hb1
    go_wp2_with fail
    refine (CS.out _).mono ?_
    rintro e W2 ⟨Bk, Bs, rfl, HK, HS, hb2⟩
    have HB2 := Lib.hid (HB1.out.trans (hb2.mono HB1.out.size))
    have CL2 := Lib.hid (CL.out W2 HB2.out Bk Bs HK.out HS.out)
    clear hb2 y0
    go_wp2_with fail
    refine (show Calls _ _ _ _ _ from CL2.out).mono ?_
    rintro e W3 ⟨t, rfl, ht, hb3⟩
    have HT := Lib.hid ht
    have hB := HB2.out
    clear ht
    go_wp2
    go_ret2
    exact ⟨t, rfl, by rw [HBA.out]; exact HT.out.l, HT.out.own, HT.out.ins.wide (Nat.le_trans hbA.size hB.size) (Nat.le_refl _), (hbA.trans (hB.mono hbA.size)).trans (hb3.mono (Nat.le_trans hbA.size hB.size))⟩

set_option maxRecDepth 16000 in
set_option maxHeartbeats 1000000 in
theorem specBSet_any (F : Fld) (w : World) (hF : F.At w) (l : List Int) (b : Bool) (hv : BSets F l b) :
    Calls Try.prog 17 #[F.val] w (PInts l b w) := by
  obtain ⟨wA, hA, hbA, bx, hFA, hszA⟩ := laid_fld F w 29 hF
  have HFA := Lib.hid hFA
  have HBX := Lib.hid bx
  have HA := Lib.hid hA
  have CT := Lib.hid (l2Good_any F wA hFA)
  have x0 := bx.c0
  have x1 := bx.c1
  rw [hA] at x0 x1
  clear hF hA hFA bx
  show Calls _ _ #[.agg #[F.o.val, F.t.val]] w _
  rcases hv with ⟨h2, rfl, rfl⟩ | ⟨h2, rfl, rfl⟩
  · rw [h2] at CT
    clear h2
    go_enter Try.func17, Try.ntmps17
    go_wp2_with fail
    rw [show w.alloc (Obj.cells #[F.o.val, F.t.val] 29) = wA from HA.out.symm]
    refine (show Calls _ _ _ _ _ from CT.out).mono ?_
    rintro e W1 ⟨rfl, hb1⟩
    have HB := Lib.hid (hbA.trans (hb1.mono hbA.size))
    clear hb1 x0 x1
    go_wp2
    go_ret2
    obtain ⟨t, ht, htl, hto, hti⟩ := row_of_own (empty_own W1)
    exact ⟨t, congrArg (fun v => Ending.returned (.tuple #[v, .bool false])) ht, htl, hto, hti.wide HB.out.size (Nat.le_refl _), HB.out.trans ((below_alloc W1 _).mono HB.out.size)⟩
  · rw [h2] at CT
    have CB := Lib.hid (fun W1 (hb1 : Below wA.heap.size wA W1) => l2Best_any F W1 (HFA.out.on hb1) h2)
    clear h2
    go_enter Try.func17, Try.ntmps17
    go_wp2_with fail
    rw [show w.alloc (Obj.cells #[F.o.val, F.t.val] 29) = wA from HA.out.symm]
    refine (show Calls _ _ _ _ _ from CT.out).mono ?_
    rintro e W1 ⟨rfl, hb1⟩
    clear x0 x1
    have y0 := (HBX.out.on hb1).c0
    have y1 := (HBX.out.on hb1).c1
    have CB1 := Lib.hid (CB.out W1 hb1)
    have HB1 := Lib.hid hb1
    clear hb1
    go_wp2_with fail
    refine (show Calls _ _ _ _ _ from CB1.out).mono ?_
    rintro e W2 ⟨y, rfl, hy, hb2⟩
    have HY := Lib.hid hy
    clear hy y0 y1
    have hb1 := HB1.out
    go_wp2
    go_ret2
    exact ⟨y, rfl, HY.out.l, HY.out.own, HY.out.ins.wide (Nat.le_trans hbA.size hb1.size) (Nat.le_refl _), (hbA.trans (hb1.mono hbA.size)).trans (hb2.mono (Nat.le_trans hbA.size hb1.size))⟩

set_option maxRecDepth 16000 in
set_option maxHeartbeats 1000000 in
theorem specBTot_any (F : Fld) (w : World) (hF : F.At w) (v : Int) (b : Bool) (hv : BTots F v b) :
    Calls Try.prog 22 #[F.val] w (PInt v b w) := by
  obtain ⟨wA, hA, hbA, bx, hFA, hszA⟩ := laid_fld F w 29 hF
  have HFA := Lib.hid hFA
  have HBX := Lib.hid bx
  have HA := Lib.hid hA
  have CT := Lib.hid (l2Good_any F wA hFA)
  have x0 := bx.c0
  have x1 := bx.c1
  rw [hA] at x0 x1
  clear hF hA hFA bx
  show Calls _ _ #[.agg #[F.o.val, F.t.val]] w fun e w' => e = .returned (.tuple #[.int .i64 v, .bool b]) ∧ Below w.heap.size w w'
  rcases hv with ⟨h2, rfl, rfl⟩ | ⟨h2, hv, rfl⟩
  · rw [h2] at CT
    clear h2
    go_enter Try.func22, Try.ntmps22
    go_wp2_with fail
    rw [show w.alloc (Obj.cells #[F.o.val, F.t.val] 29) = wA from HA.out.symm]
    refine (show Calls _ _ _ _ _ from CT.out).mono ?_
    rintro e W1 ⟨rfl, hb1⟩
    clear x0 x1
    go_wp2
    go_ret2
    exact ⟨rfl, hbA.trans (hb1.mono hbA.size)⟩
  · rw [h2] at CT
    have hbo := bestA_ok h2
    have C1 := Lib.hid (fun W1 (hb1 : Below wA.heap.size wA W1) => l2Best_any F W1 (HFA.out.on hb1) h2)
    have C2 := Lib.hid (fun u (hu : Below wA.heap.size wA u) (y : Row) (hy : y.At u) (hl : y.l = up (bestA F)) => by have := l2Total_totT F y _ u (HFA.out.on hu) hy h2 hl hbo.1 hbo.2.1.2 hbo.2.2; rw [← hv] at this; exact this : ∀ u, Below wA.heap.size wA u → ∀ y : Row, y.At u → y.l = up (bestA F) → Calls Try.prog 37 #[F.val, .slice y.a y.l.length y.c] u fun e w' => e = .returned (.int .i64 v) ∧ Below u.heap.size u w')
    clear h2 hv hbo
    go_enter Try.func22, Try.ntmps22
    go_wp2_with fail
    rw [show w.alloc (Obj.cells #[F.o.val, F.t.val] 29) = wA from HA.out.symm]
    refine (show Calls _ _ _ _ _ from CT.out).mono ?_
    rintro e W1 ⟨rfl, hb1⟩
    clear x0 x1
    have HS : Hid (∀ u, Below W1.heap.size W1 u → ((u.cell? ⟨w.heap.size, 0, none⟩ = some F.o.val ∧ u.cell? ⟨w.heap.size, 1, none⟩ = some F.t.val) ∧ Below W1.heap.size W1 u)) := Lib.hid fun u hu => ⟨⟨((HBX.out.on hb1).on hu).c0, ((HBX.out.on hb1).on hu).c1⟩, hu⟩
    have s0 := HS.out W1.drew (Below.refl _ _).drew
    have D1 := Lib.hid (fun u (hu : Below W1.heap.size W1 u) => C1.out u (hb1.trans (hu.mono hb1.size)))
    have D2 := Lib.hid (fun u (hu : Below W1.heap.size W1 u) => C2.out u (hb1.trans (hu.mono hb1.size)))
    have y0 := (HBX.out.on hb1).c0
    have y1 := (HBX.out.on hb1).c1
    have HB := Lib.hid (hbA.trans (hb1.mono hbA.size))
    have hsz := HB.out.size
    clear hb1
    go_wp2_with fail
    go_region_held3 (fun u => ((u.cell? ⟨w.heap.size, 0, none⟩ = some F.o.val ∧ u.cell? ⟨w.heap.size, 1, none⟩ = some F.t.val) ∧ Below W1.heap.size W1 u)) (first | exact s0 | exact keep_reg HS.out (by first | assumption | exact And.right (by assumption)) hb1) (first | (go_at_call 39; refine (show Calls _ _ _ _ _ from D1.out _ (by first | assumption | exact And.right (by assumption))).mono ?_; rintro e u1 ⟨y, rfl, hy, hb1⟩; have HY := Lib.hid hy; clear hy) | (go_at_call 37; refine (show Calls _ _ _ _ _ from D2.out _ (by first | assumption | exact And.right (by assumption)) y HY.out.ins.at HY.out.l).mono ?_; rintro e u2 ⟨rfl, hb1⟩))
    refine at_exit (W := W1) (by first | assumption | exact And.right (by assumption)) ?_
    intro W8 hb8
    go_wp2
    go_ret2
    exact ⟨rfl, HB.out.trans (hb8.mono hsz)⟩

set_option maxRecDepth 16000 in
set_option maxHeartbeats 1000000 in
theorem implBTot_any (F : Fld) (w : World) (hF : F.At w) (v : Int) (b : Bool) (hv : BTots F v b) :
    Calls Try.prog 23 #[F.val] w (PInt v b w) := by
  obtain ⟨wA, hA, hbA, bx, hFA, hszA⟩ := laid_fld F w 29 hF
  have HFA := Lib.hid hFA
  have HBX := Lib.hid bx
  have HA := Lib.hid hA
  have x0 := bx.c0
  have x1 := bx.c1
  rw [hA] at x0 x1
  clear hF hA hFA bx
  show Calls _ _ #[.agg #[F.o.val, F.t.val]] w fun e w' => e = .returned (.tuple #[.int .i64 v, .bool b]) ∧ Below w.heap.size w w'
  rcases hv with ⟨h2, rfl, rfl⟩ | ⟨h2, hv, rfl⟩
  · have CT := Lib.hid (implBSet_any F wA HFA.out [] false (.inl ⟨h2, rfl, rfl⟩))
    clear h2
    go_enter Try.func23, Try.ntmps23
    go_wp2_with fail
    rw [show w.alloc (Obj.cells #[F.o.val, F.t.val] 29) = wA from HA.out.symm]
    refine (show Calls _ _ _ _ _ from CT.out).mono ?_
    rintro e W1 ⟨t, rfl, htl, -, -, hb1⟩
    clear x0 x1 htl
    go_wp2
    go_ret2
    exact ⟨rfl, hbA.trans (hb1.mono hbA.size)⟩
  · have CT := Lib.hid (implBSet_any F wA HFA.out _ true (.inr ⟨h2, rfl, rfl⟩))
    have hbo := bestA_ok h2
    have C2 := Lib.hid (fun u (hu : Below wA.heap.size wA u) (y : Row) (hy : y.At u) (hl : y.l = up (bestA F)) => implTotal_any F y u (HFA.out.on hu) hy v true (by rw [hv]; exact totals_of h2 hl hbo.1 hbo.2.1.1 hbo.2.1.2 hbo.2.2))
    clear h2 hv hbo
    go_enter Try.func23, Try.ntmps23
    go_wp2_with fail
    rw [show w.alloc (Obj.cells #[F.o.val, F.t.val] 29) = wA from HA.out.symm]
    refine (show Calls _ _ _ _ _ from CT.out).mono ?_
    rintro e W1 ⟨t, rfl, htl, -, hti, hb1⟩
    have y0 := (HBX.out.on hb1).c0
    have y1 := (HBX.out.on hb1).c1
    have C3 := Lib.hid (C2.out W1 hb1 t hti.at htl)
    clear htl hti x0 x1
    go_wp2_with fail
    refine (show Calls _ _ _ _ _ from C3.out).mono ?_
    rintro e W2 ⟨rfl, hb2⟩
    clear y0 y1
    go_wp2
    go_ret2
    exact ⟨rfl, (hbA.trans (hb1.mono hbA.size)).trans (hb2.mono (Nat.le_trans hbA.size hb1.size))⟩

theorem bsets_like {F G : Fld} {l : List Int} {b : Bool} (h : BSets F l b) (hl : G.Like F) : BSets G l b := by
  unfold BSets at *
  rw [hl.good, bestA_like hl]; exact h
theorem btots_like {F G : Fld} {v : Int} {b : Bool} (h : BTots F v b) (hl : G.Like F) : BTots G v b := by
  unfold BTots at *
  rw [hl.good, bestA_like hl, totT_like hl]; exact h
theorem bestSet_pair (F : Fld) (_ : F.Small) : ∃ (l : List Int) (b : Bool) (_ : l.length ≤ 1048576),
    (∀ (G : Fld) (W : World), G.At W → G.Like F → Calls Try.prog 17 #[G.val] W (PInts l b W)) ∧
    (∀ (G : Fld) (W : World), G.At W → G.Like F → Calls Try.prog 18 #[G.val] W (PInts l b W)) := by
  obtain ⟨l, b, h, hl⟩ : ∃ l b, BSets F l b ∧ l.length ≤ 1048576 := by
    by_cases h : F.good = true
    · exact ⟨_, _, .inr ⟨h, rfl, rfl⟩, by rw [up_length]; have := (bestA_ok h).2.2; omega⟩
    · exact ⟨_, _, .inl ⟨by simpa using h, rfl, rfl⟩, by simp⟩
  exact ⟨l, b, hl, fun G W hG hlk => specBSet_any G W hG l b (bsets_like h hlk), fun G W hG hlk => implBSet_any G W hG l b (bsets_like h hlk)⟩
theorem bestTotal_pair (F : Fld) (_ : F.Small) : ∃ (v : Int) (b : Bool),
    (∀ (G : Fld) (W : World), G.At W → G.Like F → Calls Try.prog 22 #[G.val] W (PInt v b W)) ∧
    (∀ (G : Fld) (W : World), G.At W → G.Like F → Calls Try.prog 23 #[G.val] W (PInt v b W)) := by
  obtain ⟨v, b, h⟩ : ∃ v b, BTots F v b := by
    by_cases h : F.good = true
    · exact ⟨_, _, .inr ⟨h, rfl, rfl⟩⟩
    · exact ⟨_, _, .inl ⟨by simpa using h, rfl, rfl⟩⟩
  exact ⟨v, b, fun G W hG hlk => specBTot_any G W hG v b (btots_like h hlk), fun G W hG hlk => implBTot_any G W hG v b (btots_like h hlk)⟩
end Go.Proofs.Ytjabdcallfipeaa
