/- Both sides of ThresholdSites answer alike. Condition: the Field reads as such. -/
import Derived.Test.YtlnompeojhaigaaPairThresholdClients
import Derived.Test.YtlnompeojhaigaaNearSites
import Derived.Test.YtlnompeojhaigaaAllNear
namespace Go.Proofs.Ytlnompeojhaigaa
open Go.RowKit Go.Shelf

def TSites (F : Fld) (r : Int) (l : List Int) (b : Bool) : Prop :=
  ((F.good && (decide (0 ≤ r) && allNearB F r)) = false ∧ l = [] ∧ b = false) ∨ (F.good = true ∧ 0 ≤ r ∧ allNearB F r = true ∧ l = sitesN F (thrN F r F.t.R.length) ∧ b = true)
theorem tsites_no {F : Fld} {r : Int} {l : List Int} {b : Bool} (h : TSites F r l b) (hn : F.good = false ∨ r < 0 ∨ allNearB F r = false) : l = [] ∧ b = false := by
  rcases h with ⟨_, h⟩ | ⟨h1, h2, h3, _⟩
  · exact h
  · rcases hn with hn | hn | hn
    · rw [h1] at hn; cases hn
    · omega
    · rw [h3] at hn; cases hn
theorem tsites_yes {F : Fld} {r : Int} {l : List Int} {b : Bool} (h : TSites F r l b) (h1 : F.good = true) (h2 : 0 ≤ r) (h3 : allNearB F r = true) : l = sitesN F (thrN F r F.t.R.length) ∧ b = true := by
  rcases h with ⟨h, _⟩ | ⟨_, _, _, h⟩
  · rw [h1, h3, decide_eq_true h2] at h; cases h
  · exact h
theorem tsites_some (F : Fld) (r : Int) : ∃ l b, TSites F r l b ∧ l.length ≤ 1048576 := by
  by_cases h : (F.good && (decide (0 ≤ r) && allNearB F r)) = true
  · have h' := h
    simp only [Bool.and_eq_true, decide_eq_true_eq] at h'
    refine ⟨_, _, .inr ⟨h'.1, h'.2.1, h'.2.2, rfl, rfl⟩, ?_⟩
    have h1 := sitesN_len F (thrN F r F.t.R.length)
    have h2 := thr_len F r F.t.R.length
    have h3 := good_sizes h'.1
    omega
  · exact ⟨_, _, .inl ⟨by simpa using h, rfl, rfl⟩, by simp⟩
theorem tsites_like {F G : Fld} {r : Int} {l : List Int} {b : Bool} (h : TSites F r l b) (hl : G.Like F) : TSites G r l b := by
  rcases h with ⟨h1, h2⟩ | ⟨h1, h2, h3, h4, h5⟩
  · exact .inl ⟨by rw [hl.good, allNear_like hl]; exact h1, h2⟩
  · exact .inr ⟨by rw [hl.good]; exact h1, h2, by rw [allNear_like hl]; exact h3, by rw [far_rows hl, thr_like hl, sitesN_like hl]; exact h4, h5⟩
theorem thr_ltR (F : Fld) (r : Int) : ∀ j ∈ thrN F r F.t.R.length, j < F.t.R.length := thr_lt F r _

set_option maxHeartbeats 1000000 in
theorem implTS_any (F : Fld) (r : Int) (w : World) (hF : F.At w) (l : List Int) (b : Bool) (hv : TSites F r l b) :
    Calls Try.prog 38 #[F.val, .int .i64 r] w (PInts l b w) := by
  obtain ⟨wA, hA, hbA, bx, hFA, hszA⟩ := laid_fld F w 29 hF
  have HFA := Lib.hid hFA
  have HBX := Lib.hid bx
  have HA := Lib.hid hA
  have HV := Lib.hid hv
  obtain ⟨l0, b0, h0, hl0⟩ := thrs_some F r
  have CT := Lib.hid (implThr_any F r wA hFA l0 b0 h0)
  have H0 := Lib.hid h0
  have HL0 := Lib.hid hl0
  have x0 := bx.c0
  have x1 := bx.c1
  rw [hA] at x0 x1
  clear hF hA hFA bx hv h0 hl0
  show Calls _ _ #[.agg #[F.o.val, F.t.val], _] w _
  go_enter Try.func38, Try.ntmps38
  go_wp2_with fail
  rw [show w.alloc (Obj.cells #[F.o.val, F.t.val] 29) = wA from HA.out.symm]
  refine (show Calls _ _ _ _ _ from CT.out).mono ?_
  rintro e W1 ⟨c, rfl, hcl, -, hci, hb1⟩
  have hbw := hbA.trans (hb1.mono hbA.size)
  have HEND : Hid (∀ u, Below W1.heap.size W1 u → PInts [] false w (.returned (.tuple #[.slice (some ⟨u.heap.size, 0, none⟩) 0 0, .bool false])) (u.alloc (.cells #[] 3))) := Lib.hid (fun u hu => by
    have hbu := hbw.trans (hu.mono hbw.size)
    exact ints_end rfl (empty_own u) hbu.size (hbu.trans ((below_alloc u _).mono hbu.size)))
  have HBW := Lib.hid hbw
  clear x0 x1 hbw
  cases b0 with
  | false =>
    obtain ⟨rfl, rfl⟩ : l = [] ∧ b = false := by
      rcases H0.out with ⟨h, _⟩ | ⟨_, _, _, h⟩
      · refine tsites_no HV.out ?_
        by_cases hg : F.good = true
        · right; left; rw [hg] at h; simp at h; omega
        · left; simpa using hg
      · cases h
    clear hcl hci
    go_wp2
    go_ret2
    exact HEND.out W1 (Below.refl _ _)
  | true =>
    obtain ⟨hg, hr0, hl0⟩ : F.good = true ∧ 0 ≤ r ∧ l0 = up (thrN F r F.t.R.length) := by
      rcases H0.out with ⟨_, _, h⟩ | ⟨h1, h2, h3, _⟩
      · cases h
      · exact ⟨h1, h2, h3⟩
    have HCL : Hid (c.l = up (thrN F r F.t.R.length)) := Lib.hid (by rw [hcl, hl0])
    have HCS : Hid (c.l.length ≤ 1048576) := Lib.hid (by rw [hcl]; exact HL0.out)
    have HCI := Lib.hid hci.at
    have HG := Lib.hid hg
    have HR0 := Lib.hid hr0
    have y0 := (HBX.out.on hb1).c0
    have y1 := (HBX.out.on hb1).c1
    obtain ⟨v, hv⟩ : ∃ v, v = allNearB F r := ⟨_, rfl⟩
    have CN := Lib.hid (by have := allHaveSites_any F r W1 (HFA.out.on hb1) hg; rw [← hv] at this; exact this)
    have HVV := Lib.hid hv
    have HB1 := Lib.hid hb1
    clear hcl hci hg hr0 hl0 hv hb1
    go_wp2_with fail
    refine (show Calls _ _ _ _ _ from CN.out).mono ?_
    rintro e W2 ⟨rfl, hb2⟩
    have HB2 := Lib.hid hb2
    have z0 := ((HBX.out.on HB1.out).on hb2).c0
    have z1 := ((HBX.out.on HB1.out).on hb2).c1
    clear hb2 y0 y1
    cases v with
    | false =>
      obtain ⟨rfl, rfl⟩ := tsites_no HV.out (.inr (.inr HVV.out.symm))
      go_wp2
      go_ret2
      exact HEND.out W2 HB2.out
    | true =>
      obtain ⟨hl, rfl⟩ := tsites_yes HV.out HG.out HR0.out HVV.out.symm
      have HL := Lib.hid hl
      have CS := Lib.hid (nearestSites_any F c (thrN F r F.t.R.length) W2 ((HFA.out.on HB1.out).on HB2.out) (HCI.out.on HB2.out) HG.out HCL.out (thr_ltR F r) HCS.out)
      have HBW2 := Lib.hid (HBW.out.trans (HB2.out.mono HBW.out.size))
      clear hl
      go_wp2_with fail
      refine (show Calls _ _ _ _ _ from CS.out).mono ?_
      rintro e W3 ⟨t, rfl, htl, hto, hti, hb3⟩
      have HTL := Lib.hid htl
      clear htl z0 z1
      go_wp2
      go_ret2
      exact ⟨t, rfl, by rw [HTL.out, HL.out], hto, hti.wide HBW2.out.size (Nat.le_refl _), HBW2.out.trans (hb3.mono HBW2.out.size)⟩

set_option maxRecDepth 16000 in
set_option maxHeartbeats 1000000 in
theorem specTS_any (F : Fld) (r : Int) (w : World) (hF : F.At w) (l : List Int) (b : Bool) (hv : TSites F r l b) :
    Calls Try.prog 37 #[F.val, .int .i64 r] w (PInts l b w) := by
  obtain ⟨wA, hA, hbA, bx, hFA, hszA⟩ := laid_fld F w 29 hF
  have HFA := Lib.hid hFA
  have HBX := Lib.hid bx
  have HA := Lib.hid hA
  have HV := Lib.hid hv
  obtain ⟨g, hg⟩ : ∃ g, g = F.good := ⟨_, rfl⟩
  have CT := Lib.hid (by have := l2Good_any F wA hFA; rw [← hg] at this; exact this)
  have HG := Lib.hid hg
  have x0 := bx.c0
  have x1 := bx.c1
  rw [hA] at x0 x1
  clear hF hA hFA bx hg hv
  show Calls _ _ #[.agg #[F.o.val, F.t.val], _] w _
  go_enter Try.func37, Try.ntmps37
  go_wp2_with fail
  rw [show w.alloc (Obj.cells #[F.o.val, F.t.val] 29) = wA from HA.out.symm]
  refine (show Calls _ _ _ _ _ from CT.out).mono ?_
  rintro e W0 ⟨rfl, hb0⟩
  have hbw := hbA.trans (hb0.mono hbA.size)
  have HEND : Hid (∀ u, Below W0.heap.size W0 u → PInts [] false w (.returned (.tuple #[.slice (some ⟨u.heap.size, 0, none⟩) 0 0, .bool false])) (u.alloc (.cells #[] 3))) := Lib.hid (fun u hu => by
    have hbu := hbw.trans (hu.mono hbw.size)
    exact ints_end rfl (empty_own u) hbu.size (hbu.trans ((below_alloc u _).mono hbu.size)))
  clear x0 x1
  cases g with
  | false =>
    obtain ⟨rfl, rfl⟩ := tsites_no HV.out (.inl HG.out.symm)
    go_wp2
    go_ret2
    exact HEND.out W0 (Below.refl _ _)
  | true =>
    by_cases hr0 : r < 0
    · obtain ⟨rfl, rfl⟩ := tsites_no HV.out (.inr (.inl hr0))
      go_wp2
      go_ret2
      exact HEND.out W0 (Below.refl _ _)
    have y0 := (HBX.out.on hb0).c0
    have y1 := (HBX.out.on hb0).c1
    obtain ⟨v, hv⟩ : ∃ v, v = allNearB F r := ⟨_, rfl⟩
    have CN := Lib.hid (by have := l5Near_any F r W0 (HFA.out.on hb0) HG.out.symm; rw [← hv] at this; exact this)
    have HVV := Lib.hid hv
    have HB0 := Lib.hid hb0
    clear hv hb0
    go_wp2_with fail
    refine (show Calls _ _ _ _ _ from CN.out).mono ?_
    rintro e W1 ⟨rfl, hb1⟩
    have HB1 := Lib.hid (HB0.out.trans (hb1.mono HB0.out.size))
    have HBW := Lib.hid (hbw.trans (hb1.mono (Nat.le_trans hbw.size (Nat.le_refl _))))
    have HU := Lib.hid hb1
    clear hb1 y0 y1
    cases v with
    | false =>
      obtain ⟨rfl, rfl⟩ := tsites_no HV.out (.inr (.inr HVV.out.symm))
      go_wp2
      go_ret2
      exact HEND.out W1 HU.out
    | true =>
      obtain ⟨hl, rfl⟩ := tsites_yes HV.out HG.out.symm (by omega) HVV.out.symm
      have HL := Lib.hid hl
      have D1 := Lib.hid (fun u (hu : Below W1.heap.size W1 u) => l5Threshold_any F r u ((HFA.out.on HB1.out).on hu) HG.out.symm)
      have hle : (thrN F r F.t.R.length).length ≤ 1048576 := by have := thr_len F r F.t.R.length; have := good_sizes HG.out.symm; omega
      have D2 := Lib.hid (fun u (hu : Below W1.heap.size W1 u) (y : Row) (hy : y.At u) (hyl : y.l = up (thrN F r F.t.R.length)) => by
        have := l5Nearest_any F y (thrN F r F.t.R.length) u ((HFA.out.on HB1.out).on hu) hy HG.out.symm hyl (thr_ltR F r) (by rw [hyl, up_length]; exact hle)
        refine this.mono ?_
        rintro e w' ⟨t, rfl, htl, hto, hti, hb⟩
        exact ⟨t, rfl, htl, hto, hti.wide hu.size (Nat.le_refl _), hb⟩ : ∀ u, Below W1.heap.size W1 u → ∀ y : Row, y.At u → y.l = up (thrN F r F.t.R.length) → Calls Try.prog 74 #[F.val, .slice y.a y.l.length y.c] u fun e w' => ∃ t : Row, e = .returned (.slice t.a t.l.length t.c) ∧ t.l = sitesN F (thrN F r F.t.R.length) ∧ t.Own 3 w' ∧ t.In W1.heap.size w'.heap.size w' ∧ Below u.heap.size u w')
      have HS : Hid (∀ u, Below W1.heap.size W1 u → ((u.cell? ⟨w.heap.size, 0, none⟩ = some F.o.val ∧ u.cell? ⟨w.heap.size, 1, none⟩ = some F.t.val) ∧ Below W1.heap.size W1 u)) := Lib.hid fun u hu => ⟨⟨((HBX.out.on HB1.out).on hu).c0, ((HBX.out.on HB1.out).on hu).c1⟩, hu⟩
      have s0 := HS.out W1.drew (Below.refl _ _).drew
      have hszW := HBW.out.size
      have y0 := (HBX.out.on HB1.out).c0
      have y1 := (HBX.out.on HB1.out).c1
      clear hl hle
      go_wp2_with fail
      go_region_held3 (fun u => ((u.cell? ⟨w.heap.size, 0, none⟩ = some F.o.val ∧ u.cell? ⟨w.heap.size, 1, none⟩ = some F.t.val) ∧ Below W1.heap.size W1 u)) (first | exact s0 | exact keep_reg HS.out (by first | assumption | exact And.right (by assumption)) hb1) (first | (go_at_call 76; refine (show Calls _ _ _ _ _ from D1.out _ (by first | assumption | exact And.right (by assumption))).mono ?_; rintro e u1 ⟨y, rfl, hyl, hyo, hyi, hb1⟩; have HYL := Lib.hid hyl; have HYI := Lib.hid hyi.at; clear hyl hyo hyi) | (go_at_call 74; refine (show Calls _ _ _ _ _ from D2.out _ (by first | assumption | exact And.right (by assumption)) y HYI.out HYL.out).mono ?_; rintro e u2 ⟨t, rfl, htl, hto, hti, hb1⟩; have HTL := Lib.hid htl; have HTO := Lib.hid hto; have HTI := Lib.hid hti; clear htl hto hti))
      all_goals
        have HBF := Lib.hid (show Below W1.heap.size W1 u2 by first | assumption | exact And.right (by assumption))
        go_wp2
        go_ret2
        exact ⟨t, rfl, by rw [HTL.out, HL.out], HTO.out, HTI.out.wide hszW (Nat.le_refl _), HBW.out.trans (HBF.out.mono hszW)⟩

theorem thresholdSites_pair (F : Fld) (r : Int) (_ : (Lit.int .i64 r).wf = true) (_ : F.Small) : ∃ (l : List Int) (b : Bool) (_ : l.length ≤ 1048576),
    (∀ (G : Fld) (W : World), G.At W → G.Like F → Calls Try.prog 37 #[G.val, .int .i64 r] W (PInts l b W)) ∧
    (∀ (G : Fld) (W : World), G.At W → G.Like F → Calls Try.prog 38 #[G.val, .int .i64 r] W (PInts l b W)) := by
  obtain ⟨l, b, h, hl⟩ := tsites_some F r
  exact ⟨l, b, hl, fun G W hG hlk => specTS_any G r W hG l b (tsites_like h hlk), fun G W hG hlk => implTS_any G r W hG l b (tsites_like h hlk)⟩
end Go.Proofs.Ytlnompeojhaigaa
