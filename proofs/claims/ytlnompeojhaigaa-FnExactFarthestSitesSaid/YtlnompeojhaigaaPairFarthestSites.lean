/- Both sides of FarthestSites answer alike. Condition: the Field reads as such. -/
import Derived.Test.YtlnompeojhaigaaPairFarthestClients
import Derived.Test.YtlnompeojhaigaaNearSites
namespace Go.Proofs.Ytlnompeojhaigaa
open Go.RowKit Go.Shelf

def FSites (F : Fld) (k : Int) (l : List Int) (b : Bool) : Prop :=
  (kB F k = false ∧ l = [] ∧ b = false) ∨ (∃ m : Nat, F.good = true ∧ k = m ∧ 1 ≤ m ∧ m ≤ F.o.l.length ∧ l = sitesN F (takeF F (min m F.t.R.length)) ∧ b = true)
theorem fsites_no {F : Fld} {k : Int} {l : List Int} {b : Bool} (h : FSites F k l b) (hn : kB F k = false) : l = [] ∧ b = false := by
  rcases h with ⟨_, h⟩ | ⟨m, h1, rfl, h3, h4, _⟩
  · exact h
  · unfold kB at hn; rw [h1] at hn; simp at hn; omega
theorem fsites_yes {F : Fld} {k : Int} {l : List Int} {b : Bool} (h : FSites F k l b) (hy : kB F k = true) : ∃ m : Nat, F.good = true ∧ k = m ∧ 1 ≤ m ∧ m ≤ F.o.l.length ∧ l = sitesN F (takeF F (min m F.t.R.length)) ∧ b = true := by
  rcases h with ⟨h, _⟩ | h
  · rw [hy] at h; cases h
  · exact h
theorem fsites_some (F : Fld) (k : Int) : ∃ l b, FSites F k l b ∧ l.length ≤ 1048576 := by
  by_cases h : kB F k = true
  · obtain ⟨hg, m, rfl, h1, h2⟩ := kB_nat h
    exact ⟨_, _, .inr ⟨m, hg, rfl, h1, h2, rfl, rfl⟩, by have := sitesN_len F (takeF F (min m F.t.R.length)); rw [takeF_len] at this; have := good_sizes hg; omega⟩
  · exact ⟨_, _, .inl ⟨by simpa using h, rfl, rfl⟩, by simp⟩
theorem fsites_like {F G : Fld} {k : Int} {l : List Int} {b : Bool} (h : FSites F k l b) (hl : G.Like F) : FSites G k l b := by
  rcases h with ⟨h1, h2⟩ | ⟨m, h1, h2, h3, h4, h5, h6⟩
  · exact .inl ⟨by rw [kB_like hl]; exact h1, h2⟩
  · exact .inr ⟨m, by rw [hl.good]; exact h1, h2, h3, by rw [hl.1]; exact h4, by rw [fths_rows hl, takeF_like hl, sitesN_like hl]; exact h5, h6⟩

set_option maxHeartbeats 1000000 in
theorem implFS_any (F : Fld) (k : Int) (w : World) (hF : F.At w) (l : List Int) (b : Bool) (hv : FSites F k l b) :
    Calls Try.prog 34 #[F.val, .int .i64 k] w (PInts l b w) := by
  obtain ⟨wA, hA, hbA, bx, hFA, hszA⟩ := laid_fld F w 29 hF
  have HFA := Lib.hid hFA
  have HBX := Lib.hid bx
  have HA := Lib.hid hA
  have HV := Lib.hid hv
  obtain ⟨l0, b0, h0, hl0⟩ := fths_some F k
  have CT := Lib.hid (implFth_any F k wA hFA l0 b0 h0)
  have H0 := Lib.hid h0
  have HL0 := Lib.hid hl0
  have x0 := bx.c0
  have x1 := bx.c1
  rw [hA] at x0 x1
  clear hF hA hFA bx hv h0 hl0
  show Calls _ _ #[.agg #[F.o.val, F.t.val], _] w _
  go_enter Try.func34, Try.ntmps34
  go_wp2_with fail
  rw [show w.alloc (Obj.cells #[F.o.val, F.t.val] 29) = wA from HA.out.symm]
  refine (show Calls _ _ _ _ _ from CT.out).mono ?_
  rintro e W1 ⟨c, rfl, hcl, -, hci, hb1⟩
  have hbw := hbA.trans (hb1.mono hbA.size)
  have HEND : Hid (PInts [] false w (.returned (.tuple #[.slice (some ⟨W1.heap.size, 0, none⟩) 0 0, .bool false])) (W1.alloc (.cells #[] 3))) := Lib.hid (ints_end rfl (empty_own W1) hbw.size (hbw.trans ((below_alloc W1 _).mono hbw.size)))
  have HBW := Lib.hid hbw
  clear x0 x1 hbw
  cases b0 with
  | false =>
    obtain ⟨rfl, rfl⟩ : l = [] ∧ b = false := by
      rcases H0.out with ⟨h, _⟩ | ⟨_, _, _, _, _, _, h⟩
      · exact fsites_no HV.out h
      · cases h
    clear hcl hci
    go_wp2
    go_ret2
    exact HEND.out
  | true =>
    obtain ⟨m, hg, rfl, hm1, hmn, hl0, -⟩ : ∃ m : Nat, F.good = true ∧ k = m ∧ 1 ≤ m ∧ m ≤ F.o.l.length ∧ l0 = up (takeF F (min m F.t.R.length)) ∧ True := by
      rcases H0.out with ⟨_, _, h⟩ | ⟨m, h1, h2, h3, h4, h5, _⟩
      · cases h
      · exact ⟨m, h1, h2, h3, h4, h5, trivial⟩
    obtain ⟨hl, rfl⟩ : l = sitesN F (takeF F (min m F.t.R.length)) ∧ b = true := by
      obtain ⟨m2, _, h2, _, _, h5, h6⟩ := fsites_yes HV.out (by unfold kB; rw [hg]; simp; omega)
      have : m = m2 := by omega
      subst this; exact ⟨h5, h6⟩
    have HL := Lib.hid hl
    have y0 := (HBX.out.on hb1).c0
    have y1 := (HBX.out.on hb1).c1
    have CN := Lib.hid (nearestSites_any F c (takeF F (min m F.t.R.length)) W1 (HFA.out.on hb1) hci.at hg (by rw [hcl, hl0]) (takeF_lt F _ (Nat.min_le_right _ _)) (by rw [hcl]; exact HL0.out))
    clear hl hl0 hcl hci hg hb1 hm1 hmn
    go_wp2_with fail
    refine (show Calls _ _ _ _ _ from CN.out).mono ?_
    rintro e W2 ⟨t, rfl, htl, hto, hti, hb2⟩
    have HTL := Lib.hid htl
    clear htl y0 y1
    go_wp2
    go_ret2
    exact ⟨t, rfl, by rw [HTL.out, HL.out], hto, hti.wide HBW.out.size (Nat.le_refl _), HBW.out.trans (hb2.mono HBW.out.size)⟩

set_option maxRecDepth 16000 in
set_option maxHeartbeats 1000000 in
theorem specFS_any (F : Fld) (k : Int) (w : World) (hF : F.At w) (l : List Int) (b : Bool) (hv : FSites F k l b) :
    Calls Try.prog 33 #[F.val, .int .i64 k] w (PInts l b w) := by
  obtain ⟨wA, hA, hbA, bx, hFA, hszA⟩ := laid_fld F w 29 hF
  have HFA := Lib.hid hFA
  have HBX := Lib.hid bx
  have HA := Lib.hid hA
  have HV := Lib.hid hv
  obtain ⟨g, hg⟩ : ∃ g, g = kB F k := ⟨_, rfl⟩
  have CT := Lib.hid (by have := l5Ask_any F k wA hFA; rw [← hg] at this; exact this)
  have HG := Lib.hid hg
  have x0 := bx.c0
  have x1 := bx.c1
  rw [hA] at x0 x1
  clear hF hA hFA bx hg hv
  show Calls _ _ #[.agg #[F.o.val, F.t.val], _] w _
  go_enter Try.func33, Try.ntmps33
  go_wp2_with fail
  rw [show w.alloc (Obj.cells #[F.o.val, F.t.val] 29) = wA from HA.out.symm]
  refine (show Calls _ _ _ _ _ from CT.out).mono ?_
  rintro e W1 ⟨rfl, hb1⟩
  have hbw := hbA.trans (hb1.mono hbA.size)
  have HEND : Hid (PInts [] false w (.returned (.tuple #[.slice (some ⟨W1.heap.size, 0, none⟩) 0 0, .bool false])) (W1.alloc (.cells #[] 3))) := Lib.hid (ints_end rfl (empty_own W1) hbw.size (hbw.trans ((below_alloc W1 _).mono hbw.size)))
  have HBW := Lib.hid hbw
  clear x0 x1 hbw
  cases g with
  | false =>
    obtain ⟨rfl, rfl⟩ := fsites_no HV.out HG.out.symm
    go_wp2
    go_ret2
    exact HEND.out
  | true =>
    obtain ⟨q, hgd, rfl, hq1, hqn, hl, rfl⟩ := fsites_yes HV.out HG.out.symm
    have HL := Lib.hid hl
    have D1 := Lib.hid (fun u (hu : Below W1.heap.size W1 u) => l5Farthest_any F q u ((HFA.out.on hb1).on hu) hgd hq1 hqn)
    have hle : (takeF F (min q F.t.R.length)).length ≤ 1048576 := by rw [takeF_len]; have := good_sizes hgd; omega
    have D2 := Lib.hid (fun u (hu : Below W1.heap.size W1 u) (y : Row) (hy : y.At u) (hyl : y.l = up (takeF F (min q F.t.R.length))) => by
      have := l5Nearest_any F y (takeF F (min q F.t.R.length)) u ((HFA.out.on hb1).on hu) hy hgd hyl (takeF_lt F _ (Nat.min_le_right _ _)) (by rw [hyl, up_length]; exact hle)
      refine this.mono ?_
      rintro e w' ⟨t, rfl, htl, hto, hti, hb⟩
      exact ⟨t, rfl, htl, hto, hti.wide hu.size (Nat.le_refl _), hb⟩ : ∀ u, Below W1.heap.size W1 u → ∀ y : Row, y.At u → y.l = up (takeF F (min q F.t.R.length)) → Calls Try.prog 74 #[F.val, .slice y.a y.l.length y.c] u fun e w' => ∃ t : Row, e = .returned (.slice t.a t.l.length t.c) ∧ t.l = sitesN F (takeF F (min q F.t.R.length)) ∧ t.Own 3 w' ∧ t.In W1.heap.size w'.heap.size w' ∧ Below u.heap.size u w')
    have HS : Hid (∀ u, Below W1.heap.size W1 u → ((u.cell? ⟨w.heap.size, 0, none⟩ = some F.o.val ∧ u.cell? ⟨w.heap.size, 1, none⟩ = some F.t.val) ∧ Below W1.heap.size W1 u)) := Lib.hid fun u hu => ⟨⟨((HBX.out.on hb1).on hu).c0, ((HBX.out.on hb1).on hu).c1⟩, hu⟩
    have s0 := HS.out W1.drew (Below.refl _ _).drew
    have hszW := HBW.out.size
    have y0 := (HBX.out.on hb1).c0
    have y1 := (HBX.out.on hb1).c1
    clear hl hgd hq1 hqn hb1 hle
    go_wp2_with fail
    go_region_held3 (fun u => ((u.cell? ⟨w.heap.size, 0, none⟩ = some F.o.val ∧ u.cell? ⟨w.heap.size, 1, none⟩ = some F.t.val) ∧ Below W1.heap.size W1 u)) (first | exact s0 | exact keep_reg HS.out (by first | assumption | exact And.right (by assumption)) hb1) (first | (go_at_call 71; refine (show Calls _ _ _ _ _ from D1.out _ (by first | assumption | exact And.right (by assumption))).mono ?_; rintro e u1 ⟨y, rfl, hyl, hyo, hyi, hb1⟩; have HYL := Lib.hid hyl; have HYI := Lib.hid hyi.at; clear hyl hyo hyi) | (go_at_call 74; refine (show Calls _ _ _ _ _ from D2.out _ (by first | assumption | exact And.right (by assumption)) y HYI.out HYL.out).mono ?_; rintro e u2 ⟨t, rfl, htl, hto, hti, hb1⟩; have HTL := Lib.hid htl; have HTO := Lib.hid hto; have HTI := Lib.hid hti; clear htl hto hti))
    all_goals
      have HBF := Lib.hid (show Below W1.heap.size W1 u2 by first | assumption | exact And.right (by assumption))
      go_wp2
      go_ret2
      exact ⟨t, rfl, by rw [HTL.out, HL.out], HTO.out, HTI.out.wide hszW (Nat.le_refl _), HBW.out.trans (HBF.out.mono hszW)⟩

theorem farthestSites_pair (F : Fld) (k : Int) (_ : (Lit.int .i64 k).wf = true) (_ : F.Small) : ∃ (l : List Int) (b : Bool) (_ : l.length ≤ 1048576),
    (∀ (G : Fld) (W : World), G.At W → G.Like F → Calls Try.prog 33 #[G.val, .int .i64 k] W (PInts l b W)) ∧
    (∀ (G : Fld) (W : World), G.At W → G.Like F → Calls Try.prog 34 #[G.val, .int .i64 k] W (PInts l b W)) := by
  obtain ⟨l, b, h, hl⟩ := fsites_some F k
  exact ⟨l, b, hl, fun G W hG hlk => specFS_any G k W hG l b (fsites_like h hlk), fun G W hG hlk => implFS_any G k W hG l b (fsites_like h hlk)⟩
end Go.Proofs.Ytlnompeojhaigaa
