/- CoveringSites, the program's side. Condition: the Field reads as such. -/
import Derived.Test.YtjeodblaekdpkaaSiteSeq
import Derived.Test.YtjeodblaekdpkaaPairReachOf
import Derived.Test.YtjeodblaekdpkaaPairAreFarClients
import Derived.Test.YtjeodblaekdpkaaOwnAll
namespace Go.Proofs.Ytjeodblaekdpkaa
open Go.RowKit Go.Shelf
attribute [local go_sem] Oper.semAt_some

/-- Whether a set covers the radius. -/
def coversB (F : Fld) (r : Int) (T : List Nat) : Bool := decide (maxOf (lens F.t.con T) ≤ r)
def coverO (F : Fld) (r : Int) : Option (List Nat) := (allSets F.o.l.length).find? (coversB F r)
theorem covers_like {F G : Fld} (h : F.Like G) (r : Int) : coverO F r = coverO G r := by
  unfold coverO
  have : coversB F r = coversB G r := by funext T; unfold coversB; rw [h.2]
  rw [this, h.1]
def Covs (F : Fld) (r : Int) (l : List Int) (b : Bool) : Prop :=
  ((F.good && decide (0 ≤ r)) = false ∧ l = [] ∧ b = false) ∨ (F.good = true ∧ 0 ≤ r ∧ ((coverO F r = none ∧ l = [] ∧ b = false) ∨ ∃ T, coverO F r = some T ∧ l = up T ∧ b = true))
theorem covs_like {F G : Fld} {r : Int} {l : List Int} {b : Bool} (h : Covs F r l b) (hl : G.Like F) : Covs G r l b := by
  rcases h with ⟨h1, h2⟩ | ⟨h1, h2, h3⟩
  · exact .inl ⟨by rw [hl.good]; exact h1, h2⟩
  · exact .inr ⟨by rw [hl.good]; exact h1, h2, by rw [covers_like hl]; exact h3⟩
theorem covs_some (F : Fld) (r : Int) : ∃ l b, Covs F r l b ∧ l.length ≤ 1048576 := by
  by_cases h : (F.good && decide (0 ≤ r)) = true
  · simp only [Bool.and_eq_true, decide_eq_true_eq] at h
    cases hc : coverO F r with
    | none => exact ⟨_, _, .inr ⟨h.1, h.2, .inl ⟨hc, rfl, rfl⟩⟩, by simp⟩
    | some T =>
      refine ⟨_, _, .inr ⟨h.1, h.2, .inr ⟨T, hc, rfl, rfl⟩⟩, ?_⟩
      have hm := List.mem_of_find?_eq_some hc
      have := (all_ok (good_sizes h.1).2.1 hm).2.2
      rw [up_length]; omega
  · exact ⟨_, _, .inl ⟨by simpa using h, rfl, rfl⟩, by simp⟩
theorem covs_no {F : Fld} {r : Int} {l : List Int} {b : Bool} (h : Covs F r l b) (hn : (F.good && decide (0 ≤ r)) = false) : l = [] ∧ b = false := by
  rcases h with ⟨_, h⟩ | ⟨h1, h2, _⟩
  · exact h
  · rw [h1, decide_eq_true h2] at hn; cases hn
theorem covs_yes {F : Fld} {r : Int} {l : List Int} {b : Bool} (h : Covs F r l b) (hn : (F.good && decide (0 ≤ r)) = true) : (coverO F r = none ∧ l = [] ∧ b = false) ∨ ∃ T, coverO F r = some T ∧ l = up T ∧ b = true := by
  rcases h with ⟨h, _⟩ | ⟨_, _, h⟩
  · rw [hn] at h; cases h
  · exact h
/-- The first one of a list, by its place. -/
theorem find_at {α : Type} {p : α → Bool} {L : List α} {k : Nat} (hk : k < L.length) (h : ∀ i, (hi : i < k) → p (L[i]'(by omega)) = false) (hp : p L[k] = true) : L.find? p = some L[k] := by
  rw [List.find?_eq_some_iff_getElem]
  exact ⟨hp, k, hk, rfl, fun j hj => by rw [h j hj]; rfl⟩
theorem find_none {α : Type} {p : α → Bool} {L : List α} (h : ∀ i, (hi : i < L.length) → p L[i] = false) : L.find? p = none := by
  rw [List.find?_eq_none]
  intro x hx
  obtain ⟨i, hi, rfl⟩ := List.mem_iff_getElem.1 hx
  rw [h i hi]; simp

/-- No row at all. -/
def noRow : Row := ⟨none, 0, []⟩
theorem noRow_held (w : World) : noRow.Held w := ⟨.inl rfl, by unfold Row.In RowIn; exact ⟨Nat.le_refl _, Nat.zero_le _, .inl rfl⟩⟩
theorem results_cell2 {fn : Func} {p q : Tmp} {t u : TypeId} (h : fn.results = #[.cell p t, .cell q u]) {P : Program} (tmps : Array Value) (w : World) (a b : Addr) (x y : Value)
    (hp : tmps.getD p undef = .pointer (some a)) (hq : tmps.getD q undef = .pointer (some b)) (hx : (loadVar t a).run P w = .ok x w) (hy : (loadVar u b).run P w = .ok y w) :
    (results fn tmps).run P w = .ok (.tuple #[x, y]) w := by
  have hp' : tmps[p]?.getD undef = .pointer (some a) := by simpa using hp
  have hq' : tmps[q]?.getD undef = .pointer (some b) := by simpa using hq
  simp [results, h, hp', hq', asAddr, Sem.run_bind, hx, hy]

/-- How the search stands when it has found a set. -/
structure Found (B : Nat) (w : World) (p : List Nat → Bool) (C : List (List Nat)) (y : Row) (W : World) : Prop where
  set : ∃ T, C.find? p = some T ∧ y.l = up T
  b2 : Boxed W (B + 1 + 1) 22 (.slice y.a y.l.length y.c)
  b3 : Boxed W (B + 1 + 1 + 1) 4 (.bool true)
  bl : Below B w W
  ge : y.Ge B
theorem Found.keep {B M : Nat} {w : World} {p : List Nat → Bool} {C : List (List Nat)} {y : Row} {A A' : World} (h : Found B w p C y A) (hb : Below M A A') (hM : B + 1 + 1 + 1 + 1 ≤ M) : Found B w p C y A' :=
  ⟨h.set, (hb.block _ (by omega)).trans h.b2, (hb.block _ (by omega)).trans h.b3, h.bl.trans (hb.mono (by omega)), h.ge⟩

set_option maxRecDepth 100000 in
set_option maxHeartbeats 4000000 in
theorem implCover_in (n : Nat) (hn : 6 ≤ n) (F : Fld) (r : Int) (w : World) (hF : F.At w) (l : List Int) (b : Bool) (hv : Covs F r l b) :
    CallsIn Fence.wide n Try.prog 23 #[F.val, .int .i64 r] w (PInts l b w) := by
  have h1 : 1 ≤ n := by omega
  obtain ⟨wD, hD⟩ : ∃ u, u = (((w.alloc (Obj.cells #[F.o.val, F.t.val] 29)).alloc (.cells #[.int .i64 r] 3)).alloc (.cells #[.slice none 0 0] 22)).alloc (.cells #[.bool false] 4) := ⟨_, rfl⟩
  have hbD : Below w.heap.size w wD := by rw [hD]; exact (((((Below.refl _ w).alloc (Nat.le_refl _) _).alloc (by simp) _).alloc (by simp; omega) _).alloc (by simp; omega) _)
  have szD : wD.heap.size = w.heap.size + 1 + 1 + 1 + 1 := by rw [hD]; simp only [World.size_alloc]
  have bx : Box2 wD w.heap.size F.o.val F.t.val 29 := by rw [hD]; exact (((Box2.made w _ _ _).later _).later _).later _
  have br : Boxed wD (w.heap.size + 1) 3 (.int .i64 r) := by
    rw [hD]
    have := ((Boxed.new (w.alloc (Obj.cells #[F.o.val, F.t.val] 29)) 3 (.int .i64 r)).alloc (.cells #[.slice none 0 0] 22)).alloc (.cells #[.bool false] 4)
    simp only [World.size_alloc] at this; exact this
  have bs : Boxed wD (w.heap.size + 1 + 1) 22 (.slice none 0 0) := by
    rw [hD]
    have := (Boxed.new ((w.alloc (Obj.cells #[F.o.val, F.t.val] 29)).alloc (.cells #[.int .i64 r] 3)) 22 (.slice none 0 0)).alloc (.cells #[.bool false] 4)
    simp only [World.size_alloc] at this; exact this
  have bb : Boxed wD (w.heap.size + 1 + 1 + 1) 4 (.bool false) := by
    rw [hD]
    have := Boxed.new (((w.alloc (Obj.cells #[F.o.val, F.t.val] 29)).alloc (.cells #[.int .i64 r] 3)).alloc (.cells #[.slice none 0 0] 22)) 4 (.bool false)
    simp only [World.size_alloc] at this; exact this
  obtain ⟨g, hg⟩ : ∃ g, g = (F.good && decide (0 ≤ r)) := ⟨_, rfl⟩
  have CT := Lib.hid (by have := hasRadius_any F r wD (hF.on hbD); rw [← hg] at this; exact this)
  have HG := Lib.hid hg
  have HFD := Lib.hid (hF.on hbD)
  have HBX := Lib.hid bx
  have HBR := Lib.hid br
  have HBS := Lib.hid bs
  have HBB := Lib.hid bb
  have HD := Lib.hid hD
  have HBD := Lib.hid hbD
  have HSD := Lib.hid szD
  have HV := Lib.hid hv
  have x0 := bx.c0
  have x1 := bx.c1
  have x2 := br.cell
  rw [hD] at x0 x1 x2
  clear hF hD hbD bx br bs bb hg hv szD
  show CallsIn _ _ _ _ #[.agg #[F.o.val, F.t.val], _] w _
  refine callsIn_of_wp_marks Try.func23 rfl trivial ?_ rfl
  simp only [Try.ntmps23, List.size_toArray, List.length_cons, List.length_nil, Nat.reduceAdd, Nat.reduceSub, Array.replicate_succ, Array.replicate_zero, List.push_toArray, List.append_toArray, List.nil_append, List.cons_append]
  gi_wp2
  rw [← HD.out]
  refine ⟨trivial, (callsIn_wide.2 CT.out).mono ?_⟩
  rintro e W1 ⟨rfl, hb1⟩
  clear x0 x1 x2
  have HB1 := Lib.hid hb1
  have hsz1 := hb1.size
  have szD := HSD.out
  have bs1 : Boxed W1 (w.heap.size + 1 + 1) 22 (.slice none 0 0) := (hb1.block _ (by omega)).trans HBS.out
  have bb1 : Boxed W1 (w.heap.size + 1 + 1 + 1) 4 (.bool false) := (hb1.block _ (by omega)).trans HBB.out
  have HS1 := Lib.hid bs1
  have HBB1 := Lib.hid bb1
  clear hb1 bs1 bb1
  -- an empty answer: the boxes written, the row made
  have HNO : Hid (∀ u, Below wD.heap.size wD u → ∀ W', W' = ((u.alloc (.cells #[] 3)).setCell ⟨w.heap.size + 1 + 1, 0, none⟩ (.slice (some ⟨u.heap.size, 0, none⟩) 0 0)).setCell ⟨w.heap.size + 1 + 1 + 1, 0, none⟩ (.bool false) →
      Boxed W' (w.heap.size + 1 + 1) 22 (.slice (some ⟨u.heap.size, 0, none⟩) 0 0) ∧ Boxed W' (w.heap.size + 1 + 1 + 1) 4 (.bool false) ∧ Below w.heap.size w W' ∧ ∃ s : Row, Value.slice (some ⟨u.heap.size, 0, none⟩) 0 0 = .slice s.a s.l.length s.c ∧ s.l = [] ∧ s.Own 3 W' ∧ s.In w.heap.size W'.heap.size W') := Lib.hid fun u hu W' hW' => by
    have hus := hu.size
    have b2 : Boxed (u.alloc (.cells #[] 3)) (w.heap.size + 1 + 1) 22 (.slice none 0 0) := Boxed.alloc ((hu.block _ (by omega)).trans HBS.out) _
    have b3 : Boxed (u.alloc (.cells #[] 3)) (w.heap.size + 1 + 1 + 1) 4 (.bool false) := Boxed.alloc ((hu.block _ (by omega)).trans HBB.out) _
    obtain ⟨t, ht, htl, hto, hti⟩ := row_of_own (empty_own u)
    have hT : Touch (w.heap.size + 1 + 1) (w.heap.size + 1 + 1 + 1 + 1) (u.alloc (.cells #[] 3)) W' := by
      rw [hW']; exact ((Touch.refl _ _ _).set (Nat.le_refl _) (by omega) 0 _).set (by omega) (by omega) 0 _
    refine ⟨?_, ?_, ?_, t, ht, htl, hto.touch hti hT (.inr (by omega)), (hti.touch hT (.inr (by omega))).wide (by omega) hT.size⟩
    · rw [hW']; exact (b2.set _).kept (grownBy_setCell' _ (w.heap.size + 1 + 1 + 1) (.bool false)) (by intro e; injection e with e; omega)
    · rw [hW']
      have h6 : Boxed ((u.alloc (.cells #[] 3)).setCell ⟨w.heap.size + 1 + 1, 0, none⟩ (.slice (some ⟨u.heap.size, 0, none⟩) 0 0)) (w.heap.size + 1 + 1 + 1) 4 _ := b3.kept (grownBy_setCell' _ (w.heap.size + 1 + 1) _) (by intro e; injection e with e; omega)
      exact h6.set (.bool false)
    · exact ((HBD.out.trans (hu.mono HBD.out.size)).trans ((below_alloc u _).mono (by omega))).trans (hT.below (by omega) (by rw [size_alloc]; omega))
  cases g with
  | false =>
    obtain ⟨rfl, rfl⟩ := covs_no HV.out HG.out.symm
    have c2 := (HS1.out.alloc (.cells #[] 3)).cell
    have c3 := (HBB1.out.alloc (.cells #[] 3)).cell
    have f2 := (HS1.out.alloc (.cells #[] 3)).frozen
    have f3 := (HBB1.out.alloc (.cells #[] 3)).frozen
    gi_wp2
    obtain ⟨W', hW'⟩ : ∃ W', W' = ((W1.alloc (.cells #[] 3)).setCell ⟨w.heap.size + 1 + 1, 0, none⟩ (.slice (some ⟨W1.heap.size, 0, none⟩) 0 0)).setCell ⟨w.heap.size + 1 + 1 + 1, 0, none⟩ (.bool false) := ⟨_, rfl⟩
    rw [← hW']
    obtain ⟨r2, r3, hb, s, hs, hsl, hso, hsi⟩ := HNO.out W1 HB1.out W' hW'
    have d2 := r2.cell
    have d3 := r3.cell
    clear hW' c2 c3 f2 f3
    exact ⟨.tuple #[.slice (some ⟨W1.heap.size, 0, none⟩) 0 0, .bool false], by simp [results, Try.results23, go_sem, d2, d3], s, congrArg (fun v => Ending.returned (.tuple #[v, .bool false])) hs, hsl, hso, hsi, hb⟩
  | true =>
    have hgr : F.good = true ∧ 0 ≤ r := by have := HG.out.symm; simpa using this
    have hsz := good_sizes hgr.1
    obtain ⟨N, hN⟩ : ∃ N, N = F.o.l.length := ⟨_, rfl⟩
    have HN := Lib.hid hN
    have HGR := Lib.hid hgr.1
    have hN7 : N ≤ 7 := by omega
    have CS := Lib.hid (siteSets_any N W1)
    have y0 : W1.cell? ⟨w.heap.size, 0, none⟩ = some (.slice F.o.a N F.o.c) := by rw [hN]; exact (HBX.out.on HB1.out).c0
    clear hN hgr hsz
    gi_wp2
    refine ⟨trivial, (callsIn_wide.2 CS.out).mono ?_⟩
    rintro e W2 ⟨Bk, Bs, rfl, HK, HSS, hb2⟩
    have HB2 := Lib.hid (HB1.out.trans (hb2.mono HB1.out.size))
    have hsz2 := hb2.size
    clear y0 hb2
    gi_wp2
    have HSQ := Lib.hid (upTo_seqX (n - 1) (by omega) Bk Bs N N W2 hN7 (Nat.le_refl _) HK.out HSS.out 0 W2.heap.size (Nat.zero_le _) (World.block_lt_of_cell? W2 _ HSS.out))
    have HCL : Hid (((preS N N).map up).length = (allSets N).length) := Lib.hid (by rw [List.length_map]; rfl)
    have HCO : Hid (coverO F r = (allSets N).find? (coversB F r)) := Lib.hid (by unfold coverO; rw [HN.out])
    obtain ⟨I, hI⟩ : ∃ I : Nat → Row → World → Prop, I = fun k _ A => (∀ i, (hi : i < k) → ∀ h2 : i < (allSets N).length, coversB F r (allSets N)[i] = false) ∧ Below W2.heap.size W2 A := ⟨_, rfl⟩
    have HI : Hid (∀ k y A, I k y A ↔ ((∀ i, (hi : i < k) → ∀ h2 : i < (allSets N).length, coversB F r (allSets N)[i] = false) ∧ Below W2.heap.size W2 A)) := Lib.hid fun k y A => by rw [hI]
    obtain ⟨Sx, hSx⟩ : ∃ Sx : Code → Row → World → Prop, Sx = fun c y A => c = .ret ∧ Found w.heap.size w (coversB F r) (allSets N) y A := ⟨_, rfl⟩
    have HSX : Hid (∀ c y A, Sx c y A ↔ (c = .ret ∧ Found w.heap.size w (coversB F r) (allSets N) y A)) := Lib.hid fun c y A => by rw [hSx]
    clear hI hSx
    refine wpIn_rangeListsX (F := Fence.wide) rfl h1 (gf := 111) (lb := #[.pointer (some ⟨Bk, 0, none⟩), .pointer (some ⟨Bs, 0, none⟩)]) rfl trivial (enters_of Try.func111 (by kernel_rfl) rfl) HSQ.out (Below.refl _ _) rfl 0 0 (.inl (Nat.zero_le _)) (Nat.zero_le _)
      I (fun k y A B h hb => (HI.out _ _ _).2 ⟨((HI.out _ _ _).1 h).1, ((HI.out _ _ _).1 h).2.trans hb⟩)
      Sx (fun c y A B h hb => (HSX.out _ _ _).2 ⟨((HSX.out _ _ _).1 h).1, ((HSX.out _ _ _).1 h).2.keep hb (by omega)⟩)
      noRow ((HI.out _ _ _).2 ⟨fun i hi => absurd hi (Nat.not_lt_zero _), Below.refl _ _⟩) (noRow_held _)
      (fun x => { tmps := #[.agg #[F.o.val, F.t.val], .int .i64 r, .pointer (some ⟨w.heap.size, 0, none⟩), .pointer (some ⟨w.heap.size + 1, 0, none⟩), .pointer (some ⟨w.heap.size + 1 + 1, 0, none⟩), .pointer (some ⟨w.heap.size + 1 + 1 + 1, 0, none⟩), .slice x.a x.l.length x.c, undef, undef, .agg #[F.o.val, F.t.val], .int .i64 r, .bool true, .bool false, undef, .pointer (some ⟨w.heap.size, 0, none⟩), .slice F.o.a N F.o.c, .int .i64 N, .func (.func 111) #[] #[.pointer (some ⟨Bk, 0, none⟩), .pointer (some ⟨Bs, 0, none⟩)], .slice x.a x.l.length x.c, undef, undef, undef, undef, undef, undef, undef, undef, undef, undef, undef], defers := [] }) ?assign ?body ?done ?stop
    case assign =>
      intro l' x A K hK
      gi_wp2
      exact hK
    case body =>
      intro l' k y x A hk hx hIA hyH hxH hxI hszA
      obtain ⟨i1, i2⟩ := (HI.out _ _ _).1 hIA
      have hkC : k < (allSets N).length := by rw [HCL.out] at hk; exact hk
      have hxC : x.l = up (allSets N)[k] := by rw [hx, List.getElem_map]; rfl
      have hok := all_ok hN7 (List.getElem_mem hkC)
      have hbA := HB2.out.trans (i2.mono HB2.out.size)
      obtain ⟨v, hv⟩ : ∃ v, v = maxOf (lens F.t.con (allSets N)[k]) := ⟨_, rfl⟩
      have CL := Lib.hid (implReach_any F x A (HFD.out.on hbA) hxH.2.at v true (.inr ⟨(allSets N)[k], ⟨HGR.out, hxC, List.length_pos_iff.2 hok.1, by rw [← HN.out]; exact hok.2.1.2⟩, twoB_iff.2 ⟨HGR.out, by rw [← HN.out, hxC]; exact hok.2.1.1, by rw [hxC, up_length]; exact List.length_pos_iff.2 hok.1⟩, hv, rfl⟩))
      have x0 := (HBX.out.on hbA).c0
      have x1 := (HBX.out.on hbA).c1
      have HBA := Lib.hid hbA
      have HCV : Hid (coversB F r (allSets N)[k] = decide (v ≤ r)) := Lib.hid (by unfold coversB; rw [hv])
      have HI1 := Lib.hid i1
      have HI2 := Lib.hid i2
      have HXC := Lib.hid hxC
      have HXH := Lib.hid hxH
      have HXI := Lib.hid hxI
      have HYH := Lib.hid hyH
      clear hx hIA i1 i2 hxC hok hbA hv hyH hxH hxI
      gi_wp2
      refine ⟨trivial, fun _ => by omega, (callsIn_wide.2 CL.out).mono ?_⟩
      rintro e W3 ⟨rfl, hb3⟩
      have hb3D := HBA.out.trans (hb3.mono HBA.out.size)
      have HB3D := Lib.hid hb3D
      have HB3 := Lib.hid hb3
      have hsz3 := hb3.size
      have x2 := Boxed.cell (show Boxed W3 (w.heap.size + 1) 3 (.int .i64 r) from (hb3D.block _ (by omega)).trans HBR.out)
      have e2 : Boxed W3 (w.heap.size + 1 + 1) 22 (.slice none 0 0) := (hb3D.block _ (by omega)).trans HBS.out
      have e3 : Boxed W3 (w.heap.size + 1 + 1 + 1) 4 (.bool false) := (hb3D.block _ (by omega)).trans HBB.out
      have c2 := e2.cell
      have c3 := e3.cell
      have f2 := e2.frozen
      have f3 := e3.frozen
      have hszW2 : W2.heap.size ≤ A.heap.size := hszA
      by_cases hvr : v ≤ r
      · have HEND : Hid (∀ W', W' = (W3.setCell ⟨w.heap.size + 1 + 1, 0, none⟩ (.slice x.a x.l.length x.c)).setCell ⟨w.heap.size + 1 + 1 + 1, 0, none⟩ (.bool true) → RoundEndX W2.heap.size I Sx k y x 0 0 A .ret { tmps := #[], defers := [] } W') := Lib.hid fun W' hW' => by
          have hT : Touch (w.heap.size + 1 + 1) (w.heap.size + 1 + 1 + 1 + 1) W3 W' := by
            rw [hW']; exact ((Touch.refl _ _ _).set (Nat.le_refl _) (by omega) 0 _).set (by omega) (by omega) 0 _
          have hx3 := HXH.out.on hb3
          have hxi3 : x.In W2.heap.size W3.heap.size W3 := (HXI.out.on hb3).wide (Nat.le_refl _) hb3.size
          refine ⟨((Touch.of_below hb3).trans hT).wide (Nat.zero_le _) (by omega), x, .inr rfl, (HSX.out _ _ _).2 ⟨rfl, ⟨_, find_at hkC (fun i hi => HI1.out i hi (by omega)) (by rw [HCV.out]; simpa using hvr), HXC.out⟩, ?_, ?_, ?_, fun hl a ha => by have := in_ge HXI.out hl a ha; omega⟩, hx3.1.touch hxi3 hT (.inr (by omega)), (hxi3.touch hT (.inr (by omega))).wide (Nat.zero_le _) hT.size⟩
          · rw [hW']; exact (e2.set _).kept (grownBy_setCell' _ (w.heap.size + 1 + 1 + 1) (.bool true)) (by intro e; injection e with e; omega)
          · rw [hW']
            have h6 : Boxed (W3.setCell ⟨w.heap.size + 1 + 1, 0, none⟩ (.slice x.a x.l.length x.c)) (w.heap.size + 1 + 1 + 1) 4 _ := e3.kept (grownBy_setCell' _ (w.heap.size + 1 + 1) _) (by intro e; injection e with e; omega)
            exact h6.set (.bool true)
          · exact (HBD.out.trans (hb3D.mono HBD.out.size)).trans (hT.below (by omega) (by omega))
        have HE := Lib.hid (HEND.out _ rfl)
        clear HEND hb3 hb3D e2 e3
        gi_wp2
        exact HE.out
      · have HE : Hid (RoundEndX W2.heap.size I Sx k y x 0 0 A .normal { tmps := #[], defers := [] } W3) := Lib.hid ⟨Touch.of_below hb3, y, .inl rfl, (HI.out _ _ _).2 ⟨fun i hi h2 => by
            by_cases e : i = k
            · subst e; rw [HCV.out]; simpa using hvr
            · exact HI1.out i (by omega) h2, HI2.out.trans (hb3.mono hszW2)⟩, HYH.out.on hb3⟩
        clear hb3 hb3D e2 e3
        gi_wp2
        exact HE.out
    case done =>
      intro D y A hD hIA hyH hK
      obtain ⟨i1, i2⟩ := (HI.out _ _ _).1 hIA
      have hbA := HB2.out.trans (i2.mono HB2.out.size)
      have hl : l = [] ∧ b = false := by
        rcases covs_yes HV.out HG.out.symm with ⟨_, h⟩ | ⟨T, h, _⟩
        · exact h
        · rw [HCO.out, find_none (fun i hi => i1 i (by rw [HCL.out]; exact hi) hi)] at h; cases h
      obtain ⟨rfl, rfl⟩ := hl
      have e2 : Boxed A (w.heap.size + 1 + 1) 22 (.slice none 0 0) := (hbA.block _ (by omega)).trans HBS.out
      have e3 : Boxed A (w.heap.size + 1 + 1 + 1) 4 (.bool false) := (hbA.block _ (by omega)).trans HBB.out
      have c2 := (e2.alloc (.cells #[] 3)).cell
      have c3 := (e3.alloc (.cells #[] 3)).cell
      have f2 := (e2.alloc (.cells #[] 3)).frozen
      have f3 := (e3.alloc (.cells #[] 3)).frozen
      have HBA := Lib.hid hbA
      have HKK := Lib.hid hK
      have hDA : D < A.heap.size := (Array.getElem?_eq_some_iff.1 hK).1
      have hszW2 := i2.size
      clear hIA i1 i2 hyH hbA e2 e3 hK
      gi_wp2
      obtain ⟨W', hW'⟩ : ∃ W', W' = ((A.alloc (.cells #[] 3)).setCell ⟨w.heap.size + 1 + 1, 0, none⟩ (.slice (some ⟨A.heap.size, 0, none⟩) 0 0)).setCell ⟨w.heap.size + 1 + 1 + 1, 0, none⟩ (.bool false) := ⟨_, rfl⟩
      have hKW : W'.heap[D]? = some (.deferred (some [])) := by
        have h := (below_alloc A (.cells #[] 3)).block D hDA
        have hT : Touch (w.heap.size + 1 + 1) (w.heap.size + 1 + 1 + 1 + 1) (A.alloc (.cells #[] 3)) W' := by
          rw [hW']; exact ((Touch.refl _ _ _).set (Nat.le_refl _) (by omega) 0 _).set (by omega) (by omega) 0 _
        exact (hT.block D (by rw [size_alloc]; omega) (by omega)).trans (h.trans HKK.out)
      rw [← hW']
      obtain ⟨r2, r3, hb, s, hs, hsl, hso, hsi⟩ := HNO.out A HBA.out W' hW'
      have s2 : Boxed (W'.putObj D (.deferred none)) _ _ _ := (World.putObj_heap_other (by omega)).trans r2
      have s3 : Boxed (W'.putObj D (.deferred none)) _ _ _ := (World.putObj_heap_other (by omega)).trans r3
      have d2 := s2.cell
      have d3 := s3.cell
      have hh := held_put (y := s) ⟨hso, hsi.wide (Nat.zero_le _) (Nat.le_refl _)⟩ (.deferred none) hKW rfl
      have hge := in_ge hsi
      clear hW' c2 c3 f2 f3
      refine ⟨by simp, .inl ⟨_, _, rfl, run_takeDeferred hKW, ?_⟩⟩
      exact ⟨.tuple #[.slice (some ⟨A.heap.size, 0, none⟩) 0 0, .bool false], by simp [results, Try.results23, go_sem, d2, d3], s, congrArg (fun v => Ending.returned (.tuple #[v, .bool false])) hs, hsl, hh.1, held_in hh hge, hb.trans (put_below _ (by omega))⟩
    case stop =>
      intro D c y A hD hSA hyH hK
      obtain ⟨rfl, hfo⟩ := (HSX.out _ _ _).1 hSA
      obtain ⟨T, hT, hyl⟩ := hfo.set
      have hl : l = up T ∧ b = true := by
        rcases covs_yes HV.out HG.out.symm with ⟨h, _⟩ | ⟨T', h, h2⟩
        · rw [HCO.out, hT] at h; cases h
        · rw [HCO.out, hT] at h; cases h; exact h2
      obtain ⟨rfl, rfl⟩ := hl
      have hh := held_put hyH (.deferred none) hK rfl
      have s2 : Boxed (A.putObj D (.deferred none)) _ _ _ := (World.putObj_heap_other (by omega)).trans hfo.b2
      have s3 : Boxed (A.putObj D (.deferred none)) _ _ _ := (World.putObj_heap_other (by omega)).trans hfo.b3
      have d2 := s2.cell
      have d3 := s3.cell
      have HKK := Lib.hid hK
      have HYL := Lib.hid hyl
      clear hSA hT hyl hK hyH
      gi_wp2
      refine ⟨by simp, .inl ⟨_, _, rfl, run_takeDeferred HKK.out, ?_⟩⟩
      exact ⟨.tuple #[.slice y.a y.l.length y.c, .bool true], by simp [results, Try.results23, go_sem, d2, d3], y, rfl, HYL.out, hh.1, held_in hh hfo.ge, hfo.bl.trans (put_below _ (by omega))⟩

theorem implCover_any (F : Fld) (r : Int) (w : World) (hF : F.At w) (l : List Int) (b : Bool) (hv : Covs F r l b) :
    Calls Try.prog 23 #[F.val, .int .i64 r] w (PInts l b w) := callsIn_wide.1 (implCover_in 6 (Nat.le_refl _) F r w hF l b hv)
end Go.Proofs.Ytjeodblaekdpkaa
