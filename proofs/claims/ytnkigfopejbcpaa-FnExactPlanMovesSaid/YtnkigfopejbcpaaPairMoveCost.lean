/- MoveCost, on both sides. Condition: the arguments read as such. -/
import Derived.Test.YtnkigfopejbcpaaMoveImpl
import Derived.Test.YtnkigfopejbcpaaMoveSpec
namespace Go.Proofs.Ytnkigfopejbcpaa
open Go.RowKit Go.Shelf

def movedB (S : Sea) (a : Int) (s t : Row) : Bool :=
  S.good && ((decide (0 ≤ a) && decide (a ≤ (S.r.T.length : Int) - 1)) && (setB S.o.l.length s.l && canB S.o.l.length t.l (S.r.con.getD a.toNat [])))
theorem moves_of {S : Sea} {a : Int} {s t : Row} (h : movedB S a s t = true) : ∃ (i : Nat) (B T : List Nat), a = (i : Int) ∧ Moves S i s t B T := by
  unfold movedB at h
  simp only [Bool.and_eq_true, decide_eq_true_eq] at h
  obtain ⟨h1, ⟨h2, h3⟩, h4, h5⟩ := h
  unfold canB at h5
  simp only [Bool.and_eq_true, Bool.or_eq_true, decide_eq_true_eq] at h5
  obtain ⟨h5, h6⟩ := h5
  obtain ⟨B, hB, lB⟩ := set_nat h4
  obtain ⟨T, hT, lT⟩ := set_nat h5
  refine ⟨a.toNat, B, T, by omega, ⟨h1, by omega, hB, hT, lB, lT, set_nodup (by rw [← hB]; exact h4), set_nodup (by rw [← hT]; exact h5), ?_⟩⟩
  rw [hT, up_length] at h6
  exact h6
/-- What MoveCost answers. -/
def MoveAns (S : Sea) (a : Int) (s t : Row) (v : Int) (b : Bool) : Prop :=
  (movedB S a s t = false ∧ v = 0 ∧ b = false) ∨ (∃ (i : Nat) (B T : List Nat), a = (i : Int) ∧ Moves S i s t B T ∧ movedB S a s t = true ∧ v = moveC S.o.l S.x.l S.k.l (S.r.con.getD i []) B T ∧ b = true)
theorem moveAns_some (S : Sea) (a : Int) (s t : Row) : ∃ v b, MoveAns S a s t v b := by
  cases h : movedB S a s t with
  | false => exact ⟨0, false, .inl ⟨h, rfl, rfl⟩⟩
  | true =>
    obtain ⟨i, B, T, h1, h2⟩ := moves_of h
    exact ⟨_, true, .inr ⟨i, B, T, h1, h2, h, rfl, rfl⟩⟩
theorem Sea.Like.lenT {S G : Sea} (h : G.Like S) : G.r.T.length = S.r.T.length := by have := congrArg List.length h.2.2.2; rw [Cube.con_length, Cube.con_length] at this; exact this
theorem moveAns_like {S G : Sea} {a : Int} {s t s' t' : Row} {v : Int} {b : Bool} (h : MoveAns S a s t v b) (hl : G.Like S) (hs : s'.l = s.l) (ht : t'.l = t.l) : MoveAns G a s' t' v b := by
  have e : movedB G a s' t' = movedB S a s t := by unfold movedB; rw [hl.good, hl.lenT, hl.1, hl.2.2.2, hs, ht]
  unfold MoveAns
  rw [e]
  rcases h with h | ⟨i, B, T, h1, h2, h3, h4, h5⟩
  · exact .inl h
  · refine .inr ⟨i, B, T, h1, ⟨hl.good.trans h2.good, by rw [hl.lenT]; exact h2.round, hs.trans h2.before, ht.trans h2.set, by rw [hl.1]; exact h2.ltB, by rw [hl.1]; exact h2.ltT, h2.ndB, h2.ndT, by rw [hl.2.2.2]; exact h2.some⟩, h3, ?_, h5⟩
    rw [hl.1, hl.2.1, hl.2.2.1, hl.2.2.2]; exact h4

set_option maxRecDepth 16000 in
set_option maxHeartbeats 1500000 in
theorem specMove_any (S : Sea) (a : Int) (s t : Row) (w : World) (hS : S.At w) (hs : s.At w) (ht : t.At w) (v : Int) (b : Bool) (hv : MoveAns S a s t v b) :
    Calls Try.prog 18 #[.agg #[.slice S.o.a S.o.l.length S.o.c, .slice S.x.a S.x.l.length S.x.c, .slice S.k.a S.k.l.length S.k.c, .slice S.r.a S.r.T.length S.r.c], .int .i64 a, .slice s.a s.l.length s.c, .slice t.a t.l.length t.c] w (PInt v b w) := by
  unfold PInt
  obtain ⟨wA, hA, hbA, bx, hSA, hszA⟩ := laid_sea S w 28 hS
  have x0 := bx.c0
  have x1 := bx.c1
  have x2 := bx.c2
  have x3 := bx.c3
  rw [hA] at x0 x1 x2 x3
  have HA := Lib.hid hA
  have HBX := Lib.hid bx
  have HSA := Lib.hid hSA
  have HsA := Lib.hid (hs.on hbA)
  have HtA := Lib.hid (ht.on hbA)
  have hKi := cubeLim hS.2.2.2
  have hni := rowLim' hS.1
  have HBA := Lib.hid hbA
  obtain ⟨g0, hg0⟩ : ∃ g, g = S.good := ⟨_, rfl⟩
  obtain ⟨g1, hg1⟩ : ∃ g, g = (decide (0 ≤ a) && decide (a ≤ (S.r.T.length : Int) - 1)) := ⟨_, rfl⟩
  obtain ⟨g2, hg2⟩ : ∃ g, g = setB S.o.l.length s.l := ⟨_, rfl⟩
  obtain ⟨g3, hg3⟩ : ∃ g, g = canB S.o.l.length t.l (S.r.con.getD a.toNat []) := ⟨_, rfl⟩
  have HM : Hid (movedB S a s t = (g0 && (g1 && (g2 && g3)))) := Lib.hid (by unfold movedB; rw [hg0, hg1, hg2, hg3])
  have HF : Hid ((g0 && (g1 && (g2 && g3))) = false → v = 0 ∧ b = false) := Lib.hid fun e => by
    rcases hv with h | ⟨_, _, _, _, _, h, _⟩
    · exact h.2
    · rw [HM.out, e] at h; cases h
  have HTT : Hid ((g0 && (g1 && (g2 && g3))) = true → ∃ (i : Nat) (B T : List Nat), a = (i : Int) ∧ Moves S i s t B T ∧ v = moveC S.o.l S.x.l S.k.l (S.r.con.getD i []) B T ∧ b = true) := Lib.hid fun e => by
    rcases hv with h | ⟨i, B, T, h1, h2, _, h4, h5⟩
    · rw [HM.out, e] at h; cases h.1
    · exact ⟨i, B, T, h1, h2, h4, h5⟩
  have CG := Lib.hid (by have := l10Good_any S wA hSA; rw [← hg0] at this; exact this)
  have CI := Lib.hid (fun (u : World) => by have := l1In_any a 0 ((S.r.T.length : Int) - 1) u; rw [← hg1] at this; exact this)
  have CR := Lib.hid (fun (u : World) (hu : Below wA.heap.size wA u) => by have := rising_any s S.o.l.length u (HsA.out.on hu) hni; rw [← hg2] at this; exact this)
  have CM : Hid (∀ i : Nat, a = (i : Int) → i < S.r.T.length → ∀ u, Below wA.heap.size wA u → Calls Try.prog 41 #[.agg #[.slice S.o.a S.o.l.length S.o.c, .slice S.x.a S.x.l.length S.x.c, .slice S.k.a S.k.l.length S.k.c, .slice S.r.a S.r.T.length S.r.c], .int .i64 (i : Int), .slice t.a t.l.length t.c] u fun e w' => e = .returned (.bool g3) ∧ Below u.heap.size u w') := Lib.hid fun i hi hiK u hu => by
    have := l10May_any S i t u (HSA.out.on hu) (HtA.out.on hu) hiK
    rw [hg3, hi, Int.toNat_natCast]; exact this
  have HG1 := Lib.hid hg1
  clear hS hs ht hv hA bx hSA hszA hg0 hg1 hg2 hg3 HM hbA
  go_enter Try.func18, Try.ntmps18
  go_wp2_with fail
  rw [← HA.out]
  refine (show Calls _ _ _ _ _ from CG.out).mono ?_
  rintro e V1 ⟨rfl, hb1⟩
  have HB1 := Lib.hid hb1
  have HW1 := Lib.hid (HBA.out.trans (hb1.mono HBA.out.size))
  have y3 := (HBX.out.on hb1).c3
  clear x0 x1 x2 x3 hb1
  cases g0 with
  | false =>
    obtain ⟨rfl, rfl⟩ := HF.out rfl
    go_wp2
    go_ret2
    exact ⟨rfl, HW1.out⟩
  | true =>
    go_wp2_with fail
    refine (show Calls _ _ _ _ _ from CI.out V1).mono ?_
    rintro e V2 ⟨rfl, rfl⟩
    clear y3
    cases g1 with
    | false =>
      obtain ⟨rfl, rfl⟩ := HF.out rfl
      go_wp2
      go_ret2
      exact ⟨rfl, HW1.out⟩
    | true =>
      have hr := HG1.out.symm
      simp only [Bool.and_eq_true, decide_eq_true_eq] at hr
      obtain ⟨i, hi⟩ : ∃ i : Nat, a = (i : Int) := ⟨a.toNat, by omega⟩
      have hiK : i < S.r.T.length := by omega
      have CM1 := Lib.hid (CM.out i hi hiK)
      subst hi
      clear hr
      have y0 := (HBX.out.on HB1.out).c0
      have CR1 := Lib.hid (CR.out V2 HB1.out)
      go_wp2_with fail
      refine (show Calls _ _ _ _ _ from CR1.out).mono ?_
      rintro e V3 ⟨rfl, hdw⟩
      have HB3 := Lib.hid (HB1.out.trans (hdw.below.mono HB1.out.size))
      have HW3 := Lib.hid (HW1.out.trans (hdw.below.mono HW1.out.size))
      clear y0 hdw
      cases g2 with
      | false =>
        obtain ⟨rfl, rfl⟩ := HF.out rfl
        go_wp2
        go_ret2
        exact ⟨rfl, HW3.out⟩
      | true =>
        have y0 := (HBX.out.on HB3.out).c0
        have y1 := (HBX.out.on HB3.out).c1
        have y2 := (HBX.out.on HB3.out).c2
        have y3 := (HBX.out.on HB3.out).c3
        have CM2 := Lib.hid (CM1.out V3 HB3.out)
        go_wp2_with fail
        refine (show Calls _ _ _ _ _ from CM2.out).mono ?_
        rintro e V4 ⟨rfl, hb4⟩
        have HB4 := Lib.hid (HB3.out.trans (hb4.mono HB3.out.size))
        have HW4 := Lib.hid (HW3.out.trans (hb4.mono HW3.out.size))
        clear y0 y1 y2 y3 hb4
        cases g3 with
        | false =>
          obtain ⟨rfl, rfl⟩ := HF.out rfl
          go_wp2
          go_ret2
          exact ⟨rfl, HW4.out⟩
        | true =>
          obtain ⟨i', B, T, hi', hM, rfl, rfl⟩ := HTT.out rfl
          obtain rfl : i' = i := by omega
          have CX := Lib.hid (l10Move_any S i' s t B T V4 (HSA.out.on HB4.out) (HsA.out.on HB4.out) (HtA.out.on HB4.out) hM)
          have y0 := (HBX.out.on HB4.out).c0
          have y1 := (HBX.out.on HB4.out).c1
          have y2 := (HBX.out.on HB4.out).c2
          have y3 := (HBX.out.on HB4.out).c3
          clear hM
          go_wp2_with fail
          refine (show Calls _ _ _ _ _ from CX.out).mono ?_
          rintro e V5 ⟨rfl, hb5⟩
          go_wp2
          go_ret2
          exact ⟨rfl, HW4.out.trans (hb5.mono HW4.out.size)⟩

set_option maxRecDepth 16000 in
set_option maxHeartbeats 2000000 in
theorem implMove_any (S : Sea) (a : Int) (s t : Row) (w : World) (hS : S.At w) (hs : s.At w) (ht : t.At w) (v : Int) (b : Bool) (hv : MoveAns S a s t v b) :
    Calls Try.prog 20 #[.agg #[.slice S.o.a S.o.l.length S.o.c, .slice S.x.a S.x.l.length S.x.c, .slice S.k.a S.k.l.length S.k.c, .slice S.r.a S.r.T.length S.r.c], .int .i64 a, .slice s.a s.l.length s.c, .slice t.a t.l.length t.c] w (PInt v b w) := by
  unfold PInt
  obtain ⟨wA, hA, hbA, bx, hSA, hszA⟩ := laid_sea S w 28 hS
  have x0 := bx.c0
  have x1 := bx.c1
  have x2 := bx.c2
  have x3 := bx.c3
  rw [hA] at x0 x1 x2 x3
  have HA := Lib.hid hA
  have HBX := Lib.hid bx
  have HSA := Lib.hid hSA
  have HsA := Lib.hid (hs.on hbA)
  have HtA := Lib.hid (ht.on hbA)
  have hKi := cubeLim hS.2.2.2
  have hni := rowLim' hS.1
  have HBA := Lib.hid hbA
  obtain ⟨g0, hg0⟩ : ∃ g, g = S.good := ⟨_, rfl⟩
  obtain ⟨g1, hg1⟩ : ∃ g, g = (decide (0 ≤ a) && decide (a ≤ (S.r.T.length : Int) - 1)) := ⟨_, rfl⟩
  obtain ⟨g2, hg2⟩ : ∃ g, g = setB S.o.l.length s.l := ⟨_, rfl⟩
  obtain ⟨g3, hg3⟩ : ∃ g, g = canB S.o.l.length t.l (S.r.con.getD a.toNat []) := ⟨_, rfl⟩
  have HM : Hid (movedB S a s t = (g0 && (g1 && (g2 && g3)))) := Lib.hid (by unfold movedB; rw [hg0, hg1, hg2, hg3])
  have HF : Hid ((g0 && (g1 && (g2 && g3))) = false → v = 0 ∧ b = false) := Lib.hid fun e => by
    rcases hv with h | ⟨_, _, _, _, _, h, _⟩
    · exact h.2
    · rw [HM.out, e] at h; cases h
  have HTT : Hid ((g0 && (g1 && (g2 && g3))) = true → ∃ (i : Nat) (B T : List Nat), a = (i : Int) ∧ Moves S i s t B T ∧ v = moveC S.o.l S.x.l S.k.l (S.r.con.getD i []) B T ∧ b = true) := Lib.hid fun e => by
    rcases hv with h | ⟨i, B, T, h1, h2, _, h4, h5⟩
    · rw [HM.out, e] at h; cases h.1
    · exact ⟨i, B, T, h1, h2, h4, h5⟩
  have CG := Lib.hid (by have := implIsSeason_any S wA hSA; rw [← hg0] at this; exact this)
  have CR := Lib.hid (fun (u : World) (hu : Below wA.heap.size wA u) => (by have := ascends_any s S.o.l.length u (HsA.out.on hu) hni; rw [← hg2] at this; exact this.mono fun e w' ⟨h1, h2⟩ => ⟨h1, by rw [h2]; exact Below.refl _ _⟩ : Calls Try.prog 43 #[.slice s.a s.l.length s.c, .int .i64 (S.o.l.length : Int)] u fun e w' => e = .returned (.bool g2) ∧ Below u.heap.size u w'))
  have CO := Lib.hid (fun (u : World) (hu : Below wA.heap.size wA u) (X : Tab) (hX : X.At u) => canBeOpen_any S t X u (HSA.out.on hu) (HtA.out.on hu) hX)
  have HG1 := Lib.hid hg1
  have HG3 := Lib.hid hg3
  clear hS hs ht hv hA bx hSA hszA hg0 hg1 hg2 hg3 HM hbA
  go_enter Try.func20, Try.ntmps20
  go_wp2_with fail
  rw [← HA.out]
  refine (show Calls _ _ _ _ _ from CG.out).mono ?_
  rintro e V ⟨rfl, hb1⟩
  have HB1 := Lib.hid hb1
  have HW1 := Lib.hid (HBA.out.trans (hb1.mono HBA.out.size))
  have y3 := (HBX.out.on hb1).c3
  have hz1 := hb1.size
  clear x0 x1 x2 x3 hb1
  cases g0 with
  | false =>
    obtain ⟨rfl, rfl⟩ := HF.out rfl
    go_wp2
    go_ret2
    exact ⟨rfl, HW1.out⟩
  | true =>
    by_cases ha0 : a < 0
    · obtain rfl : g1 = false := by rw [HG1.out, decide_eq_false (by omega : ¬ 0 ≤ a)]; rfl
      obtain ⟨rfl, rfl⟩ := HF.out rfl
      go_wp2
      go_ret2
      exact ⟨rfl, HW1.out⟩
    by_cases haK : a ≥ (S.r.T.length : Int)
    · obtain rfl : g1 = false := by rw [HG1.out, decide_eq_false (by omega : ¬ a ≤ (S.r.T.length : Int) - 1), Bool.and_false]
      obtain ⟨rfl, rfl⟩ := HF.out rfl
      go_wp2
      go_ret2
      exact ⟨rfl, HW1.out⟩
    obtain rfl : g1 = true := by rw [HG1.out, decide_eq_true (by omega : 0 ≤ a), decide_eq_true (by omega : a ≤ (S.r.T.length : Int) - 1)]; rfl
    obtain ⟨i, hi⟩ : ∃ i : Nat, a = (i : Int) := ⟨a.toNat, by omega⟩
    have hiK : i < S.r.T.length := by omega
    subst hi
    have hiKi : (i : Int) < (S.r.T.length : Int) := by omega
    have hi0 : ¬ (i : Int) < 0 := ha0
    obtain ⟨cb, co, X, hca, hcl, hXA, hte⟩ := cube_cells HSA.out.2.2.2 HB1.out hiK
    have HX3 : Hid (g3 = canB S.o.l.length t.l X.con) := Lib.hid (by rw [HG3.out, Int.toNat_natCast, getD_cube hiK, ← hte])
    have CA := Lib.hid (fun (u : World) (hu : Below V.heap.size V u) => CR.out u (HB1.out.trans (hu.mono hz1)))
    have CB : Hid (∀ u, Below V.heap.size V u → Calls Try.prog 38 #[.agg #[.slice S.o.a S.o.l.length S.o.c, .slice S.x.a S.x.l.length S.x.c, .slice S.k.a S.k.l.length S.k.c, .slice (some ⟨cb, co, none⟩) S.r.T.length S.r.c], .slice t.a t.l.length t.c, .slice X.a X.R.length X.c] u fun e w' => e = .returned (.bool g3) ∧ Below u.heap.size u w') := Lib.hid fun u hu => by
      rw [HX3.out, ← hca]; exact CO.out u (HB1.out.trans (hu.mono hz1)) X (hXA.on hu)
    have HS : Hid (∀ u, Below V.heap.size V u → (((u.cell? ⟨w.heap.size, 0, none⟩ = some (.slice S.o.a S.o.l.length S.o.c) ∧ u.cell? ⟨w.heap.size, 1, none⟩ = some (.slice S.x.a S.x.l.length S.x.c) ∧ u.cell? ⟨w.heap.size, 2, none⟩ = some (.slice S.k.a S.k.l.length S.k.c) ∧ u.cell? ⟨w.heap.size, 3, none⟩ = some (.slice (some ⟨cb, co, none⟩) S.r.T.length S.r.c) ∧ u.cell? ⟨cb, co + i, none⟩ = some (.slice X.a X.R.length X.c)) ∧ Below V.heap.size V u))) := Lib.hid fun u hu => by
      have hbu := (HBX.out.on HB1.out).on hu
      exact ⟨⟨hbu.c0, hbu.c1, hbu.c2, by rw [← hca]; exact hbu.c3, (hu.cell (p := ⟨cb, co + i, none⟩) (World.block_lt_of_cell? _ _ hcl)).trans hcl⟩, hu⟩
    have s0 := HS.out V.drew (Below.refl _ _).drew
    clear hcl hXA hte hca ha0 haK
    cases g2 with
    | false =>
      obtain ⟨rfl, rfl⟩ := HF.out rfl
      go_wp2_with fail
      clear y3
      refine wp_region_held_drew (S := fun u => ((u.cell? ⟨w.heap.size, 0, none⟩ = some (.slice S.o.a S.o.l.length S.o.c) ∧ u.cell? ⟨w.heap.size, 1, none⟩ = some (.slice S.x.a S.x.l.length S.x.c) ∧ u.cell? ⟨w.heap.size, 2, none⟩ = some (.slice S.k.a S.k.l.length S.k.c) ∧ u.cell? ⟨w.heap.size, 3, none⟩ = some (.slice (some ⟨cb, co, none⟩) S.r.T.length S.r.c) ∧ u.cell? ⟨cb, co + i, none⟩ = some (.slice X.a X.R.length X.c)) ∧ Below V.heap.size V u)) (by kernel_rfl) s0 (fun hHeld => ?_)
      refine wpAnyH_take (i := 0) (v := ?vvF0) rfl (by kernel_rfl) (by kernel_rfl) (by kernel_rfl) (fun _ _ _ h => h) (Or.inl ⟨by rfl, ?hyF0⟩) (by assumption) ?restF0
      case hyF0 => (intro w hSw; (try dsimp only at hSw); (try simp only [List.getElem_toArray, List.getElem_cons_zero]); go_simp <;> with_reducible rfl)
      try simp only [Act.put, List.getElem_toArray, List.getElem_cons_zero, List.setIfInBounds_toArray, List.set_cons_zero, List.set_cons_succ]
      refine wpAnyH_take (i := 1) (v := ?vvF1) rfl (by kernel_rfl) (by kernel_rfl) (by kernel_rfl) (fun _ _ _ h => h) (Or.inl ⟨by rfl, ?hyF1⟩) (by assumption) ?restF1
      case hyF1 => (intro w hSw; (try dsimp only at hSw); (try simp only [List.getElem_toArray, List.getElem_cons_zero, List.getElem_cons_succ]); go_simp <;> with_reducible rfl)
      try simp only [Act.put, List.getElem_toArray, List.getElem_cons_zero, List.getElem_cons_succ, List.setIfInBounds_toArray, List.set_cons_zero, List.set_cons_succ]
      refine wpAnyH_take (i := 2) (v := ?vvF2) rfl (by kernel_rfl) (by kernel_rfl) (by kernel_rfl) (fun _ _ _ h => h) (Or.inl ⟨by rfl, ?hyF2⟩) (by assumption) ?restF2
      case hyF2 => (intro w hSw; (try dsimp only at hSw); (try simp only [List.getElem_toArray, List.getElem_cons_zero, List.getElem_cons_succ]); go_simp <;> with_reducible rfl)
      try simp only [Act.put, List.getElem_toArray, List.getElem_cons_zero, List.getElem_cons_succ, List.setIfInBounds_toArray, List.set_cons_zero, List.set_cons_succ]
      refine wpAnyH_take (i := 3) (v := ?vvF3) rfl (by kernel_rfl) (by kernel_rfl) (by kernel_rfl) (fun _ _ _ h => h) (Or.inl ⟨by rfl, ?hyF3⟩) (by assumption) ?restF3
      case hyF3 => (intro w hSw; (try dsimp only at hSw); (try simp only [List.getElem_toArray, List.getElem_cons_zero, List.getElem_cons_succ]); go_simp <;> with_reducible rfl)
      try simp only [Act.put, List.getElem_toArray, List.getElem_cons_zero, List.getElem_cons_succ, List.setIfInBounds_toArray, List.set_cons_zero, List.set_cons_succ]
      refine wpAnyH_ready (rs := [4]) (by kernel_rfl) (by simp) ?_
      refine AllReadyH.cons rfl (fun K hK => ?_) AllReadyH.nil
      try simp only [List.getElem_toArray, List.getElem_cons_zero, List.getElem_cons_succ]
      go_simp
      go_at_call 43
      refine (show Calls _ _ _ _ _ from CA.out _ (by first | assumption | exact And.right (by assumption))).mono ?_
      rintro e u1 ⟨rfl, hb1⟩
      have hB1 := keep_reg HS.out (by first | assumption | exact And.right (by assumption)) hb1
      go_wp2_with fail
      refine hK.out _ _ hB1 (fun hHeld1 => ?_)
      clear hK
      try simp only [Act.put, List.getElem_toArray, List.getElem_cons_zero, List.getElem_cons_succ, List.setIfInBounds_toArray, List.set_cons_zero, List.set_cons_succ]
      refine wpAnyH_take (i := 5) (v := ?vvF5) rfl (by kernel_rfl) (by kernel_rfl) (by kernel_rfl) (fun _ _ _ h => h) (Or.inl ⟨by rfl, ?hyF5⟩) (by assumption) ?restF5
      case hyF5 => (intro w hSw; (try dsimp only at hSw); (try simp only [List.getElem_toArray, List.getElem_cons_zero, List.getElem_cons_succ]); go_simp <;> with_reducible rfl)
      try simp only [Act.put, List.getElem_toArray, List.getElem_cons_zero, List.getElem_cons_succ, List.setIfInBounds_toArray, List.set_cons_zero, List.set_cons_succ]
      refine wpAnyH_take (i := 6) (v := ?vvF6) rfl (by kernel_rfl) (by kernel_rfl) (by kernel_rfl) (fun _ _ _ h => h) (Or.inl ⟨by rfl, ?hyF6⟩) (by assumption) ?restF6
      case hyF6 => (intro w hSw; (try dsimp only at hSw); (try simp only [List.getElem_toArray, List.getElem_cons_zero, List.getElem_cons_succ]); go_simp <;> with_reducible rfl)
      try simp only [Act.put, List.getElem_toArray, List.getElem_cons_zero, List.getElem_cons_succ, List.setIfInBounds_toArray, List.set_cons_zero, List.set_cons_succ]
      refine wpAnyH_take (i := 7) (v := undef) rfl (by kernel_rfl) (by kernel_rfl) (by kernel_rfl) (fun _ _ _ h => h) (Or.inr ⟨by rfl, rfl⟩) (by assumption) ?_
      try simp only [Act.put, List.getElem_toArray, List.getElem_cons_zero, List.getElem_cons_succ, List.setIfInBounds_toArray, List.set_cons_zero, List.set_cons_succ]
      refine wpAnyH_take (i := 8) (v := undef) rfl (by kernel_rfl) (by kernel_rfl) (by kernel_rfl) (fun _ _ _ h => h) (Or.inr ⟨by rfl, rfl⟩) (by assumption) ?_
      try simp only [Act.put, List.getElem_toArray, List.getElem_cons_zero, List.getElem_cons_succ, List.setIfInBounds_toArray, List.set_cons_zero, List.set_cons_succ]
      refine wpAnyH_take (i := 9) (v := undef) rfl (by kernel_rfl) (by kernel_rfl) (by kernel_rfl) (fun _ _ _ h => h) (Or.inr ⟨by rfl, rfl⟩) (by assumption) ?_
      try simp only [Act.put, List.getElem_toArray, List.getElem_cons_zero, List.getElem_cons_succ, List.setIfInBounds_toArray, List.set_cons_zero, List.set_cons_succ]
      refine wpAnyH_take (i := 10) (v := undef) rfl (by kernel_rfl) (by kernel_rfl) (by kernel_rfl) (fun _ _ _ h => h) (Or.inr ⟨by rfl, rfl⟩) (by assumption) ?_
      try simp only [Act.put, List.getElem_toArray, List.getElem_cons_zero, List.getElem_cons_succ, List.setIfInBounds_toArray, List.set_cons_zero, List.set_cons_succ]
      refine wpAnyH_take (i := 11) (v := undef) rfl (by kernel_rfl) (by kernel_rfl) (by kernel_rfl) (fun _ _ _ h => h) (Or.inr ⟨by rfl, rfl⟩) (by assumption) ?_
      try simp only [Act.put, List.getElem_toArray, List.getElem_cons_zero, List.getElem_cons_succ, List.setIfInBounds_toArray, List.set_cons_zero, List.set_cons_succ]
      refine wpAnyH_take (i := 12) (v := undef) rfl (by kernel_rfl) (by kernel_rfl) (by kernel_rfl) (fun _ _ _ h => h) (Or.inr ⟨by rfl, rfl⟩) (by assumption) ?_
      try simp only [Act.put, List.getElem_toArray, List.getElem_cons_zero, List.getElem_cons_succ, List.setIfInBounds_toArray, List.set_cons_zero, List.set_cons_succ]
      refine wpAnyH_take (i := 13) (v := undef) rfl (by kernel_rfl) (by kernel_rfl) (by kernel_rfl) (fun _ _ _ h => h) (Or.inr ⟨by rfl, rfl⟩) (by assumption) ?_
      try simp only [Act.put, List.getElem_toArray, List.getElem_cons_zero, List.getElem_cons_succ, List.setIfInBounds_toArray, List.set_cons_zero, List.set_cons_succ]
      refine wpAnyH_take (i := 14) (v := undef) rfl (by kernel_rfl) (by kernel_rfl) (by kernel_rfl) (fun _ _ _ h => h) (Or.inr ⟨by rfl, rfl⟩) (by assumption) ?_
      try simp only [Act.put, List.getElem_toArray, List.getElem_cons_zero, List.getElem_cons_succ, List.setIfInBounds_toArray, List.set_cons_zero, List.set_cons_succ]
      refine wpAnyH_take (i := 15) (v := undef) rfl (by kernel_rfl) (by kernel_rfl) (by kernel_rfl) (fun _ _ _ h => h) (Or.inr ⟨by rfl, rfl⟩) (by assumption) ?_
      try simp only [Act.put, List.getElem_toArray, List.getElem_cons_zero, List.getElem_cons_succ, List.setIfInBounds_toArray, List.set_cons_zero, List.set_cons_succ]
      refine wpAnyH_take (i := 16) (v := ?vvF16) rfl (by kernel_rfl) (by kernel_rfl) (by kernel_rfl) (fun _ _ _ h => h) (Or.inl ⟨by rfl, ?hyF16⟩) (by assumption) ?restF16
      case hyF16 => (intro w hSw; (try dsimp only at hSw); (try simp only [List.getElem_toArray, List.getElem_cons_zero, List.getElem_cons_succ]); go_simp <;> with_reducible rfl)
      try simp only [Act.put, List.getElem_toArray, List.getElem_cons_zero, List.getElem_cons_succ, List.setIfInBounds_toArray, List.set_cons_zero, List.set_cons_succ]
      refine wpAnyH_done (by kernel_rfl) ?_ _
      refine at_exit (W := V) (by first | assumption | exact And.right (by assumption)) ?_
      intro V8 hb8
      have HF8 := Lib.hid (HW1.out.trans (hb8.mono HW1.out.size))
      clear s0 hb8 hHeld hHeld1 hB1 hb1
      go_wp2
      go_ret2
      exact ⟨rfl, HF8.out⟩
    | true =>
      go_wp2_with fail
      clear y3
      refine wp_region_held_drew (S := fun u => ((u.cell? ⟨w.heap.size, 0, none⟩ = some (.slice S.o.a S.o.l.length S.o.c) ∧ u.cell? ⟨w.heap.size, 1, none⟩ = some (.slice S.x.a S.x.l.length S.x.c) ∧ u.cell? ⟨w.heap.size, 2, none⟩ = some (.slice S.k.a S.k.l.length S.k.c) ∧ u.cell? ⟨w.heap.size, 3, none⟩ = some (.slice (some ⟨cb, co, none⟩) S.r.T.length S.r.c) ∧ u.cell? ⟨cb, co + i, none⟩ = some (.slice X.a X.R.length X.c)) ∧ Below V.heap.size V u)) (by kernel_rfl) s0 (fun hHeld => ?_)
      refine wpAnyH_take (i := 0) (v := ?vvT0) rfl (by kernel_rfl) (by kernel_rfl) (by kernel_rfl) (fun _ _ _ h => h) (Or.inl ⟨by rfl, ?hyT0⟩) (by assumption) ?restT0
      case hyT0 => (intro w hSw; (try dsimp only at hSw); (try simp only [List.getElem_toArray, List.getElem_cons_zero]); go_simp <;> with_reducible rfl)
      try simp only [Act.put, List.getElem_toArray, List.getElem_cons_zero, List.setIfInBounds_toArray, List.set_cons_zero, List.set_cons_succ]
      refine wpAnyH_take (i := 1) (v := ?vvT1) rfl (by kernel_rfl) (by kernel_rfl) (by kernel_rfl) (fun _ _ _ h => h) (Or.inl ⟨by rfl, ?hyT1⟩) (by assumption) ?restT1
      case hyT1 => (intro w hSw; (try dsimp only at hSw); (try simp only [List.getElem_toArray, List.getElem_cons_zero, List.getElem_cons_succ]); go_simp <;> with_reducible rfl)
      try simp only [Act.put, List.getElem_toArray, List.getElem_cons_zero, List.getElem_cons_succ, List.setIfInBounds_toArray, List.set_cons_zero, List.set_cons_succ]
      refine wpAnyH_take (i := 2) (v := ?vvT2) rfl (by kernel_rfl) (by kernel_rfl) (by kernel_rfl) (fun _ _ _ h => h) (Or.inl ⟨by rfl, ?hyT2⟩) (by assumption) ?restT2
      case hyT2 => (intro w hSw; (try dsimp only at hSw); (try simp only [List.getElem_toArray, List.getElem_cons_zero, List.getElem_cons_succ]); go_simp <;> with_reducible rfl)
      try simp only [Act.put, List.getElem_toArray, List.getElem_cons_zero, List.getElem_cons_succ, List.setIfInBounds_toArray, List.set_cons_zero, List.set_cons_succ]
      refine wpAnyH_take (i := 3) (v := ?vvT3) rfl (by kernel_rfl) (by kernel_rfl) (by kernel_rfl) (fun _ _ _ h => h) (Or.inl ⟨by rfl, ?hyT3⟩) (by assumption) ?restT3
      case hyT3 => (intro w hSw; (try dsimp only at hSw); (try simp only [List.getElem_toArray, List.getElem_cons_zero, List.getElem_cons_succ]); go_simp <;> with_reducible rfl)
      try simp only [Act.put, List.getElem_toArray, List.getElem_cons_zero, List.getElem_cons_succ, List.setIfInBounds_toArray, List.set_cons_zero, List.set_cons_succ]
      refine wpAnyH_ready (rs := [4]) (by kernel_rfl) (by simp) ?_
      refine AllReadyH.cons rfl (fun K hK => ?_) AllReadyH.nil
      try simp only [List.getElem_toArray, List.getElem_cons_zero, List.getElem_cons_succ]
      go_simp
      go_at_call 43
      refine (show Calls _ _ _ _ _ from CA.out _ (by first | assumption | exact And.right (by assumption))).mono ?_
      rintro e u1 ⟨rfl, hb1⟩
      have hB1 := keep_reg HS.out (by first | assumption | exact And.right (by assumption)) hb1
      go_wp2_with fail
      refine hK.out _ _ hB1 (fun hHeld1 => ?_)
      clear hK
      try simp only [Act.put, List.getElem_toArray, List.getElem_cons_zero, List.getElem_cons_succ, List.setIfInBounds_toArray, List.set_cons_zero, List.set_cons_succ]
      refine wpAnyH_take (i := 5) (v := ?vvT5) rfl (by kernel_rfl) (by kernel_rfl) (by kernel_rfl) (fun _ _ _ h => h) (Or.inl ⟨by rfl, ?hyT5⟩) (by assumption) ?restT5
      case hyT5 => (intro w hSw; (try dsimp only at hSw); (try simp only [List.getElem_toArray, List.getElem_cons_zero, List.getElem_cons_succ]); go_simp <;> with_reducible rfl)
      try simp only [Act.put, List.getElem_toArray, List.getElem_cons_zero, List.getElem_cons_succ, List.setIfInBounds_toArray, List.set_cons_zero, List.set_cons_succ]
      refine wpAnyH_take (i := 6) (v := ?vvT6) rfl (by kernel_rfl) (by kernel_rfl) (by kernel_rfl) (fun _ _ _ h => h) (Or.inl ⟨by rfl, ?hyT6⟩) (by assumption) ?restT6
      case hyT6 => (intro w hSw; (try dsimp only at hSw); (try simp only [List.getElem_toArray, List.getElem_cons_zero, List.getElem_cons_succ]); go_simp <;> with_reducible rfl)
      try simp only [Act.put, List.getElem_toArray, List.getElem_cons_zero, List.getElem_cons_succ, List.setIfInBounds_toArray, List.set_cons_zero, List.set_cons_succ]
      refine wpAnyH_take (i := 7) (v := ?vvT7) rfl (by kernel_rfl) (by kernel_rfl) (by kernel_rfl) (fun _ _ _ h => h) (Or.inl ⟨by rfl, ?hyT7⟩) (by assumption) ?restT7
      case hyT7 => (intro w hSw; (try dsimp only at hSw); (try simp only [List.getElem_toArray, List.getElem_cons_zero, List.getElem_cons_succ]); go_simp <;> with_reducible rfl)
      try simp only [Act.put, List.getElem_toArray, List.getElem_cons_zero, List.getElem_cons_succ, List.setIfInBounds_toArray, List.set_cons_zero, List.set_cons_succ]
      refine wpAnyH_take (i := 8) (v := ?vvT8) rfl (by kernel_rfl) (by kernel_rfl) (by kernel_rfl) (fun _ _ _ h => h) (Or.inl ⟨by rfl, ?hyT8⟩) (by assumption) ?restT8
      case hyT8 => (intro w hSw; (try dsimp only at hSw); (try simp only [List.getElem_toArray, List.getElem_cons_zero, List.getElem_cons_succ]); go_simp <;> with_reducible rfl)
      try simp only [Act.put, List.getElem_toArray, List.getElem_cons_zero, List.getElem_cons_succ, List.setIfInBounds_toArray, List.set_cons_zero, List.set_cons_succ]
      refine wpAnyH_take (i := 9) (v := ?vvT9) rfl (by kernel_rfl) (by kernel_rfl) (by kernel_rfl) (fun _ _ _ h => h) (Or.inl ⟨by rfl, ?hyT9⟩) (by assumption) ?restT9
      case hyT9 => (intro w hSw; (try dsimp only at hSw); (try simp only [List.getElem_toArray, List.getElem_cons_zero, List.getElem_cons_succ]); go_simp <;> with_reducible rfl)
      try simp only [Act.put, List.getElem_toArray, List.getElem_cons_zero, List.getElem_cons_succ, List.setIfInBounds_toArray, List.set_cons_zero, List.set_cons_succ]
      refine wpAnyH_take (i := 10) (v := ?vvT10) rfl (by kernel_rfl) (by kernel_rfl) (by kernel_rfl) (fun _ _ _ h => h) (Or.inl ⟨by rfl, ?hyT10⟩) (by assumption) ?restT10
      case hyT10 => (intro w hSw; (try dsimp only at hSw); (try simp only [List.getElem_toArray, List.getElem_cons_zero, List.getElem_cons_succ]); go_simp <;> with_reducible rfl)
      try simp only [Act.put, List.getElem_toArray, List.getElem_cons_zero, List.getElem_cons_succ, List.setIfInBounds_toArray, List.set_cons_zero, List.set_cons_succ]
      refine wpAnyH_take (i := 11) (v := ?vvT11) rfl (by kernel_rfl) (by kernel_rfl) (by kernel_rfl) (fun _ _ _ h => h) (Or.inl ⟨by rfl, ?hyT11⟩) (by assumption) ?restT11
      case hyT11 => (intro w hSw; (try dsimp only at hSw); (try simp only [List.getElem_toArray, List.getElem_cons_zero, List.getElem_cons_succ]); go_simp <;> with_reducible rfl)
      try simp only [Act.put, List.getElem_toArray, List.getElem_cons_zero, List.getElem_cons_succ, List.setIfInBounds_toArray, List.set_cons_zero, List.set_cons_succ]
      refine wpAnyH_take (i := 12) (v := ?vvT12) rfl (by kernel_rfl) (by kernel_rfl) (by kernel_rfl) (fun _ _ _ h => h) (Or.inl ⟨by rfl, ?hyT12⟩) (by assumption) ?restT12
      case hyT12 => (intro w hSw; (try dsimp only at hSw); (try simp only [List.getElem_toArray, List.getElem_cons_zero, List.getElem_cons_succ]); go_simp <;> with_reducible rfl)
      try simp only [Act.put, List.getElem_toArray, List.getElem_cons_zero, List.getElem_cons_succ, List.setIfInBounds_toArray, List.set_cons_zero, List.set_cons_succ]
      refine wpAnyH_take (i := 13) (v := ?vvT13) rfl (by kernel_rfl) (by kernel_rfl) (by kernel_rfl) (fun _ _ _ h => h) (Or.inl ⟨by rfl, ?hyT13⟩) (by assumption) ?restT13
      case hyT13 => (intro w hSw; (try dsimp only at hSw); (try simp only [List.getElem_toArray, List.getElem_cons_zero, List.getElem_cons_succ]); go_simp <;> with_reducible rfl)
      try simp only [Act.put, List.getElem_toArray, List.getElem_cons_zero, List.getElem_cons_succ, List.setIfInBounds_toArray, List.set_cons_zero, List.set_cons_succ]
      refine wpAnyH_ready (rs := [14]) (by kernel_rfl) (by simp) ?_
      refine AllReadyH.cons rfl (fun K hK => ?_) AllReadyH.nil
      try simp only [List.getElem_toArray, List.getElem_cons_zero, List.getElem_cons_succ]
      go_simp
      go_at_call 38
      refine (show Calls _ _ _ _ _ from CB.out _ (by first | assumption | exact And.right (by assumption))).mono ?_
      rintro e u2 ⟨rfl, hb2⟩
      have hB2 := keep_reg HS.out (by first | assumption | exact And.right (by assumption)) hb2
      go_wp2_with fail
      refine hK.out _ _ hB2 (fun hHeld2 => ?_)
      clear hK
      try simp only [Act.put, List.getElem_toArray, List.getElem_cons_zero, List.getElem_cons_succ, List.setIfInBounds_toArray, List.set_cons_zero, List.set_cons_succ]
      refine wpAnyH_take (i := 15) (v := ?vvT15) rfl (by kernel_rfl) (by kernel_rfl) (by kernel_rfl) (fun _ _ _ h => h) (Or.inl ⟨by rfl, ?hyT15⟩) (by assumption) ?restT15
      case hyT15 => (intro w hSw; (try dsimp only at hSw); (try simp only [List.getElem_toArray, List.getElem_cons_zero, List.getElem_cons_succ]); go_simp <;> with_reducible rfl)
      try simp only [Act.put, List.getElem_toArray, List.getElem_cons_zero, List.getElem_cons_succ, List.setIfInBounds_toArray, List.set_cons_zero, List.set_cons_succ]
      refine wpAnyH_take (i := 16) (v := ?vvT16) rfl (by kernel_rfl) (by kernel_rfl) (by kernel_rfl) (fun _ _ _ h => h) (Or.inl ⟨by rfl, ?hyT16⟩) (by assumption) ?restT16
      case hyT16 => (intro w hSw; (try dsimp only at hSw); (try simp only [List.getElem_toArray, List.getElem_cons_zero, List.getElem_cons_succ]); go_simp <;> with_reducible rfl)
      try simp only [Act.put, List.getElem_toArray, List.getElem_cons_zero, List.getElem_cons_succ, List.setIfInBounds_toArray, List.set_cons_zero, List.set_cons_succ]
      refine wpAnyH_done (by kernel_rfl) ?_ _
      refine at_exit (W := V) (by first | assumption | exact And.right (by assumption)) ?_
      intro V8 hb8
      have HF8 := Lib.hid (HW1.out.trans (hb8.mono HW1.out.size))
      have HB8 := Lib.hid (HB1.out.trans (hb8.mono hz1))
      clear s0 hb8 hHeld hHeld1 hB1 hb1 hHeld2 hB2 hb2
      cases g3 with
      | false =>
        obtain ⟨rfl, rfl⟩ := HF.out rfl
        go_wp2
        go_ret2
        exact ⟨rfl, HF8.out⟩
      | true =>
        obtain ⟨i', B, T, hi', hM, rfl, rfl⟩ := HTT.out rfl
        obtain rfl : i' = i := by omega
        have CX := Lib.hid (moveCost_any S i' s t B T V8 (HSA.out.on HB8.out) (HsA.out.on HB8.out) (HtA.out.on HB8.out) hM)
        have y0 := (HBX.out.on HB8.out).c0
        have y1 := (HBX.out.on HB8.out).c1
        have y2 := (HBX.out.on HB8.out).c2
        have y3 := (HBX.out.on HB8.out).c3
        clear hM
        go_wp2_with fail
        refine (show Calls _ _ _ _ _ from CX.out).mono ?_
        rintro e V5 ⟨rfl, hb5⟩
        go_wp2
        go_ret2
        exact ⟨rfl, HF8.out.trans (hb5.mono HF8.out.size)⟩

theorem moveCost_pair (S : Sea) (a : Int) (s t : Row) {Q : Prop} (_ : Q) (_ : S.Small) (_ : s.l.length ≤ 1048576) (_ : t.l.length ≤ 1048576) : ∃ (v : Int) (b : Bool),
    (∀ (G : Sea) (s' t' : Row) (W : World), G.At W → s'.At W → t'.At W → G.Like S → s'.l = s.l → t'.l = t.l → Calls Try.prog 18 #[.agg #[.slice G.o.a G.o.l.length G.o.c, .slice G.x.a G.x.l.length G.x.c, .slice G.k.a G.k.l.length G.k.c, .slice G.r.a G.r.T.length G.r.c], .int .i64 a, .slice s'.a s'.l.length s'.c, .slice t'.a t'.l.length t'.c] W (PInt v b W)) ∧
    (∀ (G : Sea) (s' t' : Row) (W : World), G.At W → s'.At W → t'.At W → G.Like S → s'.l = s.l → t'.l = t.l → Calls Try.prog 20 #[.agg #[.slice G.o.a G.o.l.length G.o.c, .slice G.x.a G.x.l.length G.x.c, .slice G.k.a G.k.l.length G.k.c, .slice G.r.a G.r.T.length G.r.c], .int .i64 a, .slice s'.a s'.l.length s'.c, .slice t'.a t'.l.length t'.c] W (PInt v b W)) := by
  obtain ⟨v, b, h⟩ := moveAns_some S a s t
  exact ⟨v, b, fun G s' t' W hG hs ht hl e1 e2 => specMove_any G a s' t' W hG hs ht v b (moveAns_like h hl e1 e2), fun G s' t' W hG hs ht hl e1 e2 => implMove_any G a s' t' W hG hs ht v b (moveAns_like h hl e1 e2)⟩
end Go.Proofs.Ytnkigfopejbcpaa
