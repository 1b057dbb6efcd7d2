/- PlanProof on both sides. Condition: Season, plan and table read as such. -/
import Derived.Test.YtifgmbljimfebaaPlanCostImpl
import Derived.Test.YtifgmbljimfebaaPairArePotentials
namespace Go.Proofs.Ytifgmbljimfebaa
open Go.RowKit Go.Shelf

/-- What PlanProof answers. -/
def PProof (S : Sea) (P T : Tab) (v b : Bool) : Prop :=
  ∃ l, PMoves S P l b ∧ l.length ≤ 5 ∧ (∀ x ∈ l, 0 ≤ x ∧ x ≤ 1980) ∧ v = (b && ((tab10 S.o.l.length S.r.T.length T.con && safeB S T.con) && decide ((T.con.getD 0 []).getD 0 0 = l.sum)))
theorem pProof_some (S : Sea) (P T : Tab) : ∃ v b, PProof S P T v b := by
  obtain ⟨l, b, h1, h2, h3⟩ := pMoves_some S P
  exact ⟨_, b, l, h1, h2, h3, rfl⟩
theorem pProof_like {S G : Sea} {P Q T U : Tab} {v b : Bool} (h : PProof S P T v b) (hl : G.Like S) (hq : Q.con = P.con) (hu : U.con = T.con) : PProof G Q U v b := by
  obtain ⟨l, h1, h2, h3, h4⟩ := h
  refine ⟨l, pMoves_like h1 hl hq, h2, h3, ?_⟩
  rw [pot_like hl hu, hu]; exact h4
/-- The first cell of a table of potentials. -/
theorem proof_cells {T : Tab} {n K : Nat} {w : World} (hT : T.At w) (ht : tab10 n K T.con = true) : ∃ pb po rb ro rc q, T.a = some ⟨pb, po, none⟩ ∧ 0 < T.R.length ∧ 0 < q ∧
    ∀ u, Below w.heap.size w u → u.cell? ⟨pb, po, none⟩ = some (.slice (some ⟨rb, ro, none⟩) q rc) ∧ u.cell? ⟨rb, ro, none⟩ = some (.int .i64 ((T.con.getD 0 []).getD 0 0)) := by
  have h1 := (tab10_iff.1 ht).1
  rw [con_length] at h1
  have h0 : 0 < T.R.length := by omega
  obtain ⟨b, o, r, ha, hcl, hrA, hre⟩ := tab_cell hT h0
  have hrl : r.l = T.con.getD 0 [] := by rw [getD_con h0, ← hre]
  obtain ⟨g1, _⟩ := tab10_row ht (i := 0) (Nat.zero_le _)
  rw [← hrl] at g1 ⊢
  have hq : 0 < r.l.length := by rw [g1]; exact Nat.two_pow_pos n
  obtain ⟨rb, ro, hra, hc0⟩ := row_cell hrA (k := 0) hq
  refine ⟨b, o, rb, ro, r.c, r.l.length, ha, h0, hq, fun u hu => ⟨?_, ?_⟩⟩
  · rw [hra] at hcl
    exact (hu.cell (p := ⟨b, o, none⟩) (World.block_lt_of_cell? _ _ hcl)).trans hcl
  · exact (hu.cell (p := ⟨rb, ro, none⟩) (World.block_lt_of_cell? _ _ hc0)).trans hc0

set_option maxRecDepth 32000 in
set_option maxHeartbeats 1500000 in
theorem implProof_any (S : Sea) (P T : Tab) (w : World) (hS : S.At w) (hP : P.At w) (hT : T.At w) (v b : Bool) (hv : PProof S P T v b) :
    Calls Try.prog 16 #[.agg #[.slice S.o.a S.o.l.length S.o.c, .slice S.x.a S.x.l.length S.x.c, .slice S.k.a S.k.l.length S.k.c, .slice S.r.a S.r.T.length S.r.c], .slice P.a P.R.length P.c, .slice T.a T.R.length T.c] w fun e w' => e = .returned (.tuple #[.bool v, .bool b]) ∧ Below w.heap.size w w' := by
  obtain ⟨l, hm, h5, hb, hvv⟩ := hv
  obtain ⟨wA, hA, hbA, bx, hSA, hszA⟩ := laid_sea S w 31 hS
  have x0 := bx.c0
  have x1 := bx.c1
  have x2 := bx.c2
  have x3 := bx.c3
  rw [hA] at x0 x1 x2 x3
  have HA := Lib.hid hA
  have HH : Hid (∀ u, Below wA.heap.size wA u → SeaTab S T w.heap.size 0 u) := Lib.hid fun u hu => ⟨bx.on hu, hSA.on hu, (hT.on hbA).on hu⟩
  have CM := Lib.hid (show Calls _ _ _ _ (PInt l.sum b wA) from implPlanCost_any S P wA hSA (hP.on hbA) l b hm h5 hb)
  unfold PInt at CM
  obtain ⟨z, hz⟩ : ∃ z, z = (tab10 S.o.l.length S.r.T.length T.con && safeB S T.con) := ⟨_, rfl⟩
  obtain ⟨x, hx⟩ : ∃ x, x = (T.con.getD 0 []).getD 0 0 := ⟨_, rfl⟩
  obtain ⟨y, hy⟩ : ∃ y, y = l.sum := ⟨_, rfl⟩
  rw [← hy] at CM
  rw [← hz, ← hx, ← hy] at hvv
  have CT : Hid (b = true → ∀ u, Below wA.heap.size wA u → Calls Try.prog 12 #[.agg #[.slice S.o.a S.o.l.length S.o.c, .slice S.x.a S.x.l.length S.x.c, .slice S.k.a S.k.l.length S.k.c, .slice S.r.a S.r.T.length S.r.c], .slice T.a T.R.length T.c] u fun e w' => e = .returned (.tuple #[.bool z, .bool true]) ∧ Below u.heap.size u w') := Lib.hid fun h u hu => by
    have hg : S.good = true := by
      rcases hm with ⟨_, _, h'⟩ | ⟨h', _⟩
      · rw [h] at h'; cases h'
      · exact h'
    have := implPot_any S T u (HH.out u hu).sea (HH.out u hu).tab
    rw [hg, Bool.true_and, ← hz] at this; exact this
  have HC : Hid (z = true → ∃ pb po rb ro rc q, T.a = some ⟨pb, po, none⟩ ∧ 0 < T.R.length ∧ 0 < q ∧ ∀ u, Below wA.heap.size wA u → u.cell? ⟨pb, po, none⟩ = some (.slice (some ⟨rb, ro, none⟩) q rc) ∧ u.cell? ⟨rb, ro, none⟩ = some (.int .i64 x)) := Lib.hid fun h => by
    rw [hx]
    exact proof_cells (hT.on hbA) (by rw [h] at hz; exact (Bool.and_eq_true _ _ ▸ hz.symm).1)
  obtain ⟨pa, hpa⟩ : ∃ a, a = T.a := ⟨_, rfl⟩
  obtain ⟨M, hM⟩ : ∃ M, M = T.R.length := ⟨_, rfl⟩
  have HV := Lib.hid hvv
  have HBA := Lib.hid hbA
  rw [← hpa, ← hM] at CT HC
  rw [← hpa, ← hM]
  clear hS hP hT hA bx hSA hszA hbA hm h5 hb hvv hz hx hy hpa hM
  go_enter Try.func16, Try.ntmps16
  go_wp2_with fail
  rw [← HA.out]
  refine (show Calls _ _ _ _ _ from CM.out).mono ?_
  rintro e W1 ⟨rfl, hb1⟩
  have HB1 := Lib.hid hb1
  have HW1 := Lib.hid (HBA.out.trans (hb1.mono HBA.out.size))
  clear x0 x1 x2 x3 hb1
  cases b with
  | false =>
    obtain rfl : v = false := HV.out
    go_wp2
    go_ret2
    exact ⟨rfl, HW1.out⟩
  | true =>
    have b1 := (HH.out W1 HB1.out).box
    have y0 := b1.c0
    have y1 := b1.c1
    have y2 := b1.c2
    have y3 := b1.c3
    have CT1 := Lib.hid (CT.out (by first | rfl | trivial) W1 HB1.out)
    clear b1
    go_wp2_with fail
    refine (show Calls _ _ _ _ _ from CT1.out).mono ?_
    rintro e V ⟨rfl, hb2⟩
    have HB2 := Lib.hid (HB1.out.trans (hb2.mono HB1.out.size))
    have HW2 := Lib.hid (HW1.out.trans (hb2.mono HW1.out.size))
    clear y0 y1 y2 y3 hb2
    cases z with
    | false =>
      obtain rfl : v = false := HV.out
      go_wp2_with fail
      refine wp_region_held_drew (S := fun u => Below V.heap.size V u) (by kernel_rfl) (Below.refl _ _).drew (fun hHeld => ?_)
      refine wpAnyH_take (i := 0) (v := ?vvIF0) rfl (by kernel_rfl) (by kernel_rfl) (by kernel_rfl) (fun _ _ _ h => h) (Or.inl ⟨by rfl, ?hyIF0⟩) (by assumption) ?restIF0
      case hyIF0 => (intro w hSw; (try dsimp only at hSw); (try simp only [List.getElem_toArray, List.getElem_cons_zero]); go_simp <;> with_reducible rfl)
      try simp only [Act.put, List.getElem_toArray, List.getElem_cons_zero, List.setIfInBounds_toArray, List.set_cons_zero, List.set_cons_succ]
      refine wpAnyH_take (i := 1) (v := ?vvIF1) rfl (by kernel_rfl) (by kernel_rfl) (by kernel_rfl) (fun _ _ _ h => h) (Or.inl ⟨by rfl, ?hyIF1⟩) (by assumption) ?restIF1
      case hyIF1 => (intro w hSw; (try dsimp only at hSw); (try simp only [List.getElem_toArray, List.getElem_cons_zero, List.getElem_cons_succ]); go_simp <;> with_reducible rfl)
      try simp only [Act.put, List.getElem_toArray, List.getElem_cons_zero, List.getElem_cons_succ, List.setIfInBounds_toArray, List.set_cons_zero, List.set_cons_succ]
      refine wpAnyH_take (i := 2) (v := undef) rfl (by kernel_rfl) (by kernel_rfl) (by kernel_rfl) (fun _ _ _ h => h) (Or.inr ⟨by rfl, rfl⟩) (by assumption) ?_
      try simp only [Act.put, List.getElem_toArray, List.getElem_cons_zero, List.getElem_cons_succ, List.setIfInBounds_toArray, List.set_cons_zero, List.set_cons_succ]
      refine wpAnyH_take (i := 3) (v := undef) rfl (by kernel_rfl) (by kernel_rfl) (by kernel_rfl) (fun _ _ _ h => h) (Or.inr ⟨by rfl, rfl⟩) (by assumption) ?_
      try simp only [Act.put, List.getElem_toArray, List.getElem_cons_zero, List.getElem_cons_succ, List.setIfInBounds_toArray, List.set_cons_zero, List.set_cons_succ]
      refine wpAnyH_take (i := 4) (v := undef) rfl (by kernel_rfl) (by kernel_rfl) (by kernel_rfl) (fun _ _ _ h => h) (Or.inr ⟨by rfl, rfl⟩) (by assumption) ?_
      try simp only [Act.put, List.getElem_toArray, List.getElem_cons_zero, List.getElem_cons_succ, List.setIfInBounds_toArray, List.set_cons_zero, List.set_cons_succ]
      refine wpAnyH_take (i := 5) (v := undef) rfl (by kernel_rfl) (by kernel_rfl) (by kernel_rfl) (fun _ _ _ h => h) (Or.inr ⟨by rfl, rfl⟩) (by assumption) ?_
      try simp only [Act.put, List.getElem_toArray, List.getElem_cons_zero, List.getElem_cons_succ, List.setIfInBounds_toArray, List.set_cons_zero, List.set_cons_succ]
      refine wpAnyH_take (i := 6) (v := undef) rfl (by kernel_rfl) (by kernel_rfl) (by kernel_rfl) (fun _ _ _ h => h) (Or.inr ⟨by rfl, rfl⟩) (by assumption) ?_
      try simp only [Act.put, List.getElem_toArray, List.getElem_cons_zero, List.getElem_cons_succ, List.setIfInBounds_toArray, List.set_cons_zero, List.set_cons_succ]
      refine wpAnyH_take (i := 7) (v := undef) rfl (by kernel_rfl) (by kernel_rfl) (by kernel_rfl) (fun _ _ _ h => h) (Or.inr ⟨by rfl, rfl⟩) (by assumption) ?_
      try simp only [Act.put, List.getElem_toArray, List.getElem_cons_zero, List.getElem_cons_succ, List.setIfInBounds_toArray, List.set_cons_zero, List.set_cons_succ]
      refine wpAnyH_take (i := 8) (v := undef) rfl (by kernel_rfl) (by kernel_rfl) (by kernel_rfl) (fun _ _ _ h => h) (Or.inr ⟨by rfl, rfl⟩) (by assumption) ?_
      try simp only [Act.put, List.getElem_toArray, List.getElem_cons_zero, List.getElem_cons_succ, List.setIfInBounds_toArray, List.set_cons_zero, List.set_cons_succ]
      refine wpAnyH_take (i := 9) (v := undef) rfl (by kernel_rfl) (by kernel_rfl) (by kernel_rfl) (fun _ _ _ h => h) (Or.inr ⟨by rfl, rfl⟩) (by assumption) ?_
      try simp only [Act.put, List.getElem_toArray, List.getElem_cons_zero, List.getElem_cons_succ, List.setIfInBounds_toArray, List.set_cons_zero, List.set_cons_succ]
      refine wpAnyH_take (i := 10) (v := undef) rfl (by kernel_rfl) (by kernel_rfl) (by kernel_rfl) (fun _ _ _ h => h) (Or.inr ⟨by rfl, rfl⟩) (by assumption) ?_
      try simp only [Act.put, List.getElem_toArray, List.getElem_cons_zero, List.getElem_cons_succ, List.setIfInBounds_toArray, List.set_cons_zero, List.set_cons_succ]
      refine wpAnyH_take (i := 11) (v := ?vvIF11) rfl (by kernel_rfl) (by kernel_rfl) (by kernel_rfl) (fun _ _ _ h => h) (Or.inl ⟨by rfl, ?hyIF11⟩) (by assumption) ?restIF11
      case hyIF11 => (intro w hSw; (try dsimp only at hSw); (try simp only [List.getElem_toArray, List.getElem_cons_zero, List.getElem_cons_succ]); go_simp <;> with_reducible rfl)
      try simp only [Act.put, List.getElem_toArray, List.getElem_cons_zero, List.getElem_cons_succ, List.setIfInBounds_toArray, List.set_cons_zero, List.set_cons_succ]
      refine wpAnyH_take (i := 12) (v := ?vvIF12) rfl (by kernel_rfl) (by kernel_rfl) (by kernel_rfl) (fun _ _ _ h => h) (Or.inl ⟨by rfl, ?hyIF12⟩) (by assumption) ?restIF12
      case hyIF12 => (intro w hSw; (try dsimp only at hSw); (try simp only [List.getElem_toArray, List.getElem_cons_zero, List.getElem_cons_succ]); go_simp <;> with_reducible rfl)
      try simp only [Act.put, List.getElem_toArray, List.getElem_cons_zero, List.getElem_cons_succ, List.setIfInBounds_toArray, List.set_cons_zero, List.set_cons_succ]
      refine wpAnyH_take (i := 13) (v := ?vvIF13) rfl (by kernel_rfl) (by kernel_rfl) (by kernel_rfl) (fun _ _ _ h => h) (Or.inl ⟨by rfl, ?hyIF13⟩) (by assumption) ?restIF13
      case hyIF13 => (intro w hSw; (try dsimp only at hSw); (try simp only [List.getElem_toArray, List.getElem_cons_zero, List.getElem_cons_succ]); go_simp <;> with_reducible rfl)
      try simp only [Act.put, List.getElem_toArray, List.getElem_cons_zero, List.getElem_cons_succ, List.setIfInBounds_toArray, List.set_cons_zero, List.set_cons_succ]
      refine wpAnyH_done (by kernel_rfl) ?_ _
      refine at_exit (W := V) (by first | assumption | exact And.right (by assumption)) ?_
      intro V8 hb8
      have HF8 := Lib.hid (HW2.out.trans (hb8.mono HW2.out.size))
      clear hb8 hHeld
      go_wp2
      go_ret2
      exact ⟨rfl, HF8.out⟩
    | true =>
      obtain ⟨pb, po, rb, ro, rc, q, hpa, hM0, hq0, hcl⟩ := HC.out rfl
      have HS : Hid (∀ u, Below V.heap.size V u → ((u.cell? ⟨pb, po, none⟩ = some (.slice (some ⟨rb, ro, none⟩) q rc) ∧ u.cell? ⟨rb, ro, none⟩ = some (.int .i64 x)) ∧ Below V.heap.size V u)) := Lib.hid fun u hu => ⟨hcl u (HB2.out.trans (hu.mono HB2.out.size)), hu⟩
      have s0 := HS.out V.drew (Below.refl _ _).drew
      have CPL := Lib.hid ((placeOf_any ⟨some ⟨V.drew.heap.size, 0, none⟩, 0, []⟩ [] (V.drew.alloc (.cells #[] 3)) (empty_at _) rfl (by simp)).mono (fun e w' (h : _ ∧ w' = _) => (⟨h.1, by rw [h.2]; exact Below.refl _ _⟩ : e = .returned (.int .i64 (0 : Int)) ∧ Below (V.drew.alloc (.cells #[] 3)).heap.size (V.drew.alloc (.cells #[] 3)) w')))
      have hMi : (0 : Int) < (M : Int) := by omega
      have hqi : (0 : Int) < (q : Int) := by omega
      clear hcl
      subst hpa
      go_wp2_with fail
      refine wp_region_held_drew (S := fun u => ((u.cell? ⟨pb, po, none⟩ = some (.slice (some ⟨rb, ro, none⟩) q rc) ∧ u.cell? ⟨rb, ro, none⟩ = some (.int .i64 x)) ∧ Below V.heap.size V u)) (by kernel_rfl) s0 (fun hHeld => ?_)
      refine wpAnyH_take (i := 0) (v := ?vvIT0) rfl (by kernel_rfl) (by kernel_rfl) (by kernel_rfl) (fun _ _ _ h => h) (Or.inl ⟨by rfl, ?hyIT0⟩) (by assumption) ?restIT0
      case hyIT0 => (intro w hSw; (try dsimp only at hSw); (try simp only [List.getElem_toArray, List.getElem_cons_zero]); go_simp <;> with_reducible rfl)
      try simp only [Act.put, List.getElem_toArray, List.getElem_cons_zero, List.setIfInBounds_toArray, List.set_cons_zero, List.set_cons_succ]
      refine wpAnyH_take (i := 1) (v := ?vvIT1) rfl (by kernel_rfl) (by kernel_rfl) (by kernel_rfl) (fun _ _ _ h => h) (Or.inl ⟨by rfl, ?hyIT1⟩) (by assumption) ?restIT1
      case hyIT1 => (intro w hSw; (try dsimp only at hSw); (try simp only [List.getElem_toArray, List.getElem_cons_zero, List.getElem_cons_succ]); go_simp <;> with_reducible rfl)
      try simp only [Act.put, List.getElem_toArray, List.getElem_cons_zero, List.getElem_cons_succ, List.setIfInBounds_toArray, List.set_cons_zero, List.set_cons_succ]
      refine wpAnyH_take (i := 2) (v := ?vvIT2) rfl (by kernel_rfl) (by kernel_rfl) (by kernel_rfl) (fun _ _ _ h => h) (Or.inl ⟨by rfl, ?hyIT2⟩) (by assumption) ?restIT2
      case hyIT2 => (intro w hSw; (try dsimp only at hSw); (try simp only [List.getElem_toArray, List.getElem_cons_zero, List.getElem_cons_succ]); go_simp <;> with_reducible rfl)
      try simp only [Act.put, List.getElem_toArray, List.getElem_cons_zero, List.getElem_cons_succ, List.setIfInBounds_toArray, List.set_cons_zero, List.set_cons_succ]
      refine wpAnyH_take (i := 3) (v := ?vvIT3) rfl (by kernel_rfl) (by kernel_rfl) (by kernel_rfl) (fun _ _ _ h => h) (Or.inl ⟨by rfl, ?hyIT3⟩) (by assumption) ?restIT3
      case hyIT3 => (intro w hSw; (try dsimp only at hSw); (try simp only [List.getElem_toArray, List.getElem_cons_zero, List.getElem_cons_succ]); go_simp <;> with_reducible rfl)
      try simp only [Act.put, List.getElem_toArray, List.getElem_cons_zero, List.getElem_cons_succ, List.setIfInBounds_toArray, List.set_cons_zero, List.set_cons_succ]
      refine wpAnyH_take (i := 4) (v := ?vvIT4) rfl (by kernel_rfl) (by kernel_rfl) (by kernel_rfl) (fun _ _ _ h => h) (Or.inl ⟨by rfl, ?hyIT4⟩) (by assumption) ?restIT4
      case hyIT4 => (intro w hSw; (try dsimp only at hSw); (try simp only [List.getElem_toArray, List.getElem_cons_zero, List.getElem_cons_succ]); go_simp <;> with_reducible rfl)
      try simp only [Act.put, List.getElem_toArray, List.getElem_cons_zero, List.getElem_cons_succ, List.setIfInBounds_toArray, List.set_cons_zero, List.set_cons_succ]
      refine wpAnyH_take (i := 9) (v := ?vvIT9) rfl (by kernel_rfl) (by kernel_rfl) (by kernel_rfl) (fun _ _ _ h => h) (Or.inl ⟨by rfl, ?hyIT9⟩) (by assumption) ?restIT9
      case hyIT9 => (intro w hSw; (try dsimp only at hSw); (try simp only [List.getElem_toArray, List.getElem_cons_zero, List.getElem_cons_succ]); go_simp <;> with_reducible rfl)
      try simp only [Act.put, List.getElem_toArray, List.getElem_cons_zero, List.getElem_cons_succ, List.setIfInBounds_toArray, List.set_cons_zero, List.set_cons_succ]
      refine wpAnyH_ready (rs := [5]) (by kernel_rfl) (by simp) ?_
      refine AllReadyH.cons rfl (fun K hK => ?_) AllReadyH.nil
      try simp only [List.getElem_toArray, List.getElem_cons_zero, List.getElem_cons_succ]
      go_simp
      have hb1 := below_alloc V.drew (.cells #[] 3)
      have hB1 := keep_reg HS.out (by first | assumption | exact And.right (by assumption)) hb1
      go_wp2_with fail
      refine hK.out _ _ hB1 (fun hHeld1 => ?_)
      clear hK
      try simp only [Act.put, List.getElem_toArray, List.getElem_cons_zero, List.getElem_cons_succ, List.setIfInBounds_toArray, List.set_cons_zero, List.set_cons_succ]
      refine wpAnyH_ready (rs := [6]) (by kernel_rfl) (by simp) ?_
      refine AllReadyH.cons rfl (fun K hK => ?_) AllReadyH.nil
      try simp only [List.getElem_toArray, List.getElem_cons_zero, List.getElem_cons_succ]
      go_simp
      go_at_call 40
      refine (show Calls _ _ _ _ _ from CPL.out).mono ?_
      rintro e u2 ⟨rfl, hb2⟩
      have hB2 := keep_reg HS.out (by first | assumption | exact And.right (by assumption)) hb2
      go_wp2_with fail
      refine hK.out _ _ hB2 (fun hHeld2 => ?_)
      clear hK
      try simp only [Act.put, List.getElem_toArray, List.getElem_cons_zero, List.getElem_cons_succ, List.setIfInBounds_toArray, List.set_cons_zero, List.set_cons_succ]
      refine wpAnyH_take (i := 7) (v := ?vvIT7) rfl (by kernel_rfl) (by kernel_rfl) (by kernel_rfl) (fun _ _ _ h => h) (Or.inl ⟨by rfl, ?hyIT7⟩) (by assumption) ?restIT7
      case hyIT7 => (intro w hSw; (try dsimp only at hSw); (try simp only [List.getElem_toArray, List.getElem_cons_zero, List.getElem_cons_succ]); go_simp <;> with_reducible rfl)
      try simp only [Act.put, List.getElem_toArray, List.getElem_cons_zero, List.getElem_cons_succ, List.setIfInBounds_toArray, List.set_cons_zero, List.set_cons_succ]
      refine wpAnyH_take (i := 8) (v := ?vvIT8) rfl (by kernel_rfl) (by kernel_rfl) (by kernel_rfl) (fun _ _ _ h => h) (Or.inl ⟨by rfl, ?hyIT8⟩) (by assumption) ?restIT8
      case hyIT8 => (intro w hSw; (try dsimp only at hSw); (try simp only [List.getElem_toArray, List.getElem_cons_zero, List.getElem_cons_succ]); go_simp <;> with_reducible rfl)
      try simp only [Act.put, List.getElem_toArray, List.getElem_cons_zero, List.getElem_cons_succ, List.setIfInBounds_toArray, List.set_cons_zero, List.set_cons_succ]
      refine wpAnyH_take (i := 10) (v := ?vvIT10) rfl (by kernel_rfl) (by kernel_rfl) (by kernel_rfl) (fun _ _ _ h => h) (Or.inl ⟨by rfl, ?hyIT10⟩) (by assumption) ?restIT10
      case hyIT10 => (intro w hSw; (try dsimp only at hSw); (try simp only [List.getElem_toArray, List.getElem_cons_zero, List.getElem_cons_succ]); go_simp <;> with_reducible rfl)
      try simp only [Act.put, List.getElem_toArray, List.getElem_cons_zero, List.getElem_cons_succ, List.setIfInBounds_toArray, List.set_cons_zero, List.set_cons_succ]
      refine wpAnyH_take (i := 11) (v := ?vvIT11) rfl (by kernel_rfl) (by kernel_rfl) (by kernel_rfl) (fun _ _ _ h => h) (Or.inl ⟨by rfl, ?hyIT11⟩) (by assumption) ?restIT11
      case hyIT11 => (intro w hSw; (try dsimp only at hSw); (try simp only [List.getElem_toArray, List.getElem_cons_zero, List.getElem_cons_succ]); go_simp <;> with_reducible rfl)
      try simp only [Act.put, List.getElem_toArray, List.getElem_cons_zero, List.getElem_cons_succ, List.setIfInBounds_toArray, List.set_cons_zero, List.set_cons_succ]
      refine wpAnyH_take (i := 12) (v := ?vvIT12) rfl (by kernel_rfl) (by kernel_rfl) (by kernel_rfl) (fun _ _ _ h => h) (Or.inl ⟨by rfl, ?hyIT12⟩) (by assumption) ?restIT12
      case hyIT12 => (intro w hSw; (try dsimp only at hSw); (try simp only [List.getElem_toArray, List.getElem_cons_zero, List.getElem_cons_succ]); go_simp <;> with_reducible rfl)
      try simp only [Act.put, List.getElem_toArray, List.getElem_cons_zero, List.getElem_cons_succ, List.setIfInBounds_toArray, List.set_cons_zero, List.set_cons_succ]
      refine wpAnyH_take (i := 13) (v := ?vvIT13) rfl (by kernel_rfl) (by kernel_rfl) (by kernel_rfl) (fun _ _ _ h => h) (Or.inl ⟨by rfl, ?hyIT13⟩) (by assumption) ?restIT13
      case hyIT13 => (intro w hSw; (try dsimp only at hSw); (try simp only [List.getElem_toArray, List.getElem_cons_zero, List.getElem_cons_succ]); go_simp <;> with_reducible rfl)
      try simp only [Act.put, List.getElem_toArray, List.getElem_cons_zero, List.getElem_cons_succ, List.setIfInBounds_toArray, List.set_cons_zero, List.set_cons_succ]
      refine wpAnyH_done (by kernel_rfl) ?_ _
      refine at_exit (W := V) (by first | assumption | exact And.right (by assumption)) ?_
      intro V8 hb8
      have HF8 := Lib.hid (HW2.out.trans (hb8.mono HW2.out.size))
      clear hb8 hHeld s0
      go_wp2
      go_ret2
      exact ⟨by rw [HV.out]; rfl, HF8.out⟩
end Go.Proofs.Ytifgmbljimfebaa
