/- The iterator of those lists of another one that a function picks. Condition: the other one stands, and the function answers. -/
import Derived.Test.YtemflcegkebloaaSizeSeqL
namespace Go.Proofs.Ytemflcegkebloaa
open Go.RowKit Go.Shelf
attribute [local go_sem] Oper.semAt_some

def cntP (pk : List Nat → Bool) (C : List (List Nat)) (i : Nat) : Nat := ((C.take i).filter pk).length
theorem cntP_zero (pk : List Nat → Bool) (C : List (List Nat)) : cntP pk C 0 = 0 := by simp [cntP]
theorem cntP_all (pk : List Nat → Bool) (C : List (List Nat)) : cntP pk C C.length = (C.filter pk).length := by rw [cntP, List.take_length]
theorem cntP_no {pk : List Nat → Bool} {C : List (List Nat)} {i : Nat} (hi : i < C.length) (h : pk C[i] = false) : cntP pk C (i + 1) = cntP pk C i := by
  unfold cntP
  rw [List.take_succ_eq_append_getElem hi, List.filter_append]
  simp [h]
theorem cntP_yes {pk : List Nat → Bool} {C : List (List Nat)} {i : Nat} (hi : i < C.length) (h : pk C[i] = true) : cntP pk C (i + 1) = cntP pk C i + 1 := by
  unfold cntP
  rw [List.take_succ_eq_append_getElem hi, List.filter_append]
  simp [h]
theorem cntP_at {pk : List Nat → Bool} {C : List (List Nat)} {i : Nat} (hi : i < C.length) (h : pk C[i] = true) : ∃ q : cntP pk C i < (C.filter pk).length, (C.filter pk)[cntP pk C i] = C[i] := by
  have e : C.filter pk = (C.take i).filter pk ++ C[i] :: (C.drop (i + 1)).filter pk := by
    have e1 : C = C.take i ++ C[i] :: C.drop (i + 1) := by rw [← List.drop_eq_getElem_cons hi, List.take_append_drop]
    have e2 := congrArg (List.filter pk) e1
    rw [List.filter_append, List.filter_cons_of_pos h] at e2; exact e2
  have h1 : (C.filter pk)[cntP pk C i]? = some C[i] := by
    rw [e, List.getElem?_append_right (by unfold cntP; exact Nat.le_refl _)]
    simp [cntP]
  obtain ⟨q, hq⟩ := List.getElem?_eq_some_iff.1 h1
  exact ⟨q, hq⟩

set_option maxRecDepth 100000 in
set_option maxHeartbeats 4000000 in
theorem picked_seqX (n : Nat) (hn : 4 ≤ n) (Bl Bp gf : Nat) (lb : Array Value) (x0 x1 : Value) (C : List (List Nat)) (pk : List Nat → Bool) (w1 w0 : World) (heg : ∀ args w, (callFunc gf args).run Try.prog w = .ok (.enter gf args) w) (hseq : ListSeqX Fence.wide (n - 1) Try.prog gf lb (C.map up) 0 w1.heap.size w1) (hb01 : Below w1.heap.size w1 w0)
    (hBl : w0.cell? ⟨Bl, 0, none⟩ = some (.func (.func gf) #[] lb)) (hBp : w0.cell? ⟨Bp, 0, none⟩ = some (.func (.func 35) #[] #[x0, x1]))
    (CO : ∀ T ∈ C, ∀ (x : Row) (u : World), Below w0.heap.size w0 u → x.At u → x.l = up T → Calls Try.prog 35 #[.slice x.a x.l.length x.c, x0, x1] u fun e w' => e = .returned (.bool (pk T)) ∧ Below u.heap.size u w') :
    ListSeqX Fence.wide n Try.prog 55 #[.pointer (some ⟨Bl, 0, none⟩), .pointer (some ⟨Bp, 0, none⟩)] ((C.filter pk).map up) 0 w0.heap.size w0 := by
  intro l lo hi J S W y0 hW hlo hhi hJ hS hY h0 hy0
  have h1 : 1 ≤ n := by omega
  have hbl : Bl < w0.heap.size := World.block_lt_of_cell? w0 _ hBl
  have hbp : Bp < w0.heap.size := World.block_lt_of_cell? w0 _ hBp
  have hw0W := hW.size
  have hw10 := hb01.size
  have HW := Lib.hid hW
  have HB01 := Lib.hid hb01
  have HEG := Lib.hid heg
  have HSQ := Lib.hid hseq
  have HCO := Lib.hid CO
  have HY := Lib.hid hY
  have HJ := Lib.hid hJ
  have HS := Lib.hid hS
  have HBP := Lib.hid hBp
  have HL : Hid (((C.filter pk).map up).length = (C.filter pk).length) := Lib.hid (List.length_map _)
  have HLC : Hid ((C.map up).length = C.length) := Lib.hid (List.length_map _)
  have hlo1 : hi ≤ 0 ∨ w1.heap.size ≤ lo := by omega
  clear hY hJ hS heg hseq CO hBp hb01
  refine callsIn_of_wp_marks Try.func55 rfl trivial ?_ rfl
  simp only [Try.ntmps55, List.size_toArray, List.length_cons, List.length_nil, Nat.reduceAdd, Nat.reduceSub, Array.replicate_succ, Array.replicate_zero, List.push_toArray, List.append_toArray, List.nil_append, List.cons_append]
  have cBl : W.cell? ⟨Bl, 0, none⟩ = some (.func (.func gf) #[] lb) := (hW.cell (p := ⟨Bl, 0, none⟩) hbl).trans hBl
  have cBl1 : (W.alloc (.cells #[.func (.yield l) #[] #[]] 59)).cell? ⟨Bl, 0, none⟩ = some (.func (.func gf) #[] lb) := ((below_alloc W _).cell (p := ⟨Bl, 0, none⟩) (Nat.lt_of_lt_of_le hbl hw0W)).trans cBl
  clear cBl hBl hW
  gi_wp2
  obtain ⟨V, hV⟩ : ∃ V, W.alloc (.cells #[.func (.yield l) #[] #[]] 59) = V := ⟨_, rfl⟩
  have hBV : Below W.heap.size W V := by rw [← hV]; exact below_alloc _ _
  have szV : V.heap.size = W.heap.size + 1 := by rw [← hV]; simp only [World.size_alloc]
  have v2 : Boxed V W.heap.size 59 (.func (.yield l) #[] #[]) := by rw [← hV]; exact Boxed.new _ _ _
  have HV2 := Lib.hid v2.cell
  have HBW : Hid (Below w0.heap.size w0 V) := Lib.hid (HW.out.trans (hBV.mono hw0W))
  have HJ0 := Lib.hid (HJ.out _ _ _ _ h0 hBV)
  have HY0 := Lib.hid (hy0.on hBV)
  rw [hV]
  clear hV v2 cBl1 h0 hy0 hBV
  -- what holds between two rounds
  obtain ⟨I, hI⟩ : ∃ I : Nat → Row → World → Prop, I = fun i y A => J (cntP pk C i) y A ∧ A.heap[W.heap.size]? = V.heap[W.heap.size]? ∧ Below w0.heap.size w0 A ∧ V.heap.size ≤ A.heap.size := ⟨_, rfl⟩
  have HI : Hid (∀ i y A, I i y A ↔ (J (cntP pk C i) y A ∧ A.heap[W.heap.size]? = V.heap[W.heap.size]? ∧ Below w0.heap.size w0 A ∧ V.heap.size ≤ A.heap.size)) := Lib.hid fun i y A => by rw [hI]
  obtain ⟨Sx, hSx⟩ : ∃ Sx : Code → Row → World → Prop, Sx = fun c y A => c = .ret ∧ S y A ∧ V.heap.size ≤ A.heap.size := ⟨_, rfl⟩
  have HSX : Hid (∀ c y A, Sx c y A ↔ (c = .ret ∧ S y A ∧ V.heap.size ≤ A.heap.size)) := Lib.hid fun c y A => by rw [hSx]
  have HI0 : Hid (I 0 y0 V) := Lib.hid ((HI.out 0 y0 V).2 ⟨by rw [cntP_zero]; exact HJ0.out, rfl, HBW.out, Nat.le_refl _⟩)
  clear hI hSx
  refine wpIn_rangeListsX (F := Fence.wide) rfl h1 (gf := gf) (lb := lb) rfl trivial HEG.out HSQ.out (HB01.out.trans (HBW.out.mono hw10)) rfl lo hi hlo1 (by omega)
    I (fun i y' A A' h hb => (HI.out _ _ _).2 (by
      obtain ⟨i1, i2, i3, i4⟩ := (HI.out _ _ _).1 h
      exact ⟨HJ.out _ _ _ _ i1 (hb.mono (by omega)), (hb.block _ (by omega)).trans i2, i3.trans (hb.mono (by omega)), Nat.le_trans i4 hb.size⟩))
    Sx (fun c y' A A' h hb => (HSX.out _ _ _).2 (by
      obtain ⟨i1, i2, i3⟩ := (HSX.out _ _ _).1 h
      exact ⟨i1, HS.out _ _ _ i2 (hb.mono (by omega)), Nat.le_trans i3 hb.size⟩)) y0 HI0.out HY0.out
    (fun x => { tmps := #[.func (.yield l) #[] #[], .pointer (some ⟨Bl, 0, none⟩), .pointer (some ⟨Bp, 0, none⟩), .pointer (some ⟨W.heap.size, 0, none⟩), .slice x.a x.l.length x.c, .func (.func gf) #[] lb, .slice x.a x.l.length x.c, undef, undef, undef, undef, undef, undef, undef, undef, undef], defers := [] }) ?assign ?body ?done ?stop
  case assign =>
    intro l' x A K hK
    gi_wp2
    exact hK
  case body =>
    intro l' i y' x A hi' hx hIA hyH hxH hxI hszA
    obtain ⟨i1, i2, i3, i4⟩ := (HI.out _ _ _).1 hIA
    have hiC : i < C.length := by rw [HLC.out] at hi'; exact hi'
    have hxC : x.l = up C[i] := by rw [hx, List.getElem_map]
    obtain ⟨v, hv⟩ : ∃ v, v = pk C[i] := ⟨_, rfl⟩
    have CL := Lib.hid (by
      have := HCO.out C[i] (List.getElem_mem hiC) x A i3 hxH.2.at hxC
      rw [← hv] at this; exact this)
    have c3 : A.cell? ⟨W.heap.size, 0, none⟩ = some (.func (.yield l) #[] #[]) := (World.cell?_of_block (a := ⟨W.heap.size, 0, none⟩) i2).trans HV2.out
    have c2 : A.cell? ⟨Bp, 0, none⟩ = some (.func (.func 35) #[] #[x0, x1]) := (i3.cell (p := ⟨Bp, 0, none⟩) hbp).trans HBP.out
    have HC3 := Lib.hid c3
    have H1 := Lib.hid i1
    have H2 := Lib.hid i2
    have H3 := Lib.hid i3
    have HYH := Lib.hid hyH
    have HXH := Lib.hid hxH
    have HXI := Lib.hid hxI
    have HXC := Lib.hid hxC
    have h1' : 1 ≤ n - 1 - 1 := by omega
    cases v with
    | false =>
      have HN : Hid (cntP pk C (i + 1) = cntP pk C i) := Lib.hid (cntP_no hiC hv.symm)
      clear hv hx hIA hyH hxH hxI hxC i1 i2 i3 c3
      gi_wp2
      refine ⟨trivial, (callsIn_wide.2 CL.out).mono ?_⟩
      rintro e W2 ⟨rfl, hb2⟩
      have hs2 := hb2.size
      have HEND : Hid (RoundEndX V.heap.size I Sx i y' x lo hi A .normal { tmps := #[], defers := [] } W2) := Lib.hid ⟨Touch.of_below hb2, y', .inl rfl, (HI.out _ _ _).2 ⟨by rw [HN.out]; exact HJ.out _ _ _ _ H1.out (hb2.mono (by omega)), (hb2.block _ (by omega)).trans H2.out, H3.out.trans (hb2.mono (by omega)), by omega⟩, HYH.out.on hb2⟩
      clear hb2 c2
      gi_wp2
      refine ⟨fun f hf => (by cases hf), ?_⟩
      gi_wp2
      exact HEND.out
    | true =>
      have HN : Hid (cntP pk C (i + 1) = cntP pk C i + 1) := Lib.hid (cntP_yes hiC hv.symm)
      obtain ⟨hq, hqe⟩ := cntP_at hiC hv.symm
      have hkL : cntP pk C i < ((C.filter pk).map up).length := by rw [HL.out]; exact hq
      have hxL : x.l = ((C.filter pk).map up)[cntP pk C i] := by rw [hxC, List.getElem_map, hqe]
      have HXL : Hid (∃ h : cntP pk C i < ((C.filter pk).map up).length, x.l = ((C.filter pk).map up)[cntP pk C i]) := Lib.hid ⟨hkL, hxL⟩
      clear hv hx hIA hyH hxH hxI hxC i1 i2 i3 hq hqe hkL hxL
      gi_wp2
      refine ⟨trivial, (callsIn_wide.2 CL.out).mono ?_⟩
      rintro e W2 ⟨rfl, hb2⟩
      have hs2 := hb2.size
      have HB2 := Lib.hid hb2
      have c32 : W2.cell? ⟨W.heap.size, 0, none⟩ = some (.func (.yield l) #[] #[]) := (hb2.cell (p := ⟨W.heap.size, 0, none⟩) (by simp only; omega)).trans HC3.out
      obtain ⟨hkL, hxL⟩ := HXL.out
      obtain ⟨fn, tmps, asg, bd, hyl, hRnd⟩ := HY.out _ y' x W2 hkL hxL (HJ.out _ _ _ _ H1.out (hb2.mono (by omega))) (HYH.out.on hb2) (HXH.out.on hb2) (((HXI.out.on hb2).wide (by omega) hb2.size)) (by omega)
      have HRnd := Lib.hid hRnd
      clear hRnd hb2 c2 c3 hkL hxL
      gi_wp2
      refine (round_wide HRnd.out).mono ?_
      rintro e V3 ⟨y'', hy'', hH3, ⟨rfl, ht3, hJ3⟩ | ⟨rfl, ht3, hS3⟩⟩
      case inr =>
        have hs3 := ht3.size
        have HEND : Hid (RoundEndX V.heap.size I Sx i y' x lo hi A .ret { tmps := #[], defers := [] } V3) := Lib.hid ⟨(Touch.of_below HB2.out).trans (ht3.wide (Nat.le_refl _) (by omega)), y'', hy'', (HSX.out _ _ _).2 ⟨rfl, hS3, by omega⟩, hH3⟩
        clear ht3 hy'' hS3 hH3 hs3
        gi_wp2
        exact HEND.out
      have hs3 := ht3.size
      have HEND : Hid (RoundEndX V.heap.size I Sx i y' x lo hi A .normal { tmps := #[], defers := [] } V3) := Lib.hid ⟨(Touch.of_below HB2.out).trans ht3, y'', hy'', (HI.out _ _ _).2 ⟨by rw [HN.out]; exact hJ3, (ht3.block _ (by omega) (by omega)).trans ((HB2.out.block _ (by omega)).trans H2.out), (H3.out.trans (HB2.out.mono (by omega))).trans ⟨ht3.os, ht3.tape, ht3.output, ht3.size, fun b hb => ht3.block b (by omega) (by omega)⟩, by omega⟩, hH3⟩
      clear ht3 hy'' hJ3 hH3 hs3
      gi_wp2
      exact HEND.out
  case done =>
    intro D y' A hD hIA hyH hK
    obtain ⟨i1, i2, i3, i4⟩ := (HI.out _ _ _).1 hIA
    have HA := Lib.hid i1
    have HYY := Lib.hid hyH
    have HMK : Hid (Marks (W.heap.size + 1) [{ target := .collected D, args := #[] }] A) := Lib.hid (Marks.push (ds := []) ⟨fun d hd => (by cases hd), List.Pairwise.nil⟩ rfl (by omega) hK (fun e he => by cases he))
    clear hIA i1 i2 i3 hyH hK
    gi_wp2
    refine leaves_marks (B := W.heap.size + 1) rfl (fun A => J (cntP pk C (C.map up).length) y' A ∧ y'.Held A) ?_ ?_ _ A HMK.out ⟨HA.out, HYY.out⟩
    · rintro A D hD hA ⟨a1, a2⟩
      exact ⟨HJ.out _ _ _ _ a1 (put_below _ (by omega)), held_put a2 _ hA rfl⟩
    · rintro v A ⟨a1, a2⟩
      exact ⟨⟨_, rfl⟩, y', a2, .inl (by rw [HL.out]; rw [HLC.out, cntP_all] at a1; exact a1)⟩
  case stop =>
    intro D c y' A hD hSA hyH hK
    obtain ⟨rfl, i2, i4⟩ := (HSX.out _ _ _).1 hSA
    have HMK : Hid (Marks (W.heap.size + 1) [{ target := .collected D, args := #[] }] A) := Lib.hid (Marks.push (ds := []) ⟨fun d hd => (by cases hd), List.Pairwise.nil⟩ rfl (by omega) hK (fun e he => by cases he))
    have HSS := Lib.hid i2
    have HYY := Lib.hid hyH
    clear hSA i2 hyH hK
    gi_wp2
    refine leaves_marks (B := W.heap.size + 1) rfl (fun A => S y' A ∧ y'.Held A) ?_ ?_ _ A HMK.out ⟨HSS.out, HYY.out⟩
    · rintro A D hD hA ⟨a1, a2⟩
      exact ⟨HS.out _ _ _ a1 (put_below _ (by omega)), held_put a2 _ hA rfl⟩
    · rintro v A ⟨a1, a2⟩
      exact ⟨⟨_, rfl⟩, y', a2, .inr a1⟩

set_option maxHeartbeats 1000000 in
theorem pickedFrom_any (gf hf : Nat) (lb hb : Array Value) (w : World) :
    Calls Try.prog 33 #[.func (.func gf) #[] lb, .func (.func hf) #[] hb] w fun e w' => e = .returned (.func (.func 55) #[] #[.pointer (some ⟨w.heap.size, 0, none⟩), .pointer (some ⟨w.heap.size + 1, 0, none⟩)]) ∧ Hid (w'.cell? ⟨w.heap.size, 0, none⟩ = some (.func (.func gf) #[] lb)) ∧ Hid (w'.cell? ⟨w.heap.size + 1, 0, none⟩ = some (.func (.func hf) #[] hb)) ∧ Below w.heap.size w w' := by
  have H0 := Lib.hid ((Boxed.new w 55 (.func (.func gf) #[] lb)).alloc (.cells #[.func (.func hf) #[] hb] 59)).cell
  have H1 := Lib.hid (Boxed.new (w.alloc (.cells #[.func (.func gf) #[] lb] 55)) 59 (.func (.func hf) #[] hb)).cell
  have HB := Lib.hid (((Below.refl _ w).alloc (Nat.le_refl _) (.cells #[.func (.func gf) #[] lb] 55)).alloc (by simp) (.cells #[.func (.func hf) #[] hb] 59))
  go_enter Try.func33, Try.ntmps33
  go_wp2
  go_ret
  have h1 := H1.out
  rw [World.size_alloc] at h1
  exact ⟨rfl, Lib.hid H0.out, Lib.hid h1, HB.out⟩
end Go.Proofs.Ytemflcegkebloaa
