/- Both sides of BestPartial answer alike. Condition: the Field reads as such. -/
import Derived.Test.YthabpdfbpdokjaaPairCentres
import Derived.Test.YthabpdfbpdokjaaPartSpec
namespace Go.Proofs.Ythabpdfbpdokjaa
open Go.RowKit Go.Shelf

set_option maxRecDepth 32000 in
set_option maxHeartbeats 4000000 in
theorem specPart_any (F : Fld) (k z : Int) (w : World) (hF : F.At w) (l : List Int) (v : Int) (b : Bool) (hv : Parts F k z l v b) :
    Calls Try.prog 29 #[F.val, .int .i64 k, .int .i64 z] w (PList l v b w) := by
  obtain ⟨wA, hA, hbA, bx, hFA, hszA⟩ := laid_fld F w 29 hF
  have HFA := Lib.hid hFA
  have HBX := Lib.hid bx
  have HA := Lib.hid hA
  have HV := Lib.hid hv
  have CT := Lib.hid (l5Ask_any F k wA hFA)
  have CZ := Lib.hid (fun u => l1In_any z 0 7 u)
  have x0 := bx.c0
  have x1 := bx.c1
  rw [hA] at x0 x1
  clear hF hA hFA bx hv
  show Calls _ _ #[.agg #[F.o.val, F.t.val], _, _] w _
  go_enter Try.func29, Try.ntmps29
  go_wp2_with fail
  rw [show w.alloc (Obj.cells #[F.o.val, F.t.val] 29) = wA from HA.out.symm]
  refine (show Calls _ _ _ _ _ from CT.out).mono ?_
  rintro e W0 ⟨rfl, hb0⟩
  have hbw := hbA.trans (hb0.mono hbA.size)
  have HB0 := Lib.hid hb0
  have HEND : Hid (PList [] 0 false w (.returned (.tuple #[.slice (some ⟨W0.heap.size, 0, none⟩) 0 0, .int .i64 0, .bool false])) (W0.alloc (.cells #[] 3))) := Lib.hid (by
    obtain ⟨t, ht, htl, hto, hti⟩ := row_of_own (empty_own W0)
    exact ⟨t, congrArg (fun v => Ending.returned (.tuple #[v, .int .i64 0, .bool false])) ht, htl, hto, hti.wide hbw.size (Nat.le_refl _), hbw.trans ((below_alloc W0 _).mono hbw.size)⟩)
  have hsz0 := hb0.size
  clear x0 x1 hbw
  obtain ⟨t0, ht0⟩ : ∃ t, t = kB F k := ⟨_, rfl⟩
  rw [← ht0]
  have HT := Lib.hid ht0
  clear ht0
  cases t0 with
  | false =>
    obtain ⟨rfl, rfl, rfl⟩ := parts_no HV.out (.inl HT.out.symm)
    go_wp2
    go_ret3
    exact HEND.out
  | true =>
    obtain ⟨t1, ht1⟩ : ∃ t, t = zB z := ⟨_, rfl⟩
    have CZ1 := Lib.hid (by have := CZ.out W0; rw [show (decide (0 ≤ z) && decide (z ≤ 7)) = t1 from ht1.symm] at this; exact this)
    have HT1 := Lib.hid ht1
    clear ht1
    go_wp2_with fail
    refine (show Calls _ _ _ _ _ from CZ1.out).mono ?_
    rintro e W ⟨rfl, rfl⟩
    cases t1 with
    | false =>
      obtain ⟨rfl, rfl, rfl⟩ := parts_no HV.out (.inr HT1.out.symm)
      go_wp2
      go_ret3
      exact HEND.out
    | true =>
      obtain ⟨m, q, hg, rfl, h1, hm, rfl, hq7, hl, hvv, rfl⟩ := parts_yes HV.out HT.out.symm HT1.out.symm
      have HL := Lib.hid hl
      have HVV := Lib.hid hvv
      have HG := Lib.hid hg
      have HQ7 := Lib.hid hq7
      have hPL := preS_len (good_sizes hg).2.1 h1 hm
      have CS := l5Sets_any F m W (HFA.out.on hb0) hg h1 hm
      have HOK := Lib.hid (fun T hT => preS_ok hg hm hT : ∀ T ∈ preS F.o.l.length m, _)
      obtain ⟨L, hL⟩ : ∃ L, L = preS F.o.l.length m := ⟨_, rfl⟩
      have HBP : Hid (bestP F m q = firstB (partT F q) L) := Lib.hid (by rw [hL]; rfl)
      rw [← hL] at CS hPL HOK
      obtain ⟨c, hc⟩ : ∃ c, c = L.length := ⟨_, rfl⟩
      rw [← hc] at CS hPL
      have CS1 := Lib.hid CS
      have HC := Lib.hid hc
      have hc7 : c ≤ 127 := hPL.2
      have hc0 : 0 < c := hPL.1
      have hci : (c : Int) ≤ 127 := by omega
      have hcpos : (0 : Int) < (c : Int) := by omega
      have x0 := (HBX.out.on hb0).c0
      have x1 := (HBX.out.on hb0).c1
      have HBX := Lib.hid (HBX.out.on hb0)
      have HFA := Lib.hid (HFA.out.on hb0)
      have hok := bestP_ok hg h1 hm q
      have HOKB := Lib.hid hok
      clear hL CS hc hPL hg hm hl hvv hq7 hok hb0
      go_wp2_with fail
      refine (show Calls _ _ _ _ _ from CS1.out).mono ?_
      rintro e W1 ⟨g, cap, Q, rfl, hrt, hcon, hb1⟩
      have HRT := Lib.hid hrt
      have hQc : Q.length = c := by have := congrArg List.length hcon; rw [List.length_map, List.length_map, ← HC.out] at this; exact this
      have HQ := Lib.hid hQc
      have HROW : Hid (∀ j, (hj : j < Q.length) → ∃ hj2 : j < L.length, Q[j].l = up L[j] ∧ L[j] ≠ [] ∧ ∀ x ∈ L[j], x < F.o.l.length) := Lib.hid fun j hj => by
        have hj2 : j < L.length := by rw [← HC.out, ← HQ.out]; exact hj
        have e1 : (Q.map Row.l)[j]? = some Q[j].l := by rw [List.getElem?_map, List.getElem?_eq_getElem hj]; rfl
        rw [hcon, List.getElem?_map, List.getElem?_eq_getElem hj2] at e1
        have hok := HOK.out _ (List.getElem_mem hj2)
        exact ⟨hj2, by simpa using e1.symm, hok.1, hok.2.1.2⟩
      have HB1 := Lib.hid hb1
      have hW1 := hb1.size
      have h0Q : 0 < Q.length := by rw [hQc]; exact hc0
      obtain ⟨r0, hr0⟩ : ∃ r, r = Q[0] := ⟨_, rfl⟩
      have hcl0 : W1.cell? ⟨g, 0, none⟩ = some (.slice r0.a r0.l.length r0.c) := by rw [hr0]; exact hrt.cell 0 h0Q
      have hr0m : r0 ∈ Q := by rw [hr0]; exact List.getElem_mem _
      have hr0l : r0.l = up (firstB (partT F q) (L.take 1)) := by
        obtain ⟨hj2, h2, _⟩ := HROW.out 0 h0Q
        rw [first_one _ _ hj2, hr0, h2]
      have HR0M := Lib.hid hr0m
      have HR0L := Lib.hid hr0l
      have hcapi : (c : Int) ≤ (cap : Int) := by have := hrt.cap; omega
      clear hrt hcon hb1 hr0 hr0m hr0l x0 x1 hQc
      go_wp2
      go_loopw [10, 11] (fun yv i wr => ∃ (j : Nat) (y : Row), 1 ≤ j ∧ j ≤ c ∧ i = .int .i64 j ∧ yv = .slice y.a y.l.length y.c ∧ Hid (y ∈ Q) ∧ Hid (y.l = up (firstB (partT F q) (L.take j))) ∧ Below W1.heap.size W1 wr) (fun _ i _ => c - (intOf i).toNat)
      case atStart => exact ⟨1, r0, Nat.le_refl _, by omega, rfl, rfl, HR0M, HR0L, Below.refl _ _⟩
      case round =>
        obtain ⟨j, y, hj1, hj, rfl, rfl, HYM, HYL, hnx⟩ := hrel
        have HNX := Lib.hid hnx
        have y0 := ((HBX.out.on HB1.out).on hnx).c0
        have y1 := ((HBX.out.on HB1.out).on hnx).c1
        by_cases hlt : j < c
        · have hlti : (j : Int) < (c : Int) := by omega
          have hjQ : j < Q.length := by rw [HQ.out]; exact hlt
          obtain ⟨hj2, hrl, hne, hml⟩ := HROW.out j hjQ
          obtain ⟨r, hr⟩ : ∃ r, r = Q[j] := ⟨_, rfl⟩
          obtain ⟨T, hT⟩ : ∃ T, T = L[j] := ⟨_, rfl⟩
          obtain ⟨U, hU⟩ : ∃ U, U = firstB (partT F q) (L.take j) := ⟨_, rfl⟩
          rw [← hr, ← hT] at hrl
          rw [← hT] at hne hml
          rw [← hU] at HYL
          have hcl : wr.cell? ⟨g, j, none⟩ = some (.slice r.a r.l.length r.c) := (hnx.cell (p := ⟨g, j, none⟩) HRT.out.lt).trans (by rw [hr]; exact HRT.out.cell j hjQ)
          have hglt : g < wr.heap.size := Nat.lt_of_lt_of_le HRT.out.lt hnx.size
          have HRM : Hid (r ∈ Q) := Lib.hid (by rw [hr]; exact List.getElem_mem _)
          have HST : Hid (firstB (partT F q) (L.take (j + 1)) = stepB (partT F q) U T) := Lib.hid (by rw [firstB_step _ _ hj2, ← hU, ← hT])
          have hUm : U ∈ L := by
            rw [hU]
            refine List.mem_of_mem_take (i := j) (firstB_some (fun e => by have := congrArg List.length e; rw [List.length_take, List.length_nil] at this; omega) (fun T hT => (HOK.out T (List.mem_of_mem_take hT)).1))
          have hUok := HOK.out U hUm
          obtain ⟨x, hx⟩ : ∃ x, x = partT F q T := ⟨_, rfl⟩
          obtain ⟨z9, hz⟩ : ∃ z9, z9 = partT F q U := ⟨_, rfl⟩
          have C1 := Lib.hid (fun u (hu : Below wr.heap.size wr u) => by have := l5Partial_any F r T q u (((HFA.out.on HB1.out).on HNX.out).on hu) ((((HRT.out.rows r HRM.out).on HNX.out).on hu).at) ⟨HG.out, hrl, List.length_pos_iff.2 hne, hml⟩ HQ7.out; rw [← hx] at this; exact this : ∀ u, Below wr.heap.size wr u → Calls Try.prog 62 #[.agg #[F.o.val, F.t.val], .slice r.a r.l.length r.c, .int .i64 q] u fun e w' => e = .returned (.int .i64 x) ∧ Below u.heap.size u w')
          have C2 := Lib.hid (fun u (hu : Below wr.heap.size wr u) => by have := l5Partial_any F y U q u (((HFA.out.on HB1.out).on HNX.out).on hu) ((((HRT.out.rows y HYM.out).on HNX.out).on hu).at) ⟨HG.out, HYL.out, List.length_pos_iff.2 hUok.1, hUok.2.1.2⟩ HQ7.out; rw [← hz] at this; exact this : ∀ u, Below wr.heap.size wr u → Calls Try.prog 62 #[.agg #[F.o.val, F.t.val], .slice y.a y.l.length y.c, .int .i64 q] u fun e w' => e = .returned (.int .i64 z9) ∧ Below u.heap.size u w')
          have HX := Lib.hid hx
          have HZ := Lib.hid hz
          have HNE := Lib.hid hUok.1
          have HRL := Lib.hid hrl
          have HS : Hid (∀ u, Below wr.heap.size wr u → ((u.cell? ⟨g, j, none⟩ = some (.slice r.a r.l.length r.c) ∧ u.cell? ⟨w.heap.size, 0, none⟩ = some F.o.val ∧ u.cell? ⟨w.heap.size, 1, none⟩ = some F.t.val) ∧ Below wr.heap.size wr u)) := Lib.hid fun u hu => ⟨⟨(hu.cell (p := ⟨g, j, none⟩) hglt).trans hcl, (hu.cell (p := ⟨w.heap.size, 0, none⟩) ((HBX.out.on HB1.out).on HNX.out).lt).trans y0, (hu.cell (p := ⟨w.heap.size, 1, none⟩) ((HBX.out.on HB1.out).on HNX.out).lt).trans y1⟩, hu⟩
          have s0 := HS.out wr.drew (Below.refl _ _).drew
          clear hr hT hU hrl hne hml hx hz hUm hUok
          go_wp2_with fail
          go_region_held3 (fun u => ((u.cell? ⟨g, j, none⟩ = some (.slice r.a r.l.length r.c) ∧ u.cell? ⟨w.heap.size, 0, none⟩ = some F.o.val ∧ u.cell? ⟨w.heap.size, 1, none⟩ = some F.t.val) ∧ Below wr.heap.size wr u)) (first | exact s0 | exact keep_reg HS.out (by first | assumption | exact And.right (by assumption)) hb1) (first | (go_at_call 62; (fail_if_success clear hb1); refine (show Calls _ _ _ _ _ from C1.out _ (by first | assumption | exact And.right (by assumption))).mono ?_; rintro e u1 ⟨rfl, hb1⟩) | (go_at_call 62; refine (show Calls _ _ _ _ _ from C2.out _ (by first | assumption | exact And.right (by assumption))).mono ?_; rintro e u1 ⟨rfl, hb1⟩))
          refine at_exit (W := wr) (by first | assumption | exact And.right (by assumption)) ?_
          intro W8 hb8
          have hc8 : W8.cell? ⟨g, j, none⟩ = some (.slice r.a r.l.length r.c) := (HS.out W8 hb8).1.1
          have HB8 : Hid (Below W1.heap.size W1 W8) := Lib.hid (HNX.out.trans (hb8.mono HNX.out.size))
          clear s0 hb8 hcl y0 y1
          by_cases hxz : x < z9
          · have HSS : Hid (r.l = up (firstB (partT F q) (L.take (j + 1)))) := Lib.hid (by rw [HST.out]; unfold stepB; rw [if_pos (.inr (by rw [← HX.out, ← HZ.out]; exact hxz))]; exact HRL.out)
            go_wp2
            go_roundw
            case rel => exact ⟨j + 1, r, by omega, by omega, by go_num, rfl, HRM, HSS, HB8.out⟩
            case measure => simp [intOf]; omega
          · have HSS : Hid (y.l = up (firstB (partT F q) (L.take (j + 1)))) := Lib.hid (by rw [HST.out]; unfold stepB; rw [if_neg (fun h => h.elim HNE.out (fun h => hxz (by rw [HX.out, HZ.out]; exact h)))]; exact HYL.out)
            go_wp2
            go_roundw
            case rel => exact ⟨j + 1, y, by omega, by omega, by go_num, rfl, HYM, HSS, HB8.out⟩
            case measure => simp [intOf]; omega
        · obtain rfl : j = c := by omega
          have HE : Hid (y.l = up (bestP F m q)) := Lib.hid (by have := HYL.out; rw [HC.out, List.take_length, ← HBP.out] at this; exact this)
          have hyn : y.l.length = (bestP F m q).length := by rw [HE.out, up_length]
          have HYI : Hid (y.At wr) := Lib.hid (((HRT.out.rows y HYM.out).on hnx).at)
          have D1 := Lib.hid (fun u (hu : Below wr.heap.size wr u) => (l1OwnRow_any y u (HYI.out.on hu) (by rw [hyn]; have := HOKB.out.2.2; omega)).mono (fun e w' h => by
            obtain ⟨t, he, htl, hto, hti, hb⟩ := h
            exact ⟨t, he, htl, hto, hti.wide hu.size (Nat.le_refl _), hb⟩) : ∀ u, Below wr.heap.size wr u → Calls Try.prog 58 #[.slice y.a y.l.length y.c] u fun e w' => ∃ t : Row, e = .returned (.slice t.a t.l.length t.c) ∧ t.l = y.l ∧ t.Own 3 w' ∧ t.In wr.heap.size w'.heap.size w' ∧ Below u.heap.size u w')
          have HBW : Hid (Below W.heap.size W wr) := Lib.hid (HB1.out.trans (hnx.mono HB1.out.size))
          have D2 := Lib.hid (fun u (hu : Below wr.heap.size wr u) => by have := l5Partial_any F y (bestP F m q) q u ((HFA.out.on HBW.out).on hu) (HYI.out.on hu) ⟨HG.out, HE.out, List.length_pos_iff.2 HOKB.out.1, HOKB.out.2.1.2⟩ HQ7.out; rw [← HVV.out] at this; exact this : ∀ u, Below wr.heap.size wr u → Calls Try.prog 62 #[.agg #[F.o.val, F.t.val], .slice y.a y.l.length y.c, .int .i64 q] u fun e w' => e = .returned (.int .i64 v) ∧ Below u.heap.size u w')
          have HS : Hid (∀ u, Below wr.heap.size wr u → ((u.cell? ⟨w.heap.size, 0, none⟩ = some F.o.val ∧ u.cell? ⟨w.heap.size, 1, none⟩ = some F.t.val) ∧ Below wr.heap.size wr u)) := Lib.hid fun u hu => ⟨⟨((HBX.out.on HBW.out).on hu).c0, ((HBX.out.on HBW.out).on hu).c1⟩, hu⟩
          have s0 := HS.out wr.drew (Below.refl _ _).drew
          clear hyn hnx HNX
          go_wp2_with fail
          go_region_held3 (fun u => ((u.cell? ⟨w.heap.size, 0, none⟩ = some F.o.val ∧ u.cell? ⟨w.heap.size, 1, none⟩ = some F.t.val) ∧ Below wr.heap.size wr u)) (first | exact s0 | exact keep_reg HS.out (by first | assumption | exact And.right (by assumption)) hb1) (first | (go_at_call 58; refine (show Calls _ _ _ _ _ from D1.out _ (by first | assumption | exact And.right (by assumption))).mono ?_; rintro e u1 ⟨t, rfl, htl, hto, hti, hb1⟩; have HTL := Lib.hid htl; have HTO := Lib.hid hto; have HTI := Lib.hid hti; have HBO := Lib.hid (show Below wr.heap.size wr _ by first | assumption | exact And.right (by assumption)); clear htl hto hti) | (go_at_call 62; refine (show Calls _ _ _ _ _ from D2.out _ (by first | assumption | exact And.right (by assumption))).mono ?_; rintro e u2 ⟨rfl, hb1⟩))
          all_goals
            go_wp2
            go_ret3
            refine ⟨t, rfl, by rw [HTL.out, HE.out, HL.out], ?_, ?_, hbA.trans ((HB0.out.trans (Below.mono (HBW.out.trans (Below.mono ?_ HBW.out.size)) HB0.out.size)).mono hbA.size)⟩
            · first | exact HTO.out | exact HTO.out.on hb1
            · first | exact HTI.out.wide (Nat.le_trans hbA.size (Nat.le_trans hsz0 HBW.out.size)) (Nat.le_refl _) | exact (HTI.out.on hb1).wide (Nat.le_trans hbA.size (Nat.le_trans hsz0 HBW.out.size)) hb1.size
            · first | assumption | exact And.right (by assumption)
theorem bestPartial_pair (F : Fld) (k z : Int) (_ : (Lit.int .i64 k).wf = true) (_ : (Lit.int .i64 z).wf = true) (_ : F.Small) : ∃ (l : List Int) (v : Int) (b : Bool) (_ : l.length ≤ 1048576),
    (∀ (G : Fld) (W : World), G.At W → G.Like F → Calls Try.prog 29 #[G.val, .int .i64 k, .int .i64 z] W (PList l v b W)) ∧
    (∀ (G : Fld) (W : World), G.At W → G.Like F → Calls Try.prog 30 #[G.val, .int .i64 k, .int .i64 z] W (PList l v b W)) := by
  obtain ⟨l, v, b, h, hl⟩ := parts_some F k z
  exact ⟨l, v, b, hl, fun G W hG hlk => specPart_any G k z W hG l v b (parts_like h hlk), fun G W hG hlk => implPart_any G k z W hG l v b (parts_like h hlk)⟩
end Go.Proofs.Ythabpdfbpdokjaa
