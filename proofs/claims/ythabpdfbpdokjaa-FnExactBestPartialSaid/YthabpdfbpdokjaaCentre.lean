/- The first set of at most so many sites with the least reach: the model's side. Condition: a valid Field, a number of its sites. -/
import Derived.Test.YthabpdfbpdokjaaSetsK
namespace Go.Proofs.Ythabpdfbpdokjaa
open Go.RowKit Go.Shelf

theorem first_one (φ : List Nat → Int) (L : List (List Nat)) (h : 0 < L.length) : firstB φ (L.take 1) = L[0] := by
  cases L with
  | nil => simp at h
  | cons a t => simp [firstB, stepB]

set_option maxRecDepth 32000 in
set_option maxHeartbeats 2000000 in
theorem l5Best_any (F : Fld) (m : Nat) (w : World) (hF : F.At w) (hg : F.good = true) (h1 : 1 ≤ m) (hm : m ≤ F.o.l.length) :
    Calls Try.prog 59 #[F.val, .int .i64 m] w fun e w' => ∃ y : Row, e = .returned (.slice y.a y.l.length y.c) ∧ y.l = up (bestP F m 0) ∧ y.In w.heap.size w'.heap.size w' ∧ Below w.heap.size w w' := by
  obtain ⟨wA, hA, hbA, bx, hFA, hszA⟩ := laid_fld F w 29 hF
  have HFA := Lib.hid hFA
  have HBX := Lib.hid bx
  have HA := Lib.hid hA
  have HG := Lib.hid hg
  obtain ⟨n, hn⟩ : ∃ n, n = F.o.l.length := ⟨_, rfl⟩
  have hPL := preS_len (good_sizes hg).2.1 h1 hm
  have CS := l5Sets_any F m wA hFA hg h1 hm
  have HOK := Lib.hid (fun T hT => preS_ok hg hm hT : ∀ T ∈ preS F.o.l.length m, _)
  obtain ⟨L, hL⟩ : ∃ L, L = preS F.o.l.length m := ⟨_, rfl⟩
  have HBP : Hid (bestP F m 0 = firstB (partT F 0) L) := Lib.hid (by rw [hL]; rfl)
  rw [← hL] at CS hPL HOK
  obtain ⟨c, hc⟩ : ∃ c, c = L.length := ⟨_, rfl⟩
  rw [← hc] at CS hPL
  have CS1 := Lib.hid CS
  have HC := Lib.hid hc
  have hc7 : c ≤ 127 := hPL.2
  have hc0 : 0 < c := hPL.1
  have hci : (c : Int) ≤ 127 := by omega
  have hcpos : (0 : Int) < (c : Int) := by omega
  have x0 := bx.c0
  have x1 := bx.c1
  rw [hA] at x0 x1
  clear hF hA hFA bx hn hL CS hc hPL hg hm
  show Calls _ _ #[.agg #[F.o.val, F.t.val], _] w _
  go_enter Try.func59, Try.ntmps59
  go_wp2_with fail
  rw [show w.alloc (Obj.cells #[F.o.val, F.t.val] 29) = wA from HA.out.symm]
  refine (show Calls _ _ _ _ _ from CS1.out).mono ?_
  rintro e W1 ⟨g, cap, Q, rfl, hrt, hcon, hb1⟩
  have HRT := Lib.hid hrt
  have hQc : Q.length = c := by have := congrArg List.length hcon; rw [List.length_map, List.length_map, ← HC.out] at this; exact this
  have HQ := Lib.hid hQc
  have HROW : Hid (∀ j, (hj : j < Q.length) → ∃ hj2 : j < L.length, Q[j].l = up L[j] ∧ L[j] ≠ [] ∧ ∀ x ∈ L[j], x < F.o.l.length) := Lib.hid fun j hj => by
    have hj2 : j < L.length := by rw [← HC.out, ← HQ.out]; exact hj
    have e1 : (Q.map Row.l)[j]? = some Q[j].l := by rw [List.getElem?_map, List.getElem?_eq_getElem hj]; rfl
    rw [hcon, List.getElem?_map, List.getElem?_eq_getElem hj2] at e1
    have hok := HOK.out _ (List.getElem_mem hj2)
    exact ⟨hj2, by simpa using e1.symm, hok.1, hok.2.1.2⟩
  have HB1 := Lib.hid hb1
  have hW1 := hb1.size
  have h0Q : 0 < Q.length := by rw [hQc]; exact hc0
  obtain ⟨r0, hr0⟩ : ∃ r, r = Q[0] := ⟨_, rfl⟩
  have hcl0 : W1.cell? ⟨g, 0, none⟩ = some (.slice r0.a r0.l.length r0.c) := by rw [hr0]; exact hrt.cell 0 h0Q
  have hr0m : r0 ∈ Q := by rw [hr0]; exact List.getElem_mem _
  have hr0l : r0.l = up (firstB (partT F 0) (L.take 1)) := by
    obtain ⟨hj2, h2, _⟩ := HROW.out 0 h0Q
    rw [first_one _ _ hj2, hr0, h2]
  have HR0M := Lib.hid hr0m
  have HR0L := Lib.hid hr0l
  have hcapi : (c : Int) ≤ (cap : Int) := by have := hrt.cap; omega
  clear hrt hcon hb1 hr0 hr0m hr0l x0 x1 hQc
  go_wp2
  go_loopw [6, 7] (fun yv i wr => ∃ (j : Nat) (y : Row), 1 ≤ j ∧ j ≤ c ∧ i = .int .i64 j ∧ yv = .slice y.a y.l.length y.c ∧ Hid (y ∈ Q) ∧ Hid (y.l = up (firstB (partT F 0) (L.take j))) ∧ Below W1.heap.size W1 wr) (fun _ i _ => c - (intOf i).toNat)
  case atStart => exact ⟨1, r0, Nat.le_refl _, by omega, rfl, rfl, HR0M, HR0L, Below.refl _ _⟩
  case round =>
    obtain ⟨j, y, hj1, hj, rfl, rfl, HYM, HYL, hnx⟩ := hrel
    have HNX := Lib.hid hnx
    have y0 := ((HBX.out.on HB1.out).on hnx).c0
    have y1 := ((HBX.out.on HB1.out).on hnx).c1
    by_cases hlt : j < c
    · have hlti : (j : Int) < (c : Int) := by omega
      have hjQ : j < Q.length := by rw [HQ.out]; exact hlt
      obtain ⟨hj2, hrl, hne, hml⟩ := HROW.out j hjQ
      obtain ⟨r, hr⟩ : ∃ r, r = Q[j] := ⟨_, rfl⟩
      obtain ⟨T, hT⟩ : ∃ T, T = L[j] := ⟨_, rfl⟩
      obtain ⟨U, hU⟩ : ∃ U, U = firstB (partT F 0) (L.take j) := ⟨_, rfl⟩
      rw [← hr, ← hT] at hrl
      rw [← hT] at hne hml
      rw [← hU] at HYL
      have hcl : wr.cell? ⟨g, j, none⟩ = some (.slice r.a r.l.length r.c) := (hnx.cell (p := ⟨g, j, none⟩) HRT.out.lt).trans (by rw [hr]; exact HRT.out.cell j hjQ)
      have hglt : g < wr.heap.size := Nat.lt_of_lt_of_le HRT.out.lt hnx.size
      have HRM : Hid (r ∈ Q) := Lib.hid (by rw [hr]; exact List.getElem_mem _)
      have HST : Hid (firstB (partT F 0) (L.take (j + 1)) = stepB (partT F 0) U T) := Lib.hid (by rw [firstB_step _ _ hj2, ← hU, ← hT])
      have hUm : U ∈ L := by
        rw [hU]
        refine List.mem_of_mem_take (i := j) (firstB_some (fun e => by have := congrArg List.length e; rw [List.length_take, List.length_nil] at this; omega) (fun T hT => (HOK.out T (List.mem_of_mem_take hT)).1))
      have hUok := HOK.out U hUm
      obtain ⟨x, hx⟩ : ∃ x, x = partT F 0 T := ⟨_, rfl⟩
      obtain ⟨z, hz⟩ : ∃ z, z = partT F 0 U := ⟨_, rfl⟩
      have C1 := Lib.hid (fun u (hu : Below wr.heap.size wr u) => by have := far_part F r T u (((HFA.out.on HB1.out).on HNX.out).on hu) ((((HRT.out.rows r HRM.out).on HNX.out).on hu).at) ⟨HG.out, hrl, List.length_pos_iff.2 hne, hml⟩; rw [← hx] at this; exact this : ∀ u, Below wr.heap.size wr u → Calls Try.prog 60 #[.agg #[F.o.val, F.t.val], .slice r.a r.l.length r.c] u fun e w' => e = .returned (.int .i64 x) ∧ Below u.heap.size u w')
      have C2 := Lib.hid (fun u (hu : Below wr.heap.size wr u) => by have := far_part F y U u (((HFA.out.on HB1.out).on HNX.out).on hu) ((((HRT.out.rows y HYM.out).on HNX.out).on hu).at) ⟨HG.out, HYL.out, List.length_pos_iff.2 hUok.1, hUok.2.1.2⟩; rw [← hz] at this; exact this : ∀ u, Below wr.heap.size wr u → Calls Try.prog 60 #[.agg #[F.o.val, F.t.val], .slice y.a y.l.length y.c] u fun e w' => e = .returned (.int .i64 z) ∧ Below u.heap.size u w')
      have HX := Lib.hid hx
      have HZ := Lib.hid hz
      have HNE := Lib.hid hUok.1
      have HRL := Lib.hid hrl
      have HS : Hid (∀ u, Below wr.heap.size wr u → ((u.cell? ⟨g, j, none⟩ = some (.slice r.a r.l.length r.c) ∧ u.cell? ⟨w.heap.size, 0, none⟩ = some F.o.val ∧ u.cell? ⟨w.heap.size, 1, none⟩ = some F.t.val) ∧ Below wr.heap.size wr u)) := Lib.hid fun u hu => ⟨⟨(hu.cell (p := ⟨g, j, none⟩) hglt).trans hcl, (hu.cell (p := ⟨w.heap.size, 0, none⟩) ((HBX.out.on HB1.out).on HNX.out).lt).trans y0, (hu.cell (p := ⟨w.heap.size, 1, none⟩) ((HBX.out.on HB1.out).on HNX.out).lt).trans y1⟩, hu⟩
      have s0 := HS.out wr.drew (Below.refl _ _).drew
      clear hr hT hU hrl hne hml hx hz hUm hUok
      go_wp2_with fail
      go_region_held3 (fun u => ((u.cell? ⟨g, j, none⟩ = some (.slice r.a r.l.length r.c) ∧ u.cell? ⟨w.heap.size, 0, none⟩ = some F.o.val ∧ u.cell? ⟨w.heap.size, 1, none⟩ = some F.t.val) ∧ Below wr.heap.size wr u)) (first | exact s0 | exact keep_reg HS.out (by first | assumption | exact And.right (by assumption)) hb1) (first | (go_at_call 60; (fail_if_success clear hb1); refine (show Calls _ _ _ _ _ from C1.out _ (by first | assumption | exact And.right (by assumption))).mono ?_; rintro e u1 ⟨rfl, hb1⟩) | (go_at_call 60; refine (show Calls _ _ _ _ _ from C2.out _ (by first | assumption | exact And.right (by assumption))).mono ?_; rintro e u1 ⟨rfl, hb1⟩))
      refine at_exit (W := wr) (by first | assumption | exact And.right (by assumption)) ?_
      intro W8 hb8
      have hc8 : W8.cell? ⟨g, j, none⟩ = some (.slice r.a r.l.length r.c) := (HS.out W8 hb8).1.1
      have HB8 : Hid (Below W1.heap.size W1 W8) := Lib.hid (HNX.out.trans (hb8.mono HNX.out.size))
      clear s0 hb8 hcl y0 y1
      by_cases hxz : x < z
      · have HSS : Hid (r.l = up (firstB (partT F 0) (L.take (j + 1)))) := Lib.hid (by rw [HST.out]; unfold stepB; rw [if_pos (.inr (by rw [← HX.out, ← HZ.out]; exact hxz))]; exact HRL.out)
        go_wp2
        go_roundw
        case rel => exact ⟨j + 1, r, by omega, by omega, by go_num, rfl, HRM, HSS, HB8.out⟩
        case measure => simp [intOf]; omega
      · have HSS : Hid (y.l = up (firstB (partT F 0) (L.take (j + 1)))) := Lib.hid (by rw [HST.out]; unfold stepB; rw [if_neg (fun h => h.elim HNE.out (fun h => hxz (by rw [HX.out, HZ.out]; exact h)))]; exact HYL.out)
        go_wp2
        go_roundw
        case rel => exact ⟨j + 1, y, by omega, by omega, by go_num, rfl, HYM, HSS, HB8.out⟩
        case measure => simp [intOf]; omega
    · obtain rfl : j = c := by omega
      have HE : Hid (y.l = up (bestP F m 0)) := Lib.hid (by have := HYL.out; rw [HC.out, List.take_length, ← HBP.out] at this; exact this)
      go_wp2
      go_ret
      exact ⟨y, rfl, HE.out, (((HRT.out.rows y HYM.out).on hnx).wide hbA.size hnx.size), hbA.trans ((HB1.out.trans (hnx.mono HB1.out.size)).mono hbA.size)⟩
end Go.Proofs.Ythabpdfbpdokjaa
