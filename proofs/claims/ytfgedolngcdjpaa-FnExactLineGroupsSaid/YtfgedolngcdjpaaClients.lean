/- The contracts of the clients that a site serves and of the sites that serve none, on the model's side. Condition: a valid Field and a valid set. -/
import Derived.Test.YtfgedolngcdjpaaGrow
import Derived.Test.YtfgedolngcdjpaaPairServedBy
import Derived.Deep.AppendLies
import Derived.Deep.RegionHeld3
namespace Go.Proofs.Ytfgedolngcdjpaa
open Go.RowKit

/-- The clients before the k-th one that a site serves. -/
def cliTo (d : List (List Int)) (T : List Nat) (site k : Nat) : List Int := ((List.range k).filter fun i => decide (near (d.getD i []) T = site)).map fun (i : Nat) => (i : Int)
theorem cli_step (d : List (List Int)) (T : List Nat) (site k : Nat) : cliTo d T site (k + 1) = cliTo d T site k ++ (if near (d.getD k []) T = site then [(k : Int)] else []) := by
  unfold cliTo
  rw [List.range_succ, List.filter_append, List.map_append]
  simp only [List.filter_cons, List.filter_nil]
  by_cases h : near (d.getD k []) T = site
  · rw [if_pos (decide_eq_true h), if_pos h]; rfl
  · rw [if_neg (by rw [decide_eq_true_eq]; exact h), if_neg h]; rfl
theorem cli_len (d : List (List Int)) (T : List Nat) (site : Nat) : ∀ k, (cliTo d T site k).length ≤ k
  | 0 => by simp [cliTo]
  | k + 1 => by rw [cli_step, List.length_append]; have := cli_len d T site k; split <;> simp <;> omega
theorem con_getD (F : Fld) {k : Nat} (h : k < F.t.R.length) : F.t.con.getD k [] = F.t.R[k].l := by
  rw [List.getD_eq_getElem?_getD, List.getElem?_eq_getElem (by rw [con_length]; exact h), Option.getD_some, con_at F.t h]

set_option maxHeartbeats 2000000 in
theorem l2Clients_any (F : Fld) (s : Row) (T : List Nat) (m : Nat) (w : World) (hF : F.At w) (hs : s.At w) (hf : Fine F s T) :
    Calls Try.prog 44 #[F.val, .slice s.a s.l.length s.c, .int .i64 m] w fun e w' => ∃ t : Row, e = .returned (.slice t.a t.l.length t.c) ∧ t.l = cliTo F.t.con T m F.t.R.length ∧ t.Own 3 w' ∧ t.In w.heap.size w'.heap.size w' ∧ Below w.heap.size w w' := by
  obtain ⟨i0, hi, hz0, hz1, hz2⟩ := info_parts infoInt
  obtain ⟨wA, hA, hbA, bx, hFA, hszA⟩ := laid_fld F w 37 hF
  have HSA := Lib.hid (hs.on hbA)
  have HFA := Lib.hid hFA
  have HBX := Lib.hid bx
  have hown0 := empty_own wA
  have hb0 := below_alloc wA (.cells #[] 3)
  have hsz := good_sizes hf.good
  have hRi : (F.t.R.length : Int) ≤ 7 := by omega
  have HFI := Lib.hid hf
  have HA := Lib.hid hA
  have H0 := Lib.hid hown0
  have HB0 := Lib.hid hb0
  have hszw : Hid (wA.heap.size = w.heap.size + 1) := Lib.hid hszA
  clear hF hs hA hFA bx hown0 hb0 hf hszA
  show Calls _ _ #[.agg #[F.o.val, .slice F.t.a F.t.R.length F.t.c], _, _] w _
  go_enter Try.func44, Try.ntmps44
  go_wp2
  go_loopw [7, 8] (fun out i wr => ∃ k : Nat, k ≤ F.t.R.length ∧ i = .int .i64 k ∧ wr.ownsRow wA.heap.size 3 1 out (cliTo F.t.con T m k).length (iv (cliTo F.t.con T m k)) ∧ Below wA.heap.size wA wr) (fun _ i _ => F.t.R.length - (intOf i).toNat)
  case atStart =>
    have e := HA.out
    have h0 := H0.out
    have h1 := HB0.out
    clear HA H0 HB0 HSA HFA HBX hszw
    subst e
    have hsz : (w.alloc (Obj.cells #[F.o.val, F.t.val] 37)).heap.size = w.heap.size + 1 := size_alloc _ _
    rw [hsz] at h0
    exact ⟨0, Nat.zero_le _, rfl, by rw [hsz]; exact h0, h1⟩
  case round =>
    obtain ⟨k, hk, rfl, hown0, hnx⟩ := hrel
    have y0 := (HBX.out.on hnx).c0
    have y1 : wr.cell? ⟨w.heap.size, 1, none⟩ = some (.slice F.t.a F.t.R.length F.t.c) := (HBX.out.on hnx).c1
    by_cases hlt : k < F.t.R.length
    · have hlti : (k : Int) < (F.t.R.length : Int) := by omega
      obtain ⟨q, hq⟩ : ∃ q, q = near F.t.R[k].l T := ⟨_, rfl⟩
      have cn := l2Site_any F s T k wr (HFA.out.on hnx) (HSA.out.on hnx) HFI.out.good HFI.out.set HFI.out.some HFI.out.lt hlt
      rw [← hq] at cn
      have CN := Lib.hid cn
      have HST := Lib.hid (cli_step F.t.con T m k)
      have hq2 : near (F.t.con.getD k []) T = q := by rw [con_getD F hlt, hq]
      have HO := Lib.hid hown0
      have HN := Lib.hid hnx
      have hszr := hnx.size
      have hcl := cli_len F.t.con T m k
      by_cases hqm : q = m
      · have HL : Hid (cliTo F.t.con T m (k + 1) = cliTo F.t.con T m k ++ [(k : Int)]) := Lib.hid (by rw [HST.out, hq2, if_pos hqm])
        have hqe : ((q : Int) == (m : Int)) = true := by rw [nat_eqB, hqm]; simp
        clear hq cn hown0 hnx hq2 hqm
        go_wp2_with fail
        refine (show Calls _ _ _ _ _ from CN.out).mono ?_
        rintro e W2 ⟨rfl, hb2⟩
        have hown := owns_below HO.out hb2
        have hnx1 := HN.out.trans (hb2.mono hszr)
        have hsz1 := hb2.size
        clear y0 y1
        go_wp2_with (at_builtin; refine wpList_append_own _ rfl _ _ 22 rfl wA.heap.size 3 i0 (.int .i64 0) 1 8 Try.underlying22 hi hz0 hz1 hz2 rfl (by decide) _ _ _ rfl (hown.alloc _) ⟨W2.heap.size, 0, none⟩ 1 1 [.int .i64 (k : Int)] rfl rfl (one_cell _ _ _) (by simp [Value.oneCell']) (by unfold maxLen; omega) (by omega) (by simp; omega) ?_; intro v' w1 hown' hgrow _)
        have R1 : w1.ownsRow wA.heap.size 3 1 v' (cliTo F.t.con T m (k + 1)).length (iv (cliTo F.t.con T m (k + 1))) := by rw [HL.out]; exact own_snoc rfl hown'
        have R2 : Below wA.heap.size wA w1 := (hnx1.alloc (by omega) _).grown hgrow (by simp; omega) (fun j hj => (hown.lt j hj).1)
        clear hown' hgrow hown hnx1
        go_wp2
        go_roundw
        case rel => exact ⟨k + 1, by omega, by go_num, R1, R2⟩
        case measure => simp [intOf]; omega
      · have HL : Hid (cliTo F.t.con T m (k + 1) = cliTo F.t.con T m k) := Lib.hid (by rw [HST.out, hq2, if_neg hqm, List.append_nil])
        have hqe : ((q : Int) == (m : Int)) = false := by rw [nat_eqB]; simp [hqm]
        clear hq cn hown0 hnx hq2 hqm
        go_wp2_with fail
        refine (show Calls _ _ _ _ _ from CN.out).mono ?_
        rintro e W2 ⟨rfl, hb2⟩
        have R1 := Lib.hid (owns_below HO.out hb2)
        have R2 := HN.out.trans (hb2.mono hszr)
        clear y0 y1 hb2
        go_wp2
        go_roundw
        case rel => exact ⟨k + 1, by omega, by go_num, by rw [HL.out]; exact R1.out, R2⟩
        case measure => simp [intOf]; omega
    · obtain rfl : k = F.t.R.length := by omega
      go_wp2
      go_ret
      obtain ⟨t, ht, htl, hto, hti⟩ := row_of_own hown0
      exact ⟨t, congrArg Ending.returned ht, htl, hto, hti.wide hbA.size (Nat.le_refl _), hbA.trans (hnx.mono hbA.size)⟩

/-- What ClientsOf answers. -/
def Clis (F : Fld) (s : Row) (d : List (List Int)) (b : Bool) : Prop :=
  (twoB F s = false ∧ d = [] ∧ b = false) ∨ (∃ T, Fine F s T ∧ twoB F s = true ∧ d = (T.map fun m => cliTo F.t.con T m F.t.R.length) ∧ b = true)
theorem set_few {F : Fld} {s : Row} {T : List Nat} (h : Fine F s T) (hs : s.l.length ≤ 1048576) : T.length ≤ 1048576 := by have := congrArg List.length h.set; rw [up_length] at this; omega

set_option maxRecDepth 16000 in
set_option maxHeartbeats 2000000 in
theorem specClients_any (F : Fld) (s : Row) (w : World) (hF : F.At w) (hs : s.At w) (hsm : s.l.length ≤ 1048576) (d : List (List Int)) (b : Bool) (hv : Clis F s d b) :
    Calls Try.prog 28 #[F.val, .slice s.a s.l.length s.c] w (PTab d b w) := by
  obtain ⟨i0, hi, hz0, hz1, hz2⟩ := info_parts infoInts
  obtain ⟨wA, hA, hbA, bx, hFA, hszA⟩ := laid_fld F w 37 hF
  have HSA := Lib.hid (hs.on hbA)
  have HFA := Lib.hid hFA
  have HBX := Lib.hid bx
  have hb0 := below_alloc wA (.cells #[] 22)
  obtain ⟨w0, hw0⟩ : ∃ u, u = wA.alloc (.cells #[] 22) := ⟨_, rfl⟩
  have hgr0 := tab_empty wA
  rw [← hw0] at hb0 hgr0
  have HW0 : Hid (w0 = (w.alloc (Obj.cells #[F.o.val, F.t.val] 37)).alloc (.cells #[] 22)) := Lib.hid (by rw [hw0, hA])
  have H0 := Lib.hid hgr0
  have CT := Lib.hid (l2Two_any F s w0 (HFA.out.on hb0) (HSA.out.on hb0))
  have hszw : Hid (wA.heap.size = w.heap.size + 1) := Lib.hid hszA
  have y00 := (HBX.out.on hb0).c0
  have y01 := (HBX.out.on hb0).c1
  have Y0 := Lib.hid (show ((w.alloc (Obj.cells #[F.o.val, F.t.val] 37)).alloc (.cells #[] 22)).cell? ⟨w.heap.size, 0, none⟩ = some F.o.val by rw [← HW0.out]; exact y00)
  have Y1 := Lib.hid (show ((w.alloc (Obj.cells #[F.o.val, F.t.val] 37)).alloc (.cells #[] 22)).cell? ⟨w.heap.size, 1, none⟩ = some F.t.val by rw [← HW0.out]; exact y01)
  have z0 := Y0.out
  have z1 := Y1.out
  clear hF hs hA hFA bx hw0 hgr0 hszA y00 y01
  show Calls _ _ #[.agg #[F.o.val, F.t.val], _] w _
  go_enter Try.func28, Try.ntmps28
  go_wp2_with fail
  rw [← HW0.out]
  refine (show Calls _ _ _ _ _ from CT.out).mono ?_
  rintro e W1 ⟨rfl, hb1⟩
  have hb01 := hb0.trans (hb1.mono hb0.size)
  have HO1 := Lib.hid (H0.out.on hb1)
  clear z0 z1
  rcases hv with ⟨hv, rfl, rfl⟩ | ⟨T, hf, hv, rfl, rfl⟩
  · rw [hv]
    clear hv
    go_wp2
    go_ret2
    exact tab_end (by have := HO1.out; rw [hszw.out] at this; exact this) rfl (by omega) (hbA.trans (hb01.mono hbA.size))
  · rw [hv]
    have hti : (T.length : Int) ≤ 1048576 := by have := set_few hf hsm; omega
    have hsl : s.l.length = T.length := by rw [hf.set, up_length]
    have HFI := Lib.hid hf
    rw [hsl]
    have HSL := Lib.hid hsl
    clear hv hf hsl hsm
    go_wp2
    go_loopw [6, 7] (fun out i wr => ∃ (k : Nat) (Q : List Row), k ≤ T.length ∧ i = .int .i64 k ∧ Q.length = k ∧ Q.map Row.l = (T.take k).map (fun m => cliTo F.t.con T m F.t.R.length) ∧ Grows wA.heap.size wr out Q ∧ Below wA.heap.size wA wr) (fun _ i _ => T.length - (intOf i).toNat)
    case atStart => exact ⟨0, [], Nat.zero_le _, rfl, rfl, rfl, by have := HO1.out; rw [hszw.out] at this ⊢; exact this, hb01⟩
    case round =>
      obtain ⟨k, Q, hk, rfl, hQl, hQm, hgr, hnx⟩ := hrel
      have y0 := (HBX.out.on hnx).c0
      have y1 := (HBX.out.on hnx).c1
      by_cases hlt : k < T.length
      · have hlti : (k : Int) < (T.length : Int) := by omega
        obtain ⟨m, hm⟩ : ∃ m, m = T[k] := ⟨_, rfl⟩
        obtain ⟨_, _, h3⟩ := HSA.out
        rcases h3 with h3 | ⟨b, o, ha, hbb, hcell⟩
        · have h3' := congrArg List.length (iv_nil h3); rw [HSL.out, List.length_nil] at h3'; omega
        have hcm : wr.cell? ⟨b, o + k, none⟩ = some (.int .i64 (m : Int)) := by
          refine (hnx.cell (p := ⟨b, o + k, none⟩) hbb).trans (hcell k _ ?_)
          rw [HFI.out.set, iv_at (by rw [up_length]; exact hlt), up_at hlt, hm]
        have hd0 : Below wr.heap.size wr wr.drew := (Below.refl _ _).drew
        have CC := Lib.hid (fun u (hu : Below wA.heap.size wA u) => by have := l2Clients_any F s T m u (HFA.out.on hu) (HSA.out.on hu) HFI.out; rw [HSL.out, ha] at this; exact this : ∀ u, Below wA.heap.size wA u → Calls Try.prog 44 #[F.val, .slice (some ⟨b, o, none⟩) T.length s.c, .int .i64 m] u fun e w' => ∃ t : Row, e = .returned (.slice t.a t.l.length t.c) ∧ t.l = cliTo F.t.con T m F.t.R.length ∧ t.Own 3 w' ∧ t.In u.heap.size w'.heap.size w' ∧ Below u.heap.size u w')
        have HQ : Hid (Q.map Row.l ++ [cliTo F.t.con T m F.t.R.length] = (T.take (k + 1)).map (fun m => cliTo F.t.con T m F.t.R.length)) := Lib.hid (by
          rw [hQm, List.take_succ_eq_append_getElem hlt, List.map_append, hm]; rfl)
        have HG := Lib.hid (hgr.on hd0)
        have hN : Below wA.heap.size wA wr.drew := hnx.drew
        have HQL := Lib.hid hQl
        have hszr : wA.heap.size ≤ wr.drew.heap.size := hnx.size
        have HCM := Lib.hid (fun u (hu : Below wA.heap.size wA u) => by
          refine (hu.cell (p := ⟨b, o + k, none⟩) hbb).trans (hcell k _ ?_)
          rw [HFI.out.set, iv_at (by rw [up_length]; exact hlt), up_at hlt, hm] : ∀ u, Below wA.heap.size wA u → u.cell? ⟨b, o + k, none⟩ = some (.int .i64 (m : Int)))
        have HS : Hid (∀ u, Below wA.heap.size wA u → ((u.cell? ⟨w.heap.size, 0, none⟩ = some F.o.val ∧ u.cell? ⟨w.heap.size, 1, none⟩ = some F.t.val ∧ u.cell? ⟨b, o + k, none⟩ = some (.int .i64 (m : Int))) ∧ Below wA.heap.size wA u)) := Lib.hid fun u hu => ⟨⟨(HBX.out.on hu).c0, (HBX.out.on hu).c1, HCM.out u hu⟩, hu⟩
        have s0 := HS.out _ hN
        have hQ8 : Q.length ≤ 1048576 := by omega
        rw [ha]
        clear hm hcell hQm hgr hnx hQl ha hd0 hcm y0 y1
        go_wp2_with fail
        go_region_held3 (fun u => ((u.cell? ⟨w.heap.size, 0, none⟩ = some F.o.val ∧ u.cell? ⟨w.heap.size, 1, none⟩ = some F.t.val ∧ u.cell? ⟨b, o + k, none⟩ = some (.int .i64 (m : Int))) ∧ Below wA.heap.size wA u)) (first | exact s0 | exact HS.out _ (by assumption)) (first | (go_at_call 44; refine (show Calls _ _ _ _ _ from CC.out _ hN).mono ?_; rintro e u1 ⟨t, rfl, htl, hto, hti2, hb2⟩; have HTL := Lib.hid htl; have HTO := Lib.hid hto; have HTI := Lib.hid hti2; have HB2 := Lib.hid hb2; have hsz2 := hb2.size; have hgr2 := HG.out.on hb2; have hown := hgr2.own; have hB1 : Below wA.heap.size wA u1 := hN.trans (hb2.mono hszr); have hB2 : Below wA.heap.size wA (u1.alloc (.cells #[.slice t.a t.l.length t.c] 22)) := hB1.alloc (by omega) _; clear htl hto hti2 hb2) | (refine step_append_lies _ rfl (.tmp 20) (.tmp 28) 23 rfl wA.heap.size 22 i0 (.slice none 0 0) 1 24 Try.underlying23 hi hz0 hz1 hz2 rfl (by decide) _ _ _ rfl (hown.alloc _) ⟨u1.heap.size, 0, none⟩ 1 1 [.slice t.a t.l.length t.c] rfl rfl (one_cell _ _ _) (by simp [Value.oneCell']) (by omega) (by unfold maxLen; omega) (by omega) (by simp; omega) _ rfl ?_; intro g cap w1 hown' hgrow hat hlt1; have hB3 : Below wA.heap.size wA w1 := hB2.grown hgrow (by simp; omega) (fun j hj => (hown.lt j hj).1)))
        have hba := below_alloc u1 (.cells #[.slice t.a t.l.length t.c] 22)
        have hfr := HG.out.fresh HTI.out
        have hgr3 := hgr2.on hba
        have hloc : (Value.slice (some ⟨g, 0, none⟩) (Q.length + 1) cap).ownBlock = u6.ownBlock ∨ ∃ g', (Value.slice (some ⟨g, 0, none⟩) (Q.length + 1) cap).ownBlock = some g' ∧ (u1.alloc (.cells #[.slice t.a t.l.length t.c] 22)).heap.size ≤ g' := by
          rcases hat with h | h
          · exact .inl h.symm
          · exact .inr ⟨g, rfl, Nat.le_of_eq h.symm⟩
        have R1 := hgr3.append (HTO.out.on hba) (((HTI.out.wide (by omega) (Nat.le_refl _)).on hba).wide (Nat.le_refl _) hba.size) hfr.1 hfr.2 hown' hgrow hloc
        have R1h := Lib.hid R1
        clear hown' hgrow hown R1 hgr3 hgr2 hfr hat hloc s0 hB1 hB2 hba hsz2
        go_wp2
        go_roundw
        case rel => exact ⟨k + 1, Q ++ [t], by omega, by go_num, by rw [List.length_append, HQL.out]; rfl, by rw [List.map_append, ← HQ.out, ← HTL.out]; rfl, R1h.out, hB3⟩
        case measure => simp [intOf]; omega
      · obtain rfl : k = T.length := by omega
        go_wp2
        go_ret2
        exact tab_end hgr (by rw [hQm, List.take_length]) hbA.size (hbA.trans (hnx.mono hbA.size))

end Go.Proofs.Ytfgedolngcdjpaa
