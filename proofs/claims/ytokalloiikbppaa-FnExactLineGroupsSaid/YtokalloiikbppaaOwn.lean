/- The contracts of the model's copies of lists and Fields. Condition: a valid Field. -/
import Derived.Test.YtokalloiikbppaaMapField
namespace Go.Proofs.Ytokalloiikbppaa
open Go.RowKit

set_option maxHeartbeats 1000000 in
theorem l1Own_any (r : Row) (w : World) (hr : r.At w) (h0 : 0 < r.l.length) (hn : r.l.length ≤ 1048576) :
    Calls Try.prog 120 #[.slice r.a r.l.length r.c] w fun e w' => ∃ t : Row, e = .returned (.slice t.a t.l.length t.c) ∧ t.l = r.l ∧ t.Own 3 w' ∧ t.In w.heap.size w'.heap.size w' ∧ Below w.heap.size w w' := by
  obtain ⟨i0, hi, hz0, hz1, hz2⟩ := info_parts infoInt
  obtain ⟨a, c, l⟩ := r
  obtain ⟨h1, h2, h3⟩ := hr
  simp only at h1 h2 h3 h0 hn ⊢
  rcases h3 with h3 | ⟨b, o, rfl, hb, hcell⟩
  · have h3' := congrArg List.length (iv_nil h3); rw [List.length_nil] at h3'; omega
  have H0 := empty_own w
  have HB0 := below_alloc w (.cells #[] 3)
  have hnews : ∀ j u, (iv l)[j]? = some u → (w.alloc (.cells #[] 3)).cell? ((⟨b, o, none⟩ : Addr).add j) = some u := fun j u hj => by
    rw [show (⟨b, o, none⟩ : Addr).add j = ⟨b, o + j, none⟩ by unfold Addr.add; split <;> simp_all]
    exact (HB0.cell (p := ⟨b, o + j, none⟩) hb).trans (hcell j u hj)
  have hone : ∀ u ∈ iv l, u.oneCell' = true := fun u hu => by unfold iv at hu; obtain ⟨y, _, rfl⟩ := List.mem_map.1 hu; rfl
  have HN := Lib.hid hnews
  have HO := Lib.hid hone
  have HZ := Lib.hid H0
  have HBB := Lib.hid HB0
  clear hnews hone hcell H0 HB0
  go_enter Try.func120, Try.ntmps120
  go_wp2_with (at_builtin; refine wpList_append_own _ rfl _ _ 22 rfl w.heap.size 3 i0 (.int .i64 0) 1 8 Try.underlying22 hi hz0 hz1 hz2 rfl (by decide) _ 0 (iv []) rfl HZ.out ⟨b, o, none⟩ l.length c (iv l) rfl (by rw [iv_length]; omega) HN.out HO.out (by unfold maxLen; omega) (by omega) (by rw [size_alloc]; omega) ?_; intro v' w1 hown' hgrow _)
  have R1 : w1.ownsRow w.heap.size 3 1 v' l.length (iv l) := by simpa [iv] using hown'
  have R2 : Below w.heap.size w w1 := HBB.out.grown hgrow (by rw [size_alloc]; omega) (fun j hj => (HZ.out.lt j hj).1)
  clear hown' hgrow
  go_wp2
  go_ret
  obtain ⟨t, ht, htl, hto, hti⟩ := row_of_own R1
  exact ⟨t, congrArg Ending.returned ht, htl, hto, hti, R2⟩

set_option maxRecDepth 16000 in
set_option maxHeartbeats 1500000 in
theorem l2Own_any (F : Fld) (w : World) (hF : F.At w) (hg : F.good = true) :
    Calls Try.prog 103 #[F.val] w fun e w' => ∃ G : Fld, e = .returned G.val ∧ G.Like F ∧ G.Own 3 w' ∧ G.In w.heap.size w'.heap.size w' ∧ Below w.heap.size w w' := by
  obtain ⟨i0, hi, hz0, hz1, hz2⟩ := info_parts infoInts
  have hsz := good_sizes hg
  obtain ⟨wA, hA⟩ : ∃ wA, wA = (w.alloc (Obj.cells #[F.o.val, F.t.val] 29)).alloc (Obj.cells #[.slice none 0 0, .slice none 0 0] 29) := ⟨_, rfl⟩
  have hbA : Below w.heap.size w wA := by rw [hA]; exact ((Below.refl _ _).alloc (Nat.le_refl _) _).alloc (by rw [size_alloc]; omega) _
  have hsA : wA.heap.size = w.heap.size + 2 := by rw [hA, size_alloc, size_alloc]
  have b0 : Box2 wA w.heap.size F.o.val F.t.val 29 := by rw [hA]; exact (Box2.made w _ _ _).later _
  have b2 : Box2 wA (w.heap.size + 1) (.slice none 0 0) (.slice none 0 0) 29 := by
    rw [hA]
    have := Box2.made (w.alloc (Obj.cells #[F.o.val, F.t.val] 29)) (.slice none 0 0) (.slice none 0 0) 29
    rw [size_alloc] at this; exact this
  have hFA := hF.on hbA
  have CO := Lib.hid (l1Own_any F.o wA hFA.1 (by omega) (by omega))
  have CR := Lib.hid (fun (u : World) (hu : Below wA.heap.size wA u) (r : Row) (hr : r ∈ F.t.R) => l1Own_any r u ((hFA.2.2 r hr).on hu) (by rw [(good_row hg hr).1]; omega) (by rw [(good_row hg hr).1]; omega))
  have HFA := Lib.hid hFA
  have HA := Lib.hid hA
  have B0 := Lib.hid b0
  have B2 := Lib.hid b2
  have HS := Lib.hid hsA
  have hRi : (F.t.R.length : Int) ≤ 7 := by omega
  have hoi : (F.o.l.length : Int) ≤ 7 := by omega
  have z0 := b0.c0
  rw [hA] at z0
  clear hF hg hA b0 b2 hFA hsA hsz
  show Calls _ _ #[.agg #[F.o.val, F.t.val]] w _
  go_enter Try.func103, Try.ntmps103
  go_wp2_with fail
  rw [← HA.out]
  refine (show Calls _ _ _ _ _ from CO.out).mono ?_
  rintro e W1 ⟨s, rfl, hsl, hso, hsi, hb1⟩
  clear z0

  have HSL := Lib.hid hsl
  have HSO := Lib.hid hso
  have HSI := Lib.hid hsi
  have HB1 := Lib.hid hb1
  have hsz1 := hb1.size
  have hs3 : w.heap.size + 2 ≤ W1.heap.size := by rw [← HS.out]; exact hsz1
  obtain ⟨wR, hR⟩ : ∃ u, u = W1.alloc (.cells #[.slice s.a s.l.length s.c, .slice none 0 0] 29) := ⟨_, rfl⟩
  have hb1R : Below W1.heap.size W1 wR := by rw [hR]; exact below_alloc _ _
  have hszR : wR.heap.size = W1.heap.size + 1 := by rw [hR, size_alloc]
  have bR : Box2 wR W1.heap.size (.slice s.a s.l.length s.c) (.slice none 0 0) 29 := by rw [hR]; exact Box2.made _ _ _ _
  have hbAR : Below wA.heap.size wA wR := hb1.trans (hb1R.mono hsz1)
  have g0 : Grows W1.heap.size wR (.slice none 0 0) [] := ⟨⟨rfl, .inl ⟨rfl, rfl⟩⟩, ⟨by simp, List.Pairwise.nil⟩, by simp, by simp⟩
  have HWR : Hid (wR = W1.alloc (.cells #[.slice s.a s.l.length s.c, .slice none 0 0] 29)) := Lib.hid hR
  have G0 := Lib.hid g0
  have BR := Lib.hid bR
  have HBAR := Lib.hid hb1R
  clear hsl hso hsi hb1 hR bR hb1R hbAR g0
  go_wp2
  go_loopw [4] (fun i wr => ∃ (k : Nat) (Q : List Row) (v : Value), k ≤ F.t.R.length ∧ i = .int .i64 k ∧ Q.length = k ∧ Q.map Row.l = F.t.con.take k ∧ Grows W1.heap.size wr v Q ∧ Box2 wr (W1.heap.size) (.slice s.a s.l.length s.c) v 29 ∧ v.ownBlock ≠ some (W1.heap.size) ∧ (∀ r ∈ Q, r.In (W1.heap.size + 1) wr.heap.size wr) ∧ Below W1.heap.size W1 wr) (fun i _ => F.t.R.length - (intOf i).toNat)
  case atStart => exact ⟨0, [], _, Nat.zero_le _, rfl, rfl, rfl, by rw [← HWR.out]; exact G0.out, by rw [← HWR.out]; exact BR.out, by simp [Value.ownBlock], by simp, by rw [← HWR.out]; exact HBAR.out⟩
  case round =>
    obtain ⟨k, Q, v, hk, rfl, hQl, hQm, hgr, hbx, hvne, hQi, hn1⟩ := hrel
    have hnx : Below wA.heap.size wA wr := HB1.out.trans (hn1.mono hsz1)
    have y1 : wr.cell? ⟨w.heap.size, 1, none⟩ = some (.slice F.t.a F.t.R.length F.t.c) := (B0.out.on hnx).c1
    by_cases hlt : k < F.t.R.length
    · have hlti : (k : Int) < (F.t.R.length : Int) := by omega
      obtain ⟨_, _, r3⟩ := HFA.out.2.1
      rcases r3 with r3 | ⟨bT, oT, hTa, hTb, hTc⟩
      · have r3' := congrArg List.length r3; rw [tv_length, List.length_nil] at r3'; omega
      obtain ⟨r, hr⟩ : ∃ r, r = F.t.R[k] := ⟨_, rfl⟩
      have hcr : wr.cell? ⟨bT, oT + k, none⟩ = some (.slice r.a r.l.length r.c) := (hnx.cell (p := ⟨bT, oT + k, none⟩) hTb).trans (by rw [hr]; exact hTc k _ (tv_at hlt))
      have hrm : r ∈ F.t.R := by rw [hr]; exact List.getElem_mem hlt
      have hd0 : Below wr.heap.size wr wr.drew := (Below.refl _ _).drew
      have hnd := hnx.drew
      have CM := Lib.hid (CR.out wr.drew hnd r hrm)
      have HQM : Hid (Q.map Row.l ++ [r.l] = F.t.con.take (k + 1)) := Lib.hid (by
        rw [hQm, List.take_succ_eq_append_getElem (by rw [con_length]; exact hlt), con_at F.t hlt, hr])
      have HQL := Lib.hid hQl
      have hQ8 : Q.length ≤ 7 := by omega
      have HG := Lib.hid (hgr.on hd0)
      have HBX := Lib.hid (hbx.on hd0)
      have HQI := Lib.hid (fun r hr => (hQi r hr).on hd0 : ∀ r ∈ Q, r.In (W1.heap.size + 1) wr.heap.size wr.drew)
      have HND := Lib.hid (show Below W1.heap.size W1 wr.drew from hn1.drew)
      have HVN := Lib.hid hvne
      have hszr : W1.heap.size + 1 ≤ wr.drew.heap.size := by
        have := hgr.own; have h2 := hbx.lt; show _ ≤ wr.heap.size; omega
      have hszA : wA.heap.size ≤ wr.drew.heap.size := hnd.size
      have c1 : wr.cell? ⟨W1.heap.size, 1, none⟩ = some v := hbx.c1
      rw [hTa] at y1
      clear hr hrm hTc hTa hQm hQl hgr hbx hvne hQi hnx hd0 hnd hn1
      go_wp2
      go_region_law (first | (refine step_append_lies _ rfl (.tmp 17) (.tmp 24) 23 rfl W1.heap.size 22 i0 (.slice none 0 0) 1 24 Try.underlying23 hi hz0 hz1 hz2 rfl (by decide) _ _ _ rfl (hown.alloc _) ⟨u1.heap.size, 0, none⟩ 1 1 [.slice t.a t.l.length t.c] rfl rfl (one_cell _ _ _) (by simp [Value.oneCell']) (by omega) (by unfold maxLen; omega) (by omega) (by simp; omega) _ rfl ?_; intro g cap w1 hown' hgrow hat hlt1; have hbx1 : Box2 w1 (W1.heap.size) (.slice s.a s.l.length s.c) v 29 := (hgrow.block (W1.heap.size) (by rw [size_alloc]; omega) (fun e => HVN.out e.symm)).trans (hbx2.on (below_alloc _ _)); have c2 := hbx1.c1; have f2 := hbx1.fr 1) | (go_simp; go_at_call 120; refine (show Calls _ _ _ _ _ from CM.out).mono ?_; rintro e u1 ⟨t, rfl, htl, hto, hti2, hb2⟩; have HTL := Lib.hid htl; have HTO := Lib.hid hto; have HTI := Lib.hid hti2; have hgr2 := HG.out.on hb2; have hown := hgr2.own; have hbx2 := HBX.out.on hb2; have c3 := hbx2.c1; have c4 := (hbx2.on (below_alloc u1 (.cells #[.slice t.a t.l.length t.c] 22))).c1; have hsz2 := hb2.size; have HB2 := Lib.hid hb2; clear htl hto hti2 hb2))
      all_goals (
        have hba := below_alloc u1 (.cells #[.slice t.a t.l.length t.c] 22)
        have hfr := HG.out.fresh HTI.out
        have hgr3 := hgr2.on hba
        have hloc : (Value.slice (some ⟨g, 0, none⟩) (Q.length + 1) cap).ownBlock = v.ownBlock ∨ ∃ g', (Value.slice (some ⟨g, 0, none⟩) (Q.length + 1) cap).ownBlock = some g' ∧ (u1.alloc (.cells #[.slice t.a t.l.length t.c] 22)).heap.size ≤ g' := by
          rcases hat with h | h
          · exact .inl h.symm
          · exact .inr ⟨g, rfl, Nat.le_of_eq h.symm⟩
        have R1 := hgr3.append (HTO.out.on hba) (((HTI.out.wide (by omega) (Nat.le_refl _)).on hba).wide (Nat.le_refl _) hba.size) hfr.1 hfr.2 hown' hgrow hloc
        have hvn' : (Value.slice (some ⟨g, 0, none⟩) (Q.length + 1) cap).ownBlock ≠ some (W1.heap.size) := by
          rcases hat with h | h
          · exact fun e => HVN.out (h.trans e)
          · intro e; simp only [Value.ownBlock, Option.some.injEq] at e; rw [size_alloc] at h; omega
        have hall : ∀ r ∈ Q ++ [t], r.In (W1.heap.size + 1) w1.heap.size w1 := fun r hr => by
          have h1 := R1.ins r hr
          rcases List.mem_append.1 hr with hr | hr
          · exact (HQI.out r hr).mix h1
          · rw [List.mem_singleton] at hr; subst hr; exact (HTI.out.wide (by omega) (Nat.le_refl _)).mix h1
        have hst := set_touch w1 (W1.heap.size) 1 (.slice (some ⟨g, 0, none⟩) (Q.length + 1) cap)
        have R2 := Lib.hid (R1.touch hst hvn' hall)
        have R3 := Lib.hid (hbx1.set1 (.slice (some ⟨g, 0, none⟩) (Q.length + 1) cap))
        have R4 := Lib.hid (fun r hr => ((hall r hr).touch hst (.inr (Nat.le_refl _))).wide (Nat.le_refl _) hst.size : ∀ r ∈ Q ++ [t], r.In (W1.heap.size + 1) (w1.setCell ⟨W1.heap.size, 1, none⟩ (.slice (some ⟨g, 0, none⟩) (Q.length + 1) cap)).heap.size (w1.setCell ⟨W1.heap.size, 1, none⟩ (.slice (some ⟨g, 0, none⟩) (Q.length + 1) cap)))
        have R5 := Lib.hid ((((HND.out.trans (HB2.out.mono (by omega))).alloc (by have := HB2.out.size; omega) _).grown hgrow (by rw [size_alloc]; have := HB2.out.size; omega) (fun j hj => (hown.lt j hj).1)).setCell (p := ⟨W1.heap.size, 1, none⟩) (by show W1.heap.size ≤ W1.heap.size; omega) (.slice (some ⟨g, 0, none⟩) (Q.length + 1) cap))
        have HVX := Lib.hid hvn'
        clear hba hfr hgr3 hloc R1 hvn' hall hst hgr2 hown hown' hgrow hat hbx1 hbx2 c1 c2 c3 c4 f2 hlt1 y1 hcr
        go_wp2
        go_roundw
        case rel => exact ⟨k + 1, Q ++ [t], _, by omega, by go_num, by rw [List.length_append, HQL.out]; rfl, by rw [List.map_append, ← HQM.out, ← HTL.out]; rfl, R2.out, R3.out, HVX.out, R4.out, R5.out⟩
        case measure => simp [intOf]; omega)
    · obtain rfl : k = F.t.R.length := by omega
      obtain ⟨T, hv, hTR, hTo, hTi⟩ := tab_of hgr
      subst hv
      have b2 := B2.out.on hnx
      have y20 := b2.c0
      have y21 := b2.c1
      have f20 := b2.fr 0
      have f21 := b2.fr 1
      have x0 := hbx.c0
      have x1 := hbx.c1
      have B2F := Lib.hid b2
      have HTR := Lib.hid hTR
      have HTO := Lib.hid hTo
      have HTI := Lib.hid hTi
      have HQM := Lib.hid hQm
      have HN := Lib.hid hnx
      have HS2 := Lib.hid (HSI.out.on hn1)
      have HO2 := Lib.hid ((HSO.out).on hn1)
      have hszr := hn1.size
      clear b2 hTR hTo hTi hQm hgr hbx hvne hQi hnx hQl hn1
      go_wp2
      obtain ⟨wF, hF⟩ : ∃ wF, wF = (wr.setCell ⟨w.heap.size + 1, 0, none⟩ (.slice s.a s.l.length s.c)).setCell ⟨w.heap.size + 1, 1, none⟩ (.slice T.a T.R.length T.c) := ⟨_, rfl⟩
      rw [← hF]
      have bF : Box2 wF (w.heap.size + 1) (.slice s.a s.l.length s.c) (.slice T.a T.R.length T.c) 29 := by rw [hF]; exact ((B2F.out).set0 _).set1 _
      have tF : Touch (w.heap.size + 1) (w.heap.size + 1 + 1) wr wF := by
        rw [hF]
        exact ((Touch.refl _ _ wr).set (by omega) (by omega) _ _).set (by omega) (by omega) _ _
      have r0 := bF.c0
      have r1 := bF.c1
      clear y20 y21 f20 f21 x0 x1 hF
      refine bodyPost_ret (v := .agg #[.slice s.a s.l.length s.c, .slice T.a T.R.length T.c]) (by simp [results, Try.results103, go_sem, r0, r1]) rfl ?_
      have hS : wA.heap.size = w.heap.size + 2 := HS.out
      have hsF := HS2.out.touch tF (.inr (by omega))
      have hoF := HO2.out.touch HS2.out tF (.inr (by omega))
      have hTF := HTI.out.touch tF (.inr (by omega))
      have hTO : T.Own 3 wF := ⟨⟨fun r hr => (HTO.out.1.1 r hr).touch (HTI.out.2 r hr) tF (.inr (by omega)), HTO.out.1.2⟩, HTO.out.2⟩
      obtain ⟨j1, j2⟩ := fld_join hoF hsF hTO hTF hsz1 hszr
      have hcon : T.con = F.t.con := by
        have := HQM.out
        rw [← HTR.out, ← con_length, List.take_length] at this
        exact this
      exact ⟨⟨s, T⟩, rfl, ⟨HSL.out, hcon⟩, j1, j2.wide (by omega) tF.size, (hbA.trans (HN.out.mono hbA.size)).trans (tF.below (by omega) (by have := hbA.size; have := HN.out.size; omega))⟩


end Go.Proofs.Ytokalloiikbppaa
