/- The contracts of the mapping of a Field by a function of the program, one for each such function. Condition: a valid Field, the function has its contract. -/
import Derived.Test.YtokalloiikbppaaMapVals
import Derived.Deep.AppendLies
import Derived.Deep.RegionLaw
namespace Go.Proofs.Ytokalloiikbppaa
open Go.RowKit

theorem owns_touch {B p q n : Nat} {e : TypeId} {w w' : World} {v : Value} {xs : List Value} (h : w.ownsRow B e 1 v n xs) (t : Touch p q w w') (hn : ∀ g, v.ownBlock = some g → ¬ (p ≤ g ∧ g < q)) : w'.ownsRow B e 1 v n xs := by
  obtain ⟨h1, h2⟩ := id h
  refine ⟨h1, ?_⟩
  rcases h2 with h2 | ⟨g, cap, cur, rfl, hB, hg, r⟩
  · exact .inl h2
  · exact .inr ⟨g, cap, cur, rfl, hB, (t.block g (Array.getElem?_eq_some_iff.1 hg).1 (hn g rfl)).trans hg, r⟩
/-- A table that grows, a write into one block apart. -/
theorem Grows.touch {B R : Nat} {w w' : World} {v : Value} {Q : List Row} (h : Grows B w v Q) (t : Touch R (R + 1) w w') (hv : v.ownBlock ≠ some R) (hr : ∀ r ∈ Q, r.In (R + 1) w.heap.size w) : Grows B w' v Q :=
  ⟨owns_touch h.own t (fun g hg hn => hv (by rw [hg]; congr 1; omega)), ⟨fun r hq => (h.lots.1 r hq).touch (hr r hq) t (.inr (Nat.le_refl _)), h.lots.2⟩,
    fun r hq => by
      obtain ⟨a1, a2, a3⟩ := (hr r hq).touch t (.inr (Nat.le_refl _))
      obtain ⟨_, _, c3⟩ := h.ins r hq
      refine ⟨a1, a2, ?_⟩
      rcases a3 with a3 | ⟨b, o, e, hl, hh, hb, hc⟩
      · exact .inl a3
      · rcases c3 with c3 | ⟨b', o', e', hl', hh', hb', hc'⟩
        · exact .inl c3
        · rw [e] at e'
          simp only [Option.some.injEq, Addr.mk.injEq] at e'
          obtain ⟨rfl, rfl, _⟩ := e'
          exact .inr ⟨b, o, e, hl', Nat.lt_of_lt_of_le hh' t.size, hb, hc⟩, h.off⟩

theorem Row.In.mix {r : Row} {lo hi lo' hi' : Nat} {w w' : World} (h : r.In lo hi w) (h' : r.In lo' hi' w') : r.In lo hi' w' := by
  obtain ⟨_, _, a3⟩ := h
  obtain ⟨c1, c2, c3⟩ := h'
  refine ⟨c1, c2, ?_⟩
  rcases c3 with c3 | ⟨b, o, e, hl, hh, hb, hc⟩
  · exact .inl c3
  · rcases a3 with a3 | ⟨b', o', e', hl', _, _, _⟩
    · exact .inl a3
    · rw [e] at e'
      simp only [Option.some.injEq, Addr.mk.injEq] at e'
      obtain ⟨rfl, rfl, _⟩ := e'
      exact .inr ⟨b, o, e, hl', hh, hb, hc⟩
/-- The table that has grown, by its parts. -/
theorem tab_of {w' : World} {B : Nat} {v : Value} {Q : List Row} (h : Grows B w' v Q) : ∃ T : Tab, v = .slice T.a T.R.length T.c ∧ T.R = Q ∧ T.Own 3 w' ∧ T.In B w'.heap.size w' := by
  have hsp : ∃ T : Tab, v = .slice T.a T.R.length T.c ∧ T.R = Q ∧ RowIn B w'.heap.size w' T.a T.c (tv Q) ∧ (∀ x, T.a = some x → Q ≠ [] → v.ownBlock = some x.block) := by
    rcases id h.own.2 with ⟨hv, h0⟩ | ⟨g, cap, cur, hv, hBg, _⟩
    · have hQ : Q = [] := List.eq_nil_of_length_eq_zero h0
      subst hQ
      exact ⟨⟨none, 0, []⟩, hv, rfl, ⟨by simp [tv], by decide, .inl rfl⟩, fun x hx => by cases hx⟩
    · subst hv
      refine ⟨⟨some ⟨g, 0, none⟩, cap, Q⟩, rfl, rfl, ?_, fun x hx _ => by cases hx; rfl⟩
      obtain ⟨q1, q2, q3⟩ := row_of_owns h.own
      refine ⟨q1, q2, ?_⟩
      rcases q3 with q3 | ⟨b', o, e0, hb', hc⟩
      · exact .inl q3
      · simp only [Option.some.injEq, Addr.mk.injEq] at e0
        obtain ⟨rfl, rfl, _⟩ := e0
        exact .inr ⟨_, _, rfl, hBg, hb', hb', hc⟩
  obtain ⟨T, hv, hR, hrow, hblk⟩ := hsp
  refine ⟨T, hv, hR, ⟨by rw [hR]; exact h.lots, fun r hr x y h1 h2 e1 e2 he => ?_⟩, ⟨by rw [hR]; exact hrow, fun r hr => by rw [hR] at hr; exact h.ins r hr⟩⟩
  rw [hR] at hr h2
  have := hblk y e2 h2
  exact h.off r hr h1 x e1 (by rw [this, he])
/-- A row and a table of the call's own make a Field of its own. -/
theorem fld_join {w : World} {lo mid hi : Nat} {s : Row} {T : Tab} (hso : s.Own 3 w) (hsi : s.In lo mid w) (hTo : T.Own 3 w) (hTi : T.In mid hi w) (h1 : lo ≤ mid) (h2 : mid ≤ hi) : (Fld.mk s T).Own 3 w ∧ (Fld.mk s T).In lo hi w := by
  have hap : ∀ r ∈ T.R, s.Apart r := fun r hr x y h1 h2 e1 e2 => by
    obtain ⟨_, _, q3⟩ := hTi.2 r hr
    obtain ⟨_, _, p3⟩ := hsi
    rcases q3 with q3 | ⟨b', o', e', hlo, _, _, _⟩
    · exact absurd (iv_nil q3) h2
    rcases p3 with p3 | ⟨b, o, e0, _, hhi, _, _⟩
    · exact absurd (iv_nil p3) h1
    rw [e2] at e'; rw [e1] at e0
    simp only [Option.some.injEq] at e' e0
    subst e' e0
    simp only; omega
  refine ⟨⟨⟨fun r hr => ?_, List.pairwise_cons.2 ⟨hap, hTo.1.2⟩⟩, fun r hr x y h1 h2 e1 e2 => ?_⟩, ⟨hsi.wide (Nat.le_refl _) h2, hTi.wide h1 (Nat.le_refl _)⟩⟩
  · rcases List.mem_cons.1 hr with hr | hr
    · subst hr; exact hso
    · exact hTo.1.1 r hr
  · rcases List.mem_cons.1 hr with hr | hr
    · subst hr
      obtain ⟨_, _, q3⟩ := hTi.1
      obtain ⟨_, _, p3⟩ := hsi
      rcases q3 with q3 | ⟨b', o', e', hlo, _, _, _⟩
      · exact absurd (List.eq_nil_of_length_eq_zero (by rw [← tv_length, q3]; rfl)) h2
      rcases p3 with p3 | ⟨b, o, e0, _, hhi, _, _⟩
      · exact absurd (iv_nil p3) h1
      simp only at e2
      rw [e2] at e'; rw [e1] at e0
      simp only [Option.some.injEq] at e' e0
      subst e' e0
      simp only; omega
    · exact hTo.2 r hr x y h1 h2 e1 e2

set_option maxRecDepth 16000 in
set_option maxHeartbeats 1500000 in
theorem mapField_copy (F : Fld) (φ : Int → Int) (w : World) (hF : F.At w) (hg : F.good = true)
    (hP : ∀ x, 0 ≤ x → x ≤ 99 → ∀ u, Below w.heap.size w u → Calls Try.prog 107 #[.int .i64 x] u fun e w' => e = .returned (.int .i64 (φ x)) ∧ Below u.heap.size u w') :
    Calls Try.prog 106 #[F.val, .func (.func 107) #[] #[]] w fun e w' => ∃ G : Fld, e = .returned G.val ∧ G.o.l = F.o.l.map φ ∧ G.t.con = F.t.con.map (List.map φ) ∧ G.Own 3 w' ∧ G.In w.heap.size w'.heap.size w' ∧ Below w.heap.size w w' := by
  obtain ⟨i0, hi, hz0, hz1, hz2⟩ := info_parts infoInts
  have hsz := good_sizes hg
  obtain ⟨wA, hA⟩ : ∃ wA, wA = ((w.alloc (Obj.cells #[F.o.val, F.t.val] 29)).alloc (Obj.cells #[.func (.func 107) #[] #[]] 67)).alloc (Obj.cells #[.slice none 0 0, .slice none 0 0] 29) := ⟨_, rfl⟩
  have hbA : Below w.heap.size w wA := by rw [hA]; exact (((Below.refl _ _).alloc (Nat.le_refl _) _).alloc (by rw [size_alloc]; omega) _).alloc (by rw [size_alloc, size_alloc]; omega) _
  have hsA : wA.heap.size = w.heap.size + 3 := by rw [hA, size_alloc, size_alloc, size_alloc]
  have b0 : Box2 wA w.heap.size F.o.val F.t.val 29 := by rw [hA]; exact ((Box2.made w _ _ _).later _).later _
  have bV : wA.cell? ⟨w.heap.size + 1, 0, none⟩ = some (.func (.func 107) #[] #[]) := by
    rw [hA]
    have h1 : (w.alloc (Obj.cells #[F.o.val, F.t.val] 29)).heap.size = w.heap.size + 1 := size_alloc _ _
    refine ((below_alloc _ _).cell (p := ⟨w.heap.size + 1, 0, none⟩) (by show w.heap.size + 1 < _; rw [size_alloc, h1]; omega)).trans ?_
    rw [← h1]; simp
  have b2 : Box2 wA (w.heap.size + 1 + 1) (.slice none 0 0) (.slice none 0 0) 29 := by
    rw [hA]
    have := Box2.made ((w.alloc (Obj.cells #[F.o.val, F.t.val] 29)).alloc (Obj.cells #[.func (.func 107) #[] #[]] 67)) (.slice none 0 0) (.slice none 0 0) 29
    rw [size_alloc, size_alloc] at this; exact this
  have hFA := hF.on hbA
  have CO := Lib.hid (mapVals_copy F.o (w.heap.size + 1) φ wA hFA.1 hsz.2.1 bV (fun x hx u hu => hP x (good_open hg x hx).1 (good_open hg x hx).2 u (hbA.trans (hu.mono hbA.size))))
  have CR := Lib.hid (fun (u : World) (hu : Below wA.heap.size wA u) (r : Row) (hr : r ∈ F.t.R) => mapVals_copy r (w.heap.size + 1) φ u ((hFA.2.2 r hr).on hu) (by rw [(good_row hg hr).1]; exact hsz.2.1) ((hu.cell (p := ⟨w.heap.size + 1, 0, none⟩) (World.block_lt_of_cell? _ _ bV)).trans bV) (fun x hx v hv => hP x ((good_row hg hr).2 x hx).1 ((good_row hg hr).2 x hx).2 v ((hbA.trans (hu.mono hbA.size)).trans (hv.mono (Nat.le_trans hbA.size hu.size)))))
  have HFA := Lib.hid hFA
  have HA := Lib.hid hA
  have B0 := Lib.hid b0
  have B2 := Lib.hid b2
  have HS := Lib.hid hsA
  have hRi : (F.t.R.length : Int) ≤ 7 := by omega
  have hoi : (F.o.l.length : Int) ≤ 7 := by omega
  have z0 := b0.c0
  rw [hA] at z0
  clear hF hg hP hA b0 bV b2 hFA hsA hsz
  show Calls _ _ #[.agg #[F.o.val, F.t.val], _] w _
  go_enter Try.func106, Try.ntmps106
  go_wp2_with fail
  rw [← HA.out]
  refine (show Calls _ _ _ _ _ from CO.out).mono ?_
  rintro e W1 ⟨s, rfl, hsl, hso, hsi, hb1⟩
  clear z0

  have HSL := Lib.hid hsl
  have HSO := Lib.hid hso
  have HSI := Lib.hid hsi
  have HB1 := Lib.hid hb1
  have hsz1 := hb1.size
  have hs3 : w.heap.size + 3 ≤ W1.heap.size := by rw [← HS.out]; exact hsz1
  obtain ⟨wE, hE⟩ : ∃ u, u = W1.alloc (.cells #[] 22) := ⟨_, rfl⟩
  have hbE : Below W1.heap.size W1 wE := by rw [hE]; exact below_alloc _ _
  have hszE : wE.heap.size = W1.heap.size + 1 := by rw [hE]; exact size_alloc _ _
  obtain ⟨wR, hR⟩ : ∃ u, u = wE.alloc (.cells #[.slice s.a s.l.length s.c, .slice (some ⟨W1.heap.size, 0, none⟩) 0 0] 29) := ⟨_, rfl⟩
  have hbR : Below wE.heap.size wE wR := by rw [hR]; exact below_alloc _ _
  have hszR : wR.heap.size = W1.heap.size + 2 := by rw [hR, size_alloc, hszE]
  have bR : Box2 wR (W1.heap.size + 1) (.slice s.a s.l.length s.c) (.slice (some ⟨W1.heap.size, 0, none⟩) 0 0) 29 := by rw [hR, ← hszE]; exact Box2.made _ _ _ _
  have hb1R : Below W1.heap.size W1 wR := hbE.trans (hbR.mono hbE.size)
  have hbAR : Below wA.heap.size wA wR := hb1.trans (hb1R.mono hsz1)
  have g0 : Grows W1.heap.size wR (.slice (some ⟨W1.heap.size, 0, none⟩) 0 0) [] := by
    have := tab_empty W1
    rw [← hE] at this; exact this.on hbR
  have HWR : Hid (wR = (W1.alloc (.cells #[] 22)).alloc (.cells #[.slice s.a s.l.length s.c, .slice (some ⟨W1.heap.size, 0, none⟩) 0 0] 29)) := Lib.hid (by rw [hR, hE])
  have z1 : wR.cell? ⟨w.heap.size, 1, none⟩ = some (.slice F.t.a F.t.R.length F.t.c) := (B0.out.on hbAR).c1
  rw [HWR.out] at z1
  have G0 := Lib.hid g0
  have BR := Lib.hid bR
  have HBAR := Lib.hid hb1R
  clear hsl hso hsi hb1 hE hbE hszE hR hbR bR hb1R hbAR g0
  go_wp2
  clear z1
  go_loopw [8, 19] (fun _ i wr => ∃ (k : Nat) (Q : List Row) (v : Value), k ≤ F.t.R.length ∧ i = .int .i64 k ∧ Q.length = k ∧ Q.map Row.l = (F.t.con.take k).map (List.map φ) ∧ Grows W1.heap.size wr v Q ∧ Box2 wr (W1.heap.size + 1) (.slice s.a s.l.length s.c) v 29 ∧ v.ownBlock ≠ some (W1.heap.size + 1) ∧ (∀ r ∈ Q, r.In (W1.heap.size + 1 + 1) wr.heap.size wr) ∧ Below W1.heap.size W1 wr) (fun _ i _ => F.t.R.length - (intOf i).toNat)
  case atStart => exact ⟨0, [], _, Nat.zero_le _, rfl, rfl, rfl, by rw [← HWR.out]; exact G0.out, by rw [← HWR.out]; exact BR.out, by simp [Value.ownBlock], by simp, by rw [← HWR.out]; exact HBAR.out⟩
  case round =>
    obtain ⟨k, Q, v, hk, rfl, hQl, hQm, hgr, hbx, hvne, hQi, hn1⟩ := hrel
    have hnx : Below wA.heap.size wA wr := HB1.out.trans (hn1.mono hsz1)
    by_cases hlt : k < F.t.R.length
    · have hlti : (k : Int) < (F.t.R.length : Int) := by omega
      obtain ⟨_, _, r3⟩ := HFA.out.2.1
      rcases r3 with r3 | ⟨bT, oT, hTa, hTb, hTc⟩
      · have r3' := congrArg List.length r3; rw [tv_length, List.length_nil] at r3'; omega
      obtain ⟨r, hr⟩ : ∃ r, r = F.t.R[k] := ⟨_, rfl⟩
      have hcr : wr.cell? ⟨bT, oT + k, none⟩ = some (.slice r.a r.l.length r.c) := (hnx.cell (p := ⟨bT, oT + k, none⟩) hTb).trans (by rw [hr]; exact hTc k _ (tv_at hlt))
      have hrm : r ∈ F.t.R := by rw [hr]; exact List.getElem_mem hlt
      have hd0 : Below wr.heap.size wr wr.drew := (Below.refl _ _).drew
      have hnd := hnx.drew
      have CM := Lib.hid (CR.out wr.drew hnd r hrm)
      have HQM : Hid (Q.map Row.l ++ [r.l.map φ] = (F.t.con.take (k + 1)).map (List.map φ)) := Lib.hid (by
        rw [hQm, List.take_succ_eq_append_getElem (by rw [con_length]; exact hlt), List.map_append, con_at F.t hlt, hr]; rfl)
      have HQL := Lib.hid hQl
      have hQ8 : Q.length ≤ 7 := by omega
      have HG := Lib.hid (hgr.on hd0)
      have HBX := Lib.hid (hbx.on hd0)
      have HQI := Lib.hid (fun r hr => (hQi r hr).on hd0 : ∀ r ∈ Q, r.In (W1.heap.size + 1 + 1) wr.heap.size wr.drew)
      have HND := Lib.hid (show Below W1.heap.size W1 wr.drew from hn1.drew)
      have HVN := Lib.hid hvne
      have hszr : W1.heap.size + 2 ≤ wr.drew.heap.size := by
        have := hgr.own; have h2 := hbx.lt; show _ ≤ wr.heap.size; omega
      have hszA : wA.heap.size ≤ wr.drew.heap.size := hnd.size
      have c1 : wr.cell? ⟨W1.heap.size + 1, 1, none⟩ = some v := hbx.c1
      rw [hTa]
      clear hr hrm hTc hTa hQm hQl hgr hbx hvne hQi hnx hd0 hnd hn1
      go_wp2
      clear hcr
      go_region_law (first | (refine step_append_lies _ rfl (.tmp 24) (.tmp 28) 23 rfl W1.heap.size 22 i0 (.slice none 0 0) 1 24 Try.underlying23 hi hz0 hz1 hz2 rfl (by decide) _ _ _ rfl (hown.alloc _) ⟨u1.heap.size, 0, none⟩ 1 1 [.slice t.a t.l.length t.c] rfl rfl (one_cell _ _ _) (by simp [Value.oneCell']) (by omega) (by unfold maxLen; omega) (by omega) (by simp; omega) _ rfl ?_; intro g cap w1 hown' hgrow hat hlt1; have hbx1 : Box2 w1 (W1.heap.size + 1) (.slice s.a s.l.length s.c) v 29 := (hgrow.block (W1.heap.size + 1) (by rw [size_alloc]; omega) (fun e => HVN.out e.symm)).trans (hbx2.on (below_alloc _ _)); have c2 := hbx1.c1; have f2 := hbx1.fr 1) | (go_simp; go_at_call 121; refine (show Calls _ _ _ _ _ from CM.out).mono ?_; rintro e u1 ⟨t, rfl, htl, hto, hti2, hb2⟩; have HTL := Lib.hid htl; have HTO := Lib.hid hto; have HTI := Lib.hid hti2; have hgr2 := HG.out.on hb2; have hown := hgr2.own; have hbx2 := HBX.out.on hb2; have c3 := hbx2.c1; have c4 := (hbx2.on (below_alloc u1 (.cells #[.slice t.a t.l.length t.c] 22))).c1; have hsz2 := hb2.size; have HB2 := Lib.hid hb2; clear htl hto hti2 hb2))
      all_goals (
        have hba := below_alloc u1 (.cells #[.slice t.a t.l.length t.c] 22)
        have hfr := HG.out.fresh HTI.out
        have hgr3 := hgr2.on hba
        have hloc : (Value.slice (some ⟨g, 0, none⟩) (Q.length + 1) cap).ownBlock = v.ownBlock ∨ ∃ g', (Value.slice (some ⟨g, 0, none⟩) (Q.length + 1) cap).ownBlock = some g' ∧ (u1.alloc (.cells #[.slice t.a t.l.length t.c] 22)).heap.size ≤ g' := by
          rcases hat with h | h
          · exact .inl h.symm
          · exact .inr ⟨g, rfl, Nat.le_of_eq h.symm⟩
        have R1 := hgr3.append (HTO.out.on hba) (((HTI.out.wide (by omega) (Nat.le_refl _)).on hba).wide (Nat.le_refl _) hba.size) hfr.1 hfr.2 hown' hgrow hloc
        have hvn' : (Value.slice (some ⟨g, 0, none⟩) (Q.length + 1) cap).ownBlock ≠ some (W1.heap.size + 1) := by
          rcases hat with h | h
          · exact fun e => HVN.out (h.trans e)
          · intro e; simp only [Value.ownBlock, Option.some.injEq] at e; rw [size_alloc] at h; omega
        have hall : ∀ r ∈ Q ++ [t], r.In (W1.heap.size + 1 + 1) w1.heap.size w1 := fun r hr => by
          have h1 := R1.ins r hr
          rcases List.mem_append.1 hr with hr | hr
          · exact (HQI.out r hr).mix h1
          · rw [List.mem_singleton] at hr; subst hr; exact (HTI.out.wide (by omega) (Nat.le_refl _)).mix h1
        have hst := set_touch w1 (W1.heap.size + 1) 1 (.slice (some ⟨g, 0, none⟩) (Q.length + 1) cap)
        have R2 := Lib.hid (R1.touch hst hvn' hall)
        have R3 := Lib.hid (hbx1.set1 (.slice (some ⟨g, 0, none⟩) (Q.length + 1) cap))
        have R4 := Lib.hid (fun r hr => ((hall r hr).touch hst (.inr (Nat.le_refl _))).wide (Nat.le_refl _) hst.size : ∀ r ∈ Q ++ [t], r.In (W1.heap.size + 1 + 1) (w1.setCell ⟨W1.heap.size + 1, 1, none⟩ (.slice (some ⟨g, 0, none⟩) (Q.length + 1) cap)).heap.size (w1.setCell ⟨W1.heap.size + 1, 1, none⟩ (.slice (some ⟨g, 0, none⟩) (Q.length + 1) cap)))
        have R5 := Lib.hid ((((HND.out.trans (HB2.out.mono (by omega))).alloc (by have := HB2.out.size; omega) _).grown hgrow (by rw [size_alloc]; have := HB2.out.size; omega) (fun j hj => (hown.lt j hj).1)).setCell (p := ⟨W1.heap.size + 1, 1, none⟩) (by show W1.heap.size ≤ W1.heap.size + 1; omega) (.slice (some ⟨g, 0, none⟩) (Q.length + 1) cap))
        have HVX := Lib.hid hvn'
        clear hba hfr hgr3 hloc R1 hvn' hall hst hgr2 hown hown' hgrow hat hbx1 hbx2 c1 c2 c3 c4 f2 hlt1
        go_wp2
        go_roundw
        case rel => exact ⟨k + 1, Q ++ [t], _, by omega, by go_num, by rw [List.length_append, HQL.out]; rfl, by rw [List.map_append, ← HQM.out, ← HTL.out]; rfl, R2.out, R3.out, HVX.out, R4.out, R5.out⟩
        case measure => simp [intOf]; omega)
    · obtain rfl : k = F.t.R.length := by omega
      obtain ⟨T, hv, hTR, hTo, hTi⟩ := tab_of hgr
      subst hv
      have b2 := B2.out.on hnx
      have y20 := b2.c0
      have y21 := b2.c1
      have f20 := b2.fr 0
      have f21 := b2.fr 1
      have x0 := hbx.c0
      have x1 := hbx.c1
      have B2F := Lib.hid b2
      have HTR := Lib.hid hTR
      have HTO := Lib.hid hTo
      have HTI := Lib.hid hTi
      have HQM := Lib.hid hQm
      have HN := Lib.hid hnx
      have HS2 := Lib.hid (HSI.out.on hn1)
      have HO2 := Lib.hid ((HSO.out).on hn1)
      have hszr := hn1.size
      clear b2 hTR hTo hTi hQm hgr hbx hvne hQi hnx hQl hn1
      go_wp2
      obtain ⟨wF, hF⟩ : ∃ wF, wF = (wr.setCell ⟨w.heap.size + 1 + 1, 0, none⟩ (.slice s.a s.l.length s.c)).setCell ⟨w.heap.size + 1 + 1, 1, none⟩ (.slice T.a T.R.length T.c) := ⟨_, rfl⟩
      rw [← hF]
      have bF : Box2 wF (w.heap.size + 1 + 1) (.slice s.a s.l.length s.c) (.slice T.a T.R.length T.c) 29 := by rw [hF]; exact ((B2F.out).set0 _).set1 _
      have tF : Touch (w.heap.size + 1 + 1) (w.heap.size + 1 + 1 + 1) wr wF := by
        rw [hF]
        exact ((Touch.refl _ _ wr).set (by omega) (by omega) _ _).set (by omega) (by omega) _ _
      have r0 := bF.c0
      have r1 := bF.c1
      clear y20 y21 f20 f21 x0 x1 hF
      refine bodyPost_ret (v := .agg #[.slice s.a s.l.length s.c, .slice T.a T.R.length T.c]) (by simp [results, Try.results106, go_sem, r0, r1]) rfl ?_
      have hS : wA.heap.size = w.heap.size + 3 := HS.out
      have hsF := HS2.out.touch tF (.inr (by omega))
      have hoF := HO2.out.touch HS2.out tF (.inr (by omega))
      have hTF := HTI.out.touch tF (.inr (by omega))
      have hTO : T.Own 3 wF := ⟨⟨fun r hr => (HTO.out.1.1 r hr).touch (HTI.out.2 r hr) tF (.inr (by omega)), HTO.out.1.2⟩, HTO.out.2⟩
      obtain ⟨j1, j2⟩ := fld_join hoF hsF hTO hTF hsz1 hszr
      have hcon : T.con = F.t.con.map (List.map φ) := by
        have := HQM.out
        rw [← HTR.out, ← con_length, List.take_length] at this
        exact this
      exact ⟨⟨s, T⟩, rfl, HSL.out, hcon, j1, j2.wide (by omega) tF.size, (hbA.trans (HN.out.mono hbA.size)).trans (tF.below (by omega) (by have := hbA.size; have := HN.out.size; omega))⟩

end Go.Proofs.Ytokalloiikbppaa
