/- Both sides of ScaleField answer alike. Condition: the Field reads as such. -/
import Derived.Test.YtoejfeloademnaaScaleImpl
import Derived.Test.YtoejfeloademnaaFldLaw
namespace Go.Proofs.Ytoejfeloademnaa
open Go.RowKit

theorem l1Least_scale (a b : Int) (w : World) :
    Calls Try.prog 73 #[.int .i64 a, .int .i64 b] w fun e w' => e = .returned (.int .i64 (min a b)) ∧ w' = w := by
  by_cases h : a < b
  · go_enter Try.func73, Try.ntmps73
    go_wp2
    go_ret
    exact ⟨by rw [show min a b = a by omega]; rfl, rfl⟩
  · go_enter Try.func73, Try.ntmps73
    go_wp2
    go_ret
    exact ⟨by rw [show min a b = b by omega]; rfl, rfl⟩

/-- The Field while it is scaled. -/
structure Mid (F G H : Fld) (φ : Int → Int) (lo hi a a' i : Nat) (w : World) : Prop where
  oa : H.o.a = G.o.a
  oc : H.o.c = G.o.c
  ta : H.t.a = G.t.a
  tc : H.t.c = G.t.c
  ol : H.o.l = blend φ F.o.l a
  con : H.t.con = conTo φ F.t.con a' i
  own : H.Own 3 w
  ins : H.In lo hi w
theorem Mid.len {F G H : Fld} {φ : Int → Int} {lo hi a a' i : Nat} {w : World} (h : Mid F G H φ lo hi a a' i w) : H.o.l.length = F.o.l.length ∧ H.t.R.length = F.t.R.length := by
  refine ⟨by rw [h.ol, blend_length], ?_⟩
  have h1 := con_length H.t
  have h2 := con_length F.t
  rw [h.con] at h1
  have : (conTo φ F.t.con a' i).length = F.t.con.length := by unfold conTo; simp; omega
  omega

theorem Mid.on {F G H : Fld} {φ : Int → Int} {lo hi a a' i : Nat} {w w' : World} (h : Mid F G H φ lo hi a a' i w) (t : Below w.heap.size w w') : Mid F G H φ lo hi a a' i w' :=
  ⟨h.oa, h.oc, h.ta, h.tc, h.ol, h.con, h.own.on t, h.ins.on t⟩
theorem con_set (T : Tab) (i : Nat) (r : Row) : (Tab.mk T.a T.c (T.R.set i r)).con = T.con.set i r.l := by unfold Tab.con; rw [List.map_set]

set_option maxRecDepth 16000 in
set_option maxHeartbeats 1500000 in
theorem specScale_any (F : Fld) (k : Int) (w : World) (hF : F.At w) (K : Fld) (b : Bool) (hv : ScaleIs F k K b) :
    Calls Try.prog 30 #[F.val, .int .i64 k] w (PFld K b w) := by
  obtain ⟨wA, hA⟩ : ∃ wA, wA = (w.alloc (Obj.cells #[F.o.val, F.t.val] 29)).alloc (Obj.cells #[.slice none 0 0, .slice none 0 0] 29) := ⟨_, rfl⟩
  have hbA : Below w.heap.size w wA := by rw [hA]; exact ((Below.refl _ _).alloc (Nat.le_refl _) _).alloc (by rw [size_alloc]; omega) _
  have hsA : wA.heap.size = w.heap.size + 2 := by rw [hA, size_alloc, size_alloc]
  have b0 : Box2 wA w.heap.size F.o.val F.t.val 29 := by rw [hA]; exact (Box2.made w _ _ _).later _
  have b2 : Box2 wA (w.heap.size + 1) (.slice none 0 0) (.slice none 0 0) 29 := by
    rw [hA]
    have := Box2.made (w.alloc (Obj.cells #[F.o.val, F.t.val] 29)) (.slice none 0 0) (.slice none 0 0) 29
    rw [size_alloc] at this; exact this
  have hFA := hF.on hbA
  have CT := Lib.hid (l2Good_any F wA hFA)
  have HFA := Lib.hid hFA
  have HA := Lib.hid hA
  have B0 := Lib.hid b0
  have B2 := Lib.hid b2
  have HS := Lib.hid hsA
  have z0 := b0.c0
  have z1 := b0.c1
  rw [hA] at z0 z1
  have HV := Lib.hid hv
  clear hF hA b0 b2 hFA hsA hv
  show Calls _ _ #[.agg #[F.o.val, F.t.val], _] w _
  go_enter Try.func30, Try.ntmps30
  go_wp2_with fail
  rw [← HA.out]
  refine (show Calls _ _ _ _ _ from CT.out).mono ?_
  rintro e W1 ⟨rfl, hb1⟩
  clear z0 z1
  have hsz1 := hb1.size
  have hS : wA.heap.size = w.heap.size + 2 := HS.out
  have HB1 := Lib.hid hb1
  have bb2 := B2.out.on hb1
  have y20 := bb2.c0
  have y21 := bb2.c1
  have f20 := bb2.fr 0
  have f21 := bb2.fr 1
  have ZE : Hid (∀ (W wF : World), Box2 W (w.heap.size + 1) (.slice none 0 0) (.slice none 0 0) 29 → Below w.heap.size w W → wF = (W.setCell ⟨w.heap.size + 1, 0, none⟩ (.slice none 0 0)).setCell ⟨w.heap.size + 1, 1, none⟩ (.slice none 0 0) → Box2 wF (w.heap.size + 1) (.slice none 0 0) (.slice none 0 0) 29 ∧ Below w.heap.size w wF) := Lib.hid fun W wF hB hW hF => by
    subst hF
    exact ⟨(hB.set0 _).set1 _, (hW.setCell (p := ⟨w.heap.size + 1, 0, none⟩) (by show w.heap.size ≤ w.heap.size + 1; omega) _).setCell (p := ⟨w.heap.size + 1, 1, none⟩) (by show w.heap.size ≤ w.heap.size + 1; omega) _⟩
  have BB1 := Lib.hid bb2
  have HBW1 := Lib.hid (hbA.trans (hb1.mono hbA.size))
  obtain ⟨g, hg⟩ : ∃ g, g = F.good := ⟨_, rfl⟩
  rw [← hg]
  have HG := Lib.hid hg
  clear hg bb2 hb1
  by_cases hbad : g = false ∨ k < 1
  · have HO : Hid (K = zeroF ∧ b = false) := Lib.hid (by
      rcases HV.out with ⟨_, h1, h2⟩ | ⟨h, h', _⟩ | ⟨h, h', _⟩
      · exact ⟨h1, h2⟩
      · rcases hbad with h3 | h3
        · rw [← HG.out, h3] at h; cases h
        · omega
      · rcases hbad with h3 | h3
        · rw [← HG.out, h3] at h; cases h
        · omega)
    cases g with
    | false =>
      clear hbad
      go_wp2
      obtain ⟨wF, hF⟩ : ∃ wF, wF = (W1.setCell ⟨w.heap.size + 1, 0, none⟩ (.slice none 0 0)).setCell ⟨w.heap.size + 1, 1, none⟩ (.slice none 0 0) := ⟨_, rfl⟩
      rw [← hF]
      obtain ⟨bF, hbF⟩ := ZE.out W1 wF BB1.out HBW1.out hF
      have r0 := bF.c0
      have r1 := bF.c1
      clear hF y20 y21 f20 f21
      refine bodyPost_ret (v := .tuple #[.agg #[.slice none 0 0, .slice none 0 0], .bool false]) (by simp [results, Try.results30, go_sem, r0, r1]) rfl ?_
      rw [HO.out.1, HO.out.2]
      exact zero_end hbF
    | true =>
      have hk1 : k < 1 := by rcases hbad with h | h; cases h; exact h
      clear hbad
      go_wp2
      obtain ⟨wF, hF⟩ : ∃ wF, wF = (W1.setCell ⟨w.heap.size + 1, 0, none⟩ (.slice none 0 0)).setCell ⟨w.heap.size + 1, 1, none⟩ (.slice none 0 0) := ⟨_, rfl⟩
      rw [← hF]
      obtain ⟨bF, hbF⟩ := ZE.out W1 wF BB1.out HBW1.out hF
      have r0 := bF.c0
      have r1 := bF.c1
      clear hF y20 y21 f20 f21
      refine bodyPost_ret (v := .tuple #[.agg #[.slice none 0 0, .slice none 0 0], .bool false]) (by simp [results, Try.results30, go_sem, r0, r1]) rfl ?_
      rw [HO.out.1, HO.out.2]
      exact zero_end hbF
  obtain rfl : g = true := by cases g with | true => rfl | false => exact absurd (.inl rfl) hbad
  have hk1 : ¬ k < 1 := fun h => hbad (.inr h)
  clear hbad
  have x0 := (B0.out.on HB1.out).c0
  have x1 := (B0.out.on HB1.out).c1
  have CO := Lib.hid (show Calls Try.prog 70 #[F.val] W1 (fun e w' => ∃ G : Fld, e = .returned (.agg #[.slice G.o.a G.o.l.length G.o.c, .slice G.t.a G.t.R.length G.t.c]) ∧ G.Like F ∧ G.Own 3 w' ∧ G.In W1.heap.size w'.heap.size w' ∧ Below W1.heap.size W1 w') from l2Own_any F W1 (HFA.out.on HB1.out) HG.out.symm)
  obtain ⟨q, hq⟩ : ∃ q, q = min k 100 := ⟨_, rfl⟩
  have CL := Lib.hid (fun u => by have := l1Least_scale k 100 u; rw [← hq] at this; exact this : ∀ u, Calls Try.prog 73 #[.int .i64 k, .int .i64 100] u fun e w' => e = .returned (.int .i64 q) ∧ w' = u)
  have hqb : 1 ≤ q ∧ q ≤ 100 := by omega
  have HQ := Lib.hid hq
  clear y20 y21 f20 f21 hq
  go_wp2_with fail
  refine (show Calls _ _ _ _ _ from CO.out).mono ?_
  rintro e W2 ⟨G, rfl, hlk, hGO, hGI, hb2⟩
  rw [show G.o.l.length = F.o.l.length by rw [hlk.1], show G.t.R.length = F.t.R.length by rw [← con_length, ← con_length, hlk.2]]
  clear x0 x1
  go_wp2_with fail
  refine (CL.out _).mono ?_
  rintro e W ⟨rfl, rfl⟩
  obtain ⟨W3, hW3⟩ : ∃ u, u = W.alloc (.cells #[.slice G.o.a F.o.l.length G.o.c, .slice G.t.a F.t.R.length G.t.c] 29) := ⟨_, rfl⟩
  have hb3 : Below W.heap.size W W3 := by rw [hW3]; exact below_alloc _ _
  have b3 : Box2 W3 W.heap.size (.slice G.o.a F.o.l.length G.o.c) (.slice G.t.a F.t.R.length G.t.c) 29 := by rw [hW3]; exact Box2.made _ _ _ _
  have hsz := good_sizes HG.out.symm
  have hRi : (F.t.R.length : Int) ≤ 7 := by omega
  have hoi : (F.o.l.length : Int) ≤ 7 := by omega
  have HM0 : Hid (Mid F G G (fun x => x * q) W1.heap.size W.heap.size 0 0 0 W3) := Lib.hid ⟨rfl, rfl, rfl, rfl, by rw [blend_zero]; exact hlk.1, by rw [conTo_zero]; exact hlk.2, hGO.on hb3, hGI.on hb3⟩
  have HB3 := Lib.hid (hb2.trans (hb3.mono hb2.size))
  have BX3 := Lib.hid b3
  have HW3 := Lib.hid hW3
  have hsz2 := hb2.size
  have HGD := Lib.hid HG.out.symm
  have q0 := b3.c0
  rw [hW3] at q0
  clear hlk hGO hGI hb2 hW3 hb3 b3 hsz
  go_wp2
  clear q0
  go_loopw [8, 9] (fun av _ wr => ∃ (a : Nat) (H : Fld), a ≤ F.o.l.length ∧ av = .int .i64 a ∧ Mid F G H (fun x => x * q) W1.heap.size W.heap.size a a 0 wr ∧ Box2 wr W.heap.size (.slice G.o.a F.o.l.length G.o.c) (.slice G.t.a F.t.R.length G.t.c) 29 ∧ Below W1.heap.size W1 wr) (fun av _ _ => F.o.l.length - (intOf av).toNat)
  case atStart => exact ⟨0, G, Nat.zero_le _, rfl, by rw [← HW3.out]; exact HM0.out, by rw [← HW3.out]; exact BX3.out, by rw [← HW3.out]; exact HB3.out⟩
  case round =>
    obtain ⟨a, H, ha, rfl, hmid, hbx, hnx⟩ := hrel
    have y0 := hbx.c0
    have y1 := hbx.c1
    by_cases hlt : a < F.o.l.length
    · have hlti : (a : Int) < (F.o.l.length : Int) := by omega
      have hal : a < H.o.l.length := by rw [hmid.len.1]; exact hlt
      obtain ⟨x, hx⟩ : ∃ x, x = F.o.l[a] := ⟨_, rfl⟩
      have hxv : H.o.l[a] = x := by
        have := blend_at (fun x => x * q) F.o.l hlt
        rw [hx, ← this]; simp only [hmid.ol]
      obtain ⟨gg, hga, hglo, hghi, hgw, hf, hc, hO', hI'⟩ := write_open hmid.own hmid.ins hal (x * q)
      rw [hxv] at hc
      rw [← hmid.oa, hga] at y0
      have hxb := good_open HGD.out x (by rw [hx]; exact List.getElem_mem hlt)
      have hp1 : 0 ≤ x * q := Int.mul_nonneg hxb.1 (by omega)
      have hp2 : x * q ≤ 99 * 100 := Int.mul_le_mul hxb.2 hqb.2 (by omega) (by omega)
      have hmid2 : Mid F G ⟨⟨H.o.a, H.o.c, H.o.l.set a (x * q)⟩, H.t⟩ (fun x => x * q) W1.heap.size W.heap.size (a + 1) a 0 (wr.setCell ⟨gg, a, none⟩ (.int .i64 (x * q))) :=
        ⟨hmid.oa, hmid.oc, hmid.ta, hmid.tc, by show H.o.l.set a (x * q) = _; rw [hmid.ol, ← blend_set (fun x => x * q) F.o.l hlt, hx], hmid.con, hO', hI'⟩
      have HM2 := Lib.hid hmid2
      have HX2 := Lib.hid (hbx.other ⟨gg, a, none⟩ (.int .i64 (x * q)) (by show gg ≠ _; omega))
      have HN2 := Lib.hid (hnx.setCell (p := ⟨gg, a, none⟩) hglo (.int .i64 (x * q)))
      have e1 : (0 : Int) ≤ x * q := hp1
      have e2 : x * q ≤ 9223372036854775807 := by omega
      obtain ⟨W4, hW4⟩ : ∃ u, u = wr.setCell ⟨gg, a, none⟩ (.int .i64 (x * q)) := ⟨_, rfl⟩
      clear hx hxv hO' hI' hmid hmid2 hbx hnx hxb hp1 hp2 hga
      rw [← hW4] at HM2 HX2 HN2
      have HW4 := Lib.hid hW4
      clear hW4
      go_wp2
      go_region
      rw [show wr.setCell ⟨gg, a, none⟩ (.int .i64 (x * q)) = W4 from HW4.out.symm]
      obtain ⟨W5, hW5⟩ : ∃ u, u = W4.drew := ⟨_, rfl⟩
      rw [← hW5]
      have hd5 : Below W4.heap.size W4 W5 := by rw [hW5]; exact (Below.refl _ _).drew
      have HM5 := Lib.hid (HM2.out.on hd5)
      have HX5 := Lib.hid (HX2.out.on hd5)
      have HN5 := Lib.hid (HN2.out.trans (hd5.mono HN2.out.size))
      clear hW5 hd5 y0 y1 hf hc e1 e2 hal
      go_wp2
      go_loopw [9] (fun iv wr2 => ∃ (i : Nat) (H : Fld), i ≤ F.t.R.length ∧ iv = .int .i64 i ∧ Mid F G H (fun x => x * q) W1.heap.size W.heap.size (a + 1) a i wr2 ∧ Box2 wr2 W.heap.size (.slice G.o.a F.o.l.length G.o.c) (.slice G.t.a F.t.R.length G.t.c) 29 ∧ Below W1.heap.size W1 wr2) (fun iv _ => F.t.R.length - (intOf iv).toNat)
      case atStart => exact ⟨0, _, Nat.zero_le _, rfl, HM5.out, HX5.out, HN5.out⟩
      case round =>
        obtain ⟨i, H, hi, rfl, hmid, hbx, hnx⟩ := hrel
        have y1 := hbx.c1
        by_cases hlti : i < F.t.R.length
        · have hltii : (i : Int) < (F.t.R.length : Int) := by omega
          have hiH : i < H.t.R.length := by rw [hmid.len.2]; exact hlti
          have hic : i < F.t.con.length := by rw [con_length]; exact hlti
          have hcr : H.t.R[i].l = blend (fun x => x * q) F.t.con[i] a := by
            have h1 := con_at H.t hiH
            rw [← h1]; simp only [hmid.con]; exact conTo_at _ _ _ hic
          have hFl : F.t.con[i].length = F.o.l.length := by rw [con_at F.t hlti]; exact (good_row HGD.out (List.getElem_mem hlti)).1
          have hrl : H.t.R[i].l.length = F.o.l.length := by rw [hcr, blend_length]; exact hFl
          have har : a < H.t.R[i].l.length := by rw [hrl]; exact hlt
          have haF : a < F.t.con[i].length := by rw [hFl]; exact hlt
          obtain ⟨x, hx⟩ : ∃ x, x = F.t.con[i][a] := ⟨_, rfl⟩
          have hxv : H.t.R[i].l[a] = x := by
            have := blend_at (fun x => x * q) F.t.con[i] haF
            rw [hx, ← this]; simp only [hcr]
          have hxb : 0 ≤ x ∧ x ≤ 99 := (good_row HGD.out (List.getElem_mem hlti)).2 x (by rw [hx]; simp only [con_at F.t hlti]; exact List.getElem_mem _)
          obtain ⟨gg, hga, hglo, hghi, hgw, hf, hc, hO', hI'⟩ := write_row hmid.own hmid.ins hiH har (x * q)
          rw [hxv] at hc
          obtain ⟨_, _, t3⟩ := hmid.ins.2.1
          rcases t3 with t3 | ⟨bt, ot, hta, _, _, hbt, hct⟩
          · have t3' := congrArg List.length t3; rw [tv_length, List.length_nil] at t3'; omega
          have hcrow : wr.cell? ⟨bt, ot + i, none⟩ = some (.slice (some ⟨gg, 0, none⟩) F.o.l.length H.t.R[i].c) := by
            have := hct i _ (tv_at hiH); rw [hga, hrl] at this; exact this
          rw [← hmid.ta, hta] at y1
          have hp1 : 0 ≤ x * q := Int.mul_nonneg hxb.1 (by omega)
          have hp2 : x * q ≤ 99 * 100 := Int.mul_le_mul hxb.2 hqb.2 (by omega) (by omega)
          have hmid2 : Mid F G ⟨H.o, ⟨H.t.a, H.t.c, H.t.R.set i ⟨H.t.R[i].a, H.t.R[i].c, H.t.R[i].l.set a (x * q)⟩⟩⟩ (fun x => x * q) W1.heap.size W.heap.size (a + 1) a (i + 1) (wr.setCell ⟨gg, a, none⟩ (.int .i64 (x * q))) :=
            ⟨hmid.oa, hmid.oc, hmid.ta, hmid.tc, hmid.ol, by
              show (Tab.mk H.t.a H.t.c (H.t.R.set i _)).con = _
              rw [con_set, hmid.con, ← conTo_set (fun x => x * q) F.t.con a hic]
              congr 1
              show H.t.R[i].l.set a (x * q) = _
              rw [hcr, ← blend_set (fun x => x * q) F.t.con[i] haF, hx], hO', hI'⟩
          have HM2' := Lib.hid hmid2
          have HX2' := Lib.hid (hbx.other ⟨gg, a, none⟩ (.int .i64 (x * q)) (by show gg ≠ _; omega))
          have HN2' := Lib.hid (hnx.setCell (p := ⟨gg, a, none⟩) hglo (.int .i64 (x * q)))
          have e1 : (0 : Int) ≤ x * q := hp1
          have e2 : x * q ≤ 9223372036854775807 := by omega
          obtain ⟨W6, hW6⟩ : ∃ u, u = wr.setCell ⟨gg, a, none⟩ (.int .i64 (x * q)) := ⟨_, rfl⟩
          obtain ⟨rc, hrc⟩ : ∃ c, c = H.t.R[i].c := ⟨_, rfl⟩
          rw [← hrc] at hcrow
          clear hx hxv hO' hI' hmid hmid2 hbx hnx hxb hp1 hp2 hga hct hcr hFl hrl har haF hta hrc
          rw [← hW6] at HM2' HX2' HN2'
          have HW6 := Lib.hid hW6
          clear hW6
          go_wp2
          go_region
          rw [show wr.setCell ⟨gg, a, none⟩ (.int .i64 (x * q)) = W6 from HW6.out.symm]
          obtain ⟨W7, hW7⟩ : ∃ u, u = W6.drew := ⟨_, rfl⟩
          rw [← hW7]
          have hd7 : Below W6.heap.size W6 W7 := by rw [hW7]; exact (Below.refl _ _).drew
          have R1 := HM2'.out.on hd7
          have R2 := HX2'.out.on hd7
          have R3 := HN2'.out.trans (hd7.mono HN2'.out.size)
          clear hW7 hd7 y1 hf hc e1 e2 hcrow
          go_wp2
          go_roundw
          case rel => exact ⟨i + 1, _, by omega, by go_num, R1, R2, R3⟩
          case measure => simp [intOf]; omega
        · obtain rfl : i = F.t.R.length := by omega
          have hmid2 : Mid F G H (fun x => x * q) W1.heap.size W.heap.size (a + 1) (a + 1) 0 wr := ⟨hmid.oa, hmid.oc, hmid.ta, hmid.tc, hmid.ol, by rw [← conTo_next, con_length]; exact hmid.con, hmid.own, hmid.ins⟩
          clear hmid
          go_wp2
          go_roundw
          case rel => exact ⟨a + 1, H, by omega, by go_num, hmid2, hbx, hnx⟩
          case measure => simp [intOf]; omega
    · obtain rfl : a = F.o.l.length := by omega
      have hol : H.o.l = F.o.l.map (fun x => x * q) := by rw [hmid.ol, blend_end]
      have hcon : H.t.con = F.t.con.map (List.map fun x => x * q) := by
        rw [hmid.con]
        refine conTo_end _ _ _ fun l hl => ?_
        obtain ⟨r, hr, rfl⟩ := List.mem_map.1 hl
        exact (good_row HGD.out hr).1
      have HLK : Hid (H.Like (timesF F q)) := Lib.hid ⟨hol, by rw [hcon]; exact (mkF_con _ _).symm⟩
      have CG := l2Good_any H wr hmid.ins.at
      rw [show H.val = .agg #[.slice G.o.a F.o.l.length G.o.c, .slice G.t.a F.t.R.length G.t.c] by
        show Value.agg #[.slice H.o.a H.o.l.length H.o.c, .slice H.t.a H.t.R.length H.t.c] = _
        rw [hmid.oa, hmid.oc, hmid.ta, hmid.tc, hmid.len.1, hmid.len.2]] at CG
      obtain ⟨gd, hgd⟩ : ∃ g, g = H.good := ⟨_, rfl⟩
      rw [← hgd] at CG
      have CG1 := Lib.hid CG
      have HGG := Lib.hid hgd
      have HMI := Lib.hid hmid
      have HN := Lib.hid hnx
      have HBX := Lib.hid hbx
      have hszr := hnx.size
      clear hol hcon CG hgd hmid hbx hnx
      go_wp2_with fail
      refine CG1.out.mono ?_
      rintro e W8 ⟨rfl, hb8⟩
      clear y0 y1
      have bx8 := HBX.out.on hb8
      have p0 := bx8.c0
      have p1 := bx8.c1
      have hbB := HN.out.trans (hb8.mono hszr)
      have bb2 := BB1.out.on hbB
      have y20 := bb2.c0
      have y21 := bb2.c1
      have f20 := bb2.fr 0
      have f21 := bb2.fr 1
      have BB8 := Lib.hid bb2
      have HB8 := Lib.hid (HBW1.out.trans (hbB.mono HBW1.out.size))
      have HM8 := Lib.hid (HMI.out.on hb8)
      have hsz8 := hb8.size
      clear bx8 hbB bb2 hb8
      cases gd with
      | false =>
        have HO : Hid (K = zeroF ∧ b = false) := Lib.hid (by
          have hgd : (timesF F (min k 100)).good = false := by rw [← HQ.out, ← HLK.out.good, ← HGG.out]
          rcases HV.out with ⟨_, h1, h2⟩ | ⟨_, _, _, h1, h2⟩ | ⟨_, _, h, _⟩
          · exact ⟨h1, h2⟩
          · exact ⟨h1, h2⟩
          · rw [hgd] at h; cases h)
        clear p0 p1
        go_wp2
        obtain ⟨wF, hF⟩ : ∃ wF, wF = (W8.setCell ⟨w.heap.size + 1, 0, none⟩ (.slice none 0 0)).setCell ⟨w.heap.size + 1, 1, none⟩ (.slice none 0 0) := ⟨_, rfl⟩
        rw [← hF]
        obtain ⟨bF, hbF⟩ := ZE.out W8 wF BB8.out HB8.out hF
        have r0 := bF.c0
        have r1 := bF.c1
        clear hF y20 y21 f20 f21
        refine bodyPost_ret (v := .tuple #[.agg #[.slice none 0 0, .slice none 0 0], .bool false]) (by simp [results, Try.results30, go_sem, r0, r1]) rfl ?_
        rw [HO.out.1, HO.out.2]
        exact zero_end hbF
      | true =>
        have HO : Hid (K = timesF F q ∧ b = true) := Lib.hid (by
          have hgd : (timesF F (min k 100)).good = true := by rw [← HQ.out, ← HLK.out.good, ← HGG.out]
          rw [HQ.out]
          rcases HV.out with ⟨h | h, _⟩ | ⟨_, _, h, _⟩ | ⟨_, _, _, h1, h2⟩
          · rw [← HG.out] at h; cases h
          · omega
          · rw [hgd] at h; cases h
          · exact ⟨h1, h2⟩)
        go_wp2
        obtain ⟨wF, hF⟩ : ∃ wF, wF = (W8.setCell ⟨w.heap.size + 1, 0, none⟩ (.slice G.o.a F.o.l.length G.o.c)).setCell ⟨w.heap.size + 1, 1, none⟩ (.slice G.t.a F.t.R.length G.t.c) := ⟨_, rfl⟩
        rw [← hF]
        have bF : Box2 wF (w.heap.size + 1) (.slice G.o.a F.o.l.length G.o.c) (.slice G.t.a F.t.R.length G.t.c) 29 := by rw [hF]; exact (BB8.out.set0 _).set1 _
        have tG : Touch (w.heap.size + 1) (w.heap.size + 1 + 1) W8 wF := by
          rw [hF]
          exact ((Touch.refl _ _ W8).set (by omega) (by omega) _ _).set (by omega) (by omega) _ _
        have r0 := bF.c0
        have r1 := bF.c1
        clear hF y20 y21 f20 f21 p0 p1
        refine bodyPost_ret (v := .tuple #[.agg #[.slice G.o.a F.o.l.length G.o.c, .slice G.t.a F.t.R.length G.t.c], .bool true]) (by simp [results, Try.results30, go_sem, r0, r1]) rfl ?_
        rw [HO.out.1, HO.out.2]
        have hm := HM8.out
        have hq1 := HBX.out.lt
        have hq3 := HB8.out.size
        have hq2 := tG.size
        refine ⟨H, ?_, HLK.out, hm.own.touch hm.ins tG (.inr (by omega)), (hm.ins.touch tG (.inr (by omega))).wide (by omega) (by have := tG.size; omega), HB8.out.trans (tG.below (by omega) (by have := HB8.out.size; omega))⟩
        show Ending.returned (.tuple #[.agg #[.slice G.o.a F.o.l.length G.o.c, .slice G.t.a F.t.R.length G.t.c], .bool true]) = .returned (.tuple #[.agg #[.slice H.o.a H.o.l.length H.o.c, .slice H.t.a H.t.R.length H.t.c], .bool true])
        rw [hm.oa, hm.oc, hm.ta, hm.tc, hm.len.1, hm.len.2]

theorem times_like {F G : Fld} (h : G.Like F) (k : Int) : timesF G k = timesF F k := by unfold timesF; rw [h.1, h.2]
theorem scale_like {F G K : Fld} {k : Int} {b : Bool} (h : ScaleIs F k K b) (hl : G.Like F) : ScaleIs G k K b := by
  unfold ScaleIs at *
  rw [times_like hl, hl.good]
  exact h
theorem tot_le : ∀ (d : List (List Int)) (n : Nat), (∀ l ∈ d, l.length ≤ n) → tot d ≤ n * d.length
  | [], _, _ => by simp [tot]
  | l :: d, n, h => by
    have h1 := h l (List.mem_cons_self ..)
    have h2 := tot_le d n fun x hx => h x (List.mem_cons_of_mem _ hx)
    have e : tot (l :: d) = l.length + tot d := by simp [tot]
    rw [e, List.length_cons, Nat.mul_succ]
    omega
theorem times_small {F : Fld} {k : Int} (h : (timesF F k).good = true) : (timesF F k).Small := by
  have h1 := good_sizes h
  have h2 : tot (timesF F k).t.con ≤ 49 := by
    have h3 : ∀ l ∈ (timesF F k).t.con, l.length ≤ 7 := fun l hl => by
      obtain ⟨r, hr, rfl⟩ := List.mem_map.1 hl
      rw [(good_row h hr).1]; exact h1.2.1
    have h4 : (timesF F k).t.con.length ≤ 7 := by rw [con_length]; exact h1.2.2
    have := tot_le _ 7 h3
    omega
  unfold Fld.Small
  omega
theorem scale_some (F : Fld) (k : Int) : ∃ (K : Fld) (b : Bool), ScaleIs F k K b ∧ K.Small := by
  have hz : zeroF.Small := by unfold Fld.Small; decide
  by_cases h1 : F.good = false ∨ k < 1
  · exact ⟨_, _, .inl ⟨h1, rfl, rfl⟩, hz⟩
  · have hg : F.good = true := by cases hgg : F.good with | true => rfl | false => exact absurd (.inl hgg) h1
    have hk : 1 ≤ k := by have : ¬ k < 1 := fun h => h1 (.inr h); omega
    by_cases h2 : (timesF F (min k 100)).good = true
    · exact ⟨_, _, .inr (.inr ⟨hg, hk, h2, rfl, rfl⟩), times_small h2⟩
    · exact ⟨_, _, .inr (.inl ⟨hg, hk, by simpa using h2, rfl, rfl⟩), hz⟩
theorem scaleField_pair (F : Fld) (k : Int) (_ : (Lit.int .i64 k).wf = true) (_ : F.Small) : ∃ (K : Fld) (b : Bool) (_ : K.Small),
    (∀ (G : Fld) (W : World), G.At W → G.Like F → Calls Try.prog 30 #[G.val, .int .i64 k] W (PFld K b W)) ∧
    (∀ (G : Fld) (W : World), G.At W → G.Like F → Calls Try.prog 31 #[G.val, .int .i64 k] W (PFld K b W)) := by
  obtain ⟨K, b, h, hs⟩ := scale_some F k
  exact ⟨K, b, hs, fun G W hG hl => specScale_any G k W hG K b (scale_like h hl), fun G W hG hl => implScale_any G k W hG K b (scale_like h hl)⟩

end Go.Proofs.Ytoejfeloademnaa
