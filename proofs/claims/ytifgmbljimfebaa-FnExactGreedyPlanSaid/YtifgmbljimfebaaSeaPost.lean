/- The copy and the marking of Seasons, as a law's walk takes them. Condition: the memory is the call's own. -/
import Derived.Test.YtifgmbljimfebaaSeaTab
namespace Go.Proofs.Ytifgmbljimfebaa
open Go.RowKit

def nil4 : Value := .slice none 0 0
/-- The copy under way: the argument, the result and the copy in three boxes. -/
structure SeaMid (w : World) (S : Sea) (v0 v1 v2 v3 : Value) (u : World) : Prop where
  below : Below w.heap.size w u
  size : w.heap.size + 3 ≤ u.heap.size
  arg : Box4 u w.heap.size (.slice S.o.a S.o.l.length S.o.c) (.slice S.x.a S.x.l.length S.x.c) (.slice S.k.a S.k.l.length S.k.c) (.slice S.r.a S.r.T.length S.r.c) 25
  res : Box4 u (w.heap.size + 1) nil4 nil4 nil4 nil4 31
  out : Box4 u (w.heap.size + 2) v0 v1 v2 v3 31
  src : S.In 0 w.heap.size u
theorem SeaMid.on {w : World} {S : Sea} {v0 v1 v2 v3 : Value} {u u' : World} (h : SeaMid w S v0 v1 v2 v3 u) (hb : Below u.heap.size u u') : SeaMid w S v0 v1 v2 v3 u' :=
  ⟨h.below.trans (hb.mono h.below.size), Nat.le_trans h.size hb.size, h.arg.on hb, h.res.on hb, h.out.on hb, h.src.on hb⟩
theorem SeaMid.put {w : World} {S : Sea} {v0 v1 v2 v3 v0' v1' v2' v3' : Value} {u u' : World} (h : SeaMid w S v0 v1 v2 v3 u) (t : Touch (w.heap.size + 2) (w.heap.size + 3) u u') (ho : Box4 u' (w.heap.size + 2) v0' v1' v2' v3' 31) : SeaMid w S v0' v1' v2' v3' u' :=
  ⟨h.below.trans (t.below (by omega) h.below.size), Nat.le_trans h.size t.size, h.arg.touch t (by omega), h.res.touch t (by omega), ho, h.src.touch t (by omega)⟩
theorem out_touch (w u : World) (k : Nat) (v : Value) : Touch (w.heap.size + 2) (w.heap.size + 3) u (u.setCell ⟨w.heap.size + 2, k, none⟩ v) := (Touch.refl _ _ _).set (by omega) (by omega) k v

set_option maxHeartbeats 1500000 in
theorem toSea_law (S : Sea) (w : World) (hS : S.At w) (hs : S.Small) :
    Calls Try.prog 10 #[.agg #[.slice S.o.a S.o.l.length S.o.c, .slice S.x.a S.x.l.length S.x.c, .slice S.k.a S.k.l.length S.k.c, .slice S.r.a S.r.T.length S.r.c]] w fun e w' => ∃ G : Sea, e = .returned (.agg #[.slice G.o.a G.o.l.length G.o.c, .slice G.x.a G.x.l.length G.x.c, .slice G.k.a G.k.l.length G.k.c, .slice G.r.a G.r.T.length G.r.c]) ∧ G.Like S ∧ G.Own w.heap.size w'.heap.size w' ∧ G.In w.heap.size w'.heap.size w' ∧ Below w.heap.size w w' := by
  obtain ⟨s1, s2, s3, s4, s5, _⟩ := hs.parts
  have s6 := hs.tabs
  obtain ⟨V0, hV0⟩ : ∃ v, v = (Obj.cells #[.slice S.o.a S.o.l.length S.o.c, .slice S.x.a S.x.l.length S.x.c, .slice S.k.a S.k.l.length S.k.c, .slice S.r.a S.r.T.length S.r.c] 25) := ⟨_, rfl⟩
  obtain ⟨V1, hV1⟩ : ∃ v, v = (Obj.cells #[.slice none 0 0, .slice none 0 0, .slice none 0 0, .slice none 0 0] 31) := ⟨_, rfl⟩
  obtain ⟨wA, hA⟩ : ∃ wA, wA = ((w.alloc V0).alloc V1).alloc V1 := ⟨_, rfl⟩
  have hbA : Below w.heap.size w wA := by rw [hA]; exact (((Below.refl _ _).alloc (Nat.le_refl _) _).alloc (by rw [size_alloc]; omega) _).alloc (by rw [size_alloc, size_alloc]; omega) _
  have M0 : SeaMid w S nil4 nil4 nil4 nil4 wA := by
    refine ⟨hbA, by rw [hA, size_alloc, size_alloc, size_alloc]; omega, ?_, ?_, ?_, hS.in.on hbA⟩
    · rw [hA, hV0]; exact ((Box4.made _ _ _ _ _ _).later _).later _
    · rw [hA, hV1, show w.heap.size + 1 = (w.alloc V0).heap.size from (size_alloc _ _).symm]; exact (Box4.made _ _ _ _ _ _).later _
    · rw [hA, hV1, show w.heap.size + 2 = ((w.alloc V0).alloc (Obj.cells #[.slice none 0 0, .slice none 0 0, .slice none 0 0, .slice none 0 0] 31)).heap.size by rw [size_alloc, size_alloc]]; exact Box4.made _ _ _ _ _ _
  rw [hV0, hV1] at hA
  clear hV0 hV1
  have C0 := Lib.hid fun (u : World) (h : S.o.At u) => toInts_row S.o u h s1
  have C1 := Lib.hid fun (u : World) (h : S.x.At u) => toInts_row S.x u h s2
  have C2 := Lib.hid fun (u : World) (h : S.k.At u) => toInts_row S.k u h s3
  have C3 := Lib.hid fun (u : World) (h : S.r.At u) => toCube_any S.r u h s4 s6
  have x0 := M0.arg.c0
  rw [hA] at x0
  have HA := Lib.hid hA
  have HM := Lib.hid M0
  have D0 := Lib.hid (C0.out wA M0.src.1.at)
  clear hS s1 s2 s3 s4 s5 s6 hs hA hbA M0
  go_enter Try.func10, Try.ntmps10
  go_wp2_with fail
  rw [← HA.out]
  refine (show Calls _ _ _ _ _ from D0.out).mono ?_
  rintro e w1 ⟨a0, rfl, l0, -, o0, i0, b0⟩
  have M1 := HM.out.on b0
  have f0 := M1.out.c0
  have g0 := M1.out.fr 0
  have t0 := out_touch w w1 0 (.slice a0.a a0.l.length a0.c)
  have N1 := M1.put t0 (M1.out.set0 (.slice a0.a a0.l.length a0.c))
  have hz0 : w.heap.size + 3 ≤ wA.heap.size := HM.out.size
  have hy0 : wA.heap.size ≤ w1.heap.size := b0.size
  have I0 := Lib.hid (i0.touch t0 (.inr hz0))
  have O0 := Lib.hid (o0.touch i0 t0 (.inr hz0))
  have L0 := Lib.hid l0
  have x1 := N1.arg.c1
  obtain ⟨u1, hu1⟩ : ∃ u, u = w1.setCell ⟨w.heap.size + 2, 0, none⟩ (.slice a0.a a0.l.length a0.c) := ⟨_, rfl⟩
  have hz1 : w1.heap.size ≤ u1.heap.size := by rw [hu1]; exact t0.size
  have HU1 := Lib.hid hu1
  rw [← hu1] at N1 I0 O0
  have HN1 := Lib.hid N1
  have D1 := Lib.hid (C1.out u1 N1.src.2.1.at)
  clear x0 M1 t0 l0 o0 i0 b0 N1 hu1
  go_wp2_with fail
  rw [← HU1.out]
  refine (show Calls _ _ _ _ _ from D1.out).mono ?_
  rintro e w2 ⟨a1, rfl, l1, -, o1, i1, b1⟩
  have M2 := HN1.out.on b1
  have f1 := M2.out.c1
  have g1 := M2.out.fr 1
  have t1 := out_touch w w2 1 (.slice a1.a a1.l.length a1.c)
  have N2 := M2.put t1 (M2.out.set1 (.slice a1.a a1.l.length a1.c))
  have hz : w.heap.size + 3 ≤ u1.heap.size := HN1.out.size
  have I0' := Lib.hid ((I0.out.on b1).touch t1 (.inr hz0))
  have O0' := Lib.hid ((O0.out.on b1).touch (I0.out.on b1) t1 (.inr hz0))
  have I1 := Lib.hid (i1.touch t1 (.inr hz))
  have O1 := Lib.hid (o1.touch i1 t1 (.inr hz))
  have L1 := Lib.hid l1
  have x2 := N2.arg.c2
  obtain ⟨u2, hu2⟩ : ∃ u, u = w2.setCell ⟨w.heap.size + 2, 1, none⟩ (.slice a1.a a1.l.length a1.c) := ⟨_, rfl⟩
  have hz2 : w2.heap.size ≤ u2.heap.size := by rw [hu2]; exact t1.size
  have hy1 : u1.heap.size ≤ w2.heap.size := b1.size
  have HU2 := Lib.hid hu2
  rw [← hu2] at N2 I0' O0' I1 O1
  have HN2 := Lib.hid N2
  have D2 := Lib.hid (C2.out u2 N2.src.2.2.1.at)
  clear f0 g0 x1 M2 t1 l1 o1 i1 b1 N2 hu2 I0 O0 HN1
  go_wp2_with fail
  rw [← HU2.out]
  refine (show Calls _ _ _ _ _ from D2.out).mono ?_
  rintro e w3 ⟨a2, rfl, l2, -, o2, i2, b2⟩
  have M3 := HN2.out.on b2
  have f2 := M3.out.c2
  have g2 := M3.out.fr 2
  have t2 := out_touch w w3 2 (.slice a2.a a2.l.length a2.c)
  have N3 := M3.put t2 (M3.out.set2 (.slice a2.a a2.l.length a2.c))
  have hzz : w.heap.size + 3 ≤ u2.heap.size := HN2.out.size
  have I0'' := Lib.hid ((I0'.out.on b2).touch t2 (.inr hz0))
  have O0'' := Lib.hid ((O0'.out.on b2).touch (I0'.out.on b2) t2 (.inr hz0))
  have I1' := Lib.hid ((I1.out.on b2).touch t2 (.inr hz))
  have O1' := Lib.hid ((O1.out.on b2).touch (I1.out.on b2) t2 (.inr hz))
  have I2 := Lib.hid (i2.touch t2 (.inr hzz))
  have O2 := Lib.hid (o2.touch i2 t2 (.inr hzz))
  have L2 := Lib.hid l2
  have x3 := N3.arg.c3
  obtain ⟨u3, hu3⟩ : ∃ u, u = w3.setCell ⟨w.heap.size + 2, 2, none⟩ (.slice a2.a a2.l.length a2.c) := ⟨_, rfl⟩
  have hz3 : w3.heap.size ≤ u3.heap.size := by rw [hu3]; exact t2.size
  have hy2 : u2.heap.size ≤ w3.heap.size := b2.size
  have HU3 := Lib.hid hu3
  rw [← hu3] at N3 I0'' O0'' I1' O1' I2 O2
  have HN3 := Lib.hid N3
  have D3 := Lib.hid (C3.out u3 N3.src.2.2.2.at)
  clear f1 g1 x2 M3 t2 l2 o2 i2 b2 N3 hu3 I0' O0' I1 O1 HN2
  go_wp2_with fail
  rw [← HU3.out]
  refine (show Calls _ _ _ _ _ from D3.out).mono ?_
  rintro e w4 ⟨K, rfl, l3, o3, b3⟩
  have M4 := HN3.out.on b3
  have f3 := M4.out.c3
  have g3 := M4.out.fr 3
  have y0 := M4.out.c0
  have y1 := M4.out.c1
  have y2 := M4.out.c2
  have z0 := M4.res.c0
  have z1 := M4.res.c1
  have z2 := M4.res.c2
  have z3 := M4.res.c3
  have h0 := M4.res.fr 0
  have h1 := M4.res.fr 1
  have h2 := M4.res.fr 2
  have h3 := M4.res.fr 3
  have hzw : w.heap.size + 3 ≤ u3.heap.size := HN3.out.size
  have hy3 : u3.heap.size ≤ w4.heap.size := b3.size
  have HB3 := Lib.hid b3
  have HO3 := Lib.hid o3
  have L3 := Lib.hid l3
  have HM4 := Lib.hid M4
  clear f2 g2 x3 M4 l3 o3 b3
  go_wp2
  obtain ⟨wF, hF⟩ : ∃ wF, wF = ((((w4.setCell ⟨w.heap.size + 2, 3, none⟩ (.slice K.a K.T.length K.c)).setCell ⟨w.heap.size + 1, 0, none⟩ (.slice a0.a a0.l.length a0.c)).setCell ⟨w.heap.size + 1, 1, none⟩ (.slice a1.a a1.l.length a1.c)).setCell ⟨w.heap.size + 1, 2, none⟩ (.slice a2.a a2.l.length a2.c)).setCell ⟨w.heap.size + 1, 3, none⟩ (.slice K.a K.T.length K.c) := ⟨_, rfl⟩
  rw [← hF]
  have bF : Box4 wF (w.heap.size + 1) (.slice a0.a a0.l.length a0.c) (.slice a1.a a1.l.length a1.c) (.slice a2.a a2.l.length a2.c) (.slice K.a K.T.length K.c) 31 := by rw [hF]; exact ((((HM4.out.res.other _ _ (by simp)).set0 _).set1 _).set2 _).set3 _
  have tF : Touch (w.heap.size + 1) (w.heap.size + 3) w4 wF := by
    rw [hF]
    exact (((((Touch.refl _ _ w4).set (by omega) (by omega) _ _).set (by omega) (by omega) _ _).set (by omega) (by omega) _ _).set (by omega) (by omega) _ _).set (by omega) (by omega) _ _
  have r0 := bF.c0
  have r1 := bF.c1
  have r2 := bF.c2
  have r3 := bF.c3
  clear f3 g3 y0 y1 y2 z0 z1 z2 z3 h0 h1 h2 h3 hF
  refine bodyPost_ret (v := .agg #[.slice a0.a a0.l.length a0.c, .slice a1.a a1.l.length a1.c, .slice a2.a a2.l.length a2.c, .slice K.a K.T.length K.c]) (by simp [results, Try.results10, go_sem, r0, r1, r2, r3]) rfl ?_
  have hszF := tF.size
  have hb3 := HB3.out
  have own : Sea.Own w.heap.size wF.heap.size wF ⟨a0, a1, a2, K⟩ := by
    refine ⟨w1.heap.size, w2.heap.size, w3.heap.size, by omega, by omega, by omega, by omega, ?_, ?_, ?_, ?_, ?_, ?_, ?_⟩
    · exact ((I0''.out.on hb3).touch tF (.inr hz0)).wide (by omega) (Nat.le_refl _)
    · exact (O0''.out.on hb3).touch (I0''.out.on hb3) tF (.inr hz0)
    · exact ((I1'.out.on hb3).touch tF (.inr hz)).wide (by omega) (Nat.le_refl _)
    · exact (O1'.out.on hb3).touch (I1'.out.on hb3) tF (.inr hz)
    · exact ((I2.out.on hb3).touch tF (.inr hzz)).wide (by omega) (Nat.le_refl _)
    · exact (O2.out.on hb3).touch (I2.out.on hb3) tF (.inr hzz)
    · obtain ⟨m, m1, m2, m3, m4⟩ := HO3.out.touch tF (.inr hzw)
      exact ⟨m, by omega, by omega, m3.wide (by omega) (Nat.le_refl _), m4.wide (by omega)⟩
  exact ⟨⟨a0, a1, a2, K⟩, rfl, ⟨L0.out, L1.out, L2.out, L3.out⟩, own, own.in, HM4.out.below.trans (tF.below (by omega) (by omega))⟩

set_option maxHeartbeats 1000000 in
/-- The marking of a table of tables writes into it alone. -/
theorem markCube_any (K : Cube) (k : Nat) (w : World) (lo hi : Nat) (ho : K.Own lo hi w) (hn : K.T.length ≤ 1048576) (hm : tot3 K.con ≤ 1048576) (hk : k ≤ 3145728) :
    Calls Try.prog 47 #[.slice K.a K.T.length K.c, .int .i64 k] w fun e w' => (∃ q : Nat, e = .returned (.int .i64 (q : Int)) ∧ q ≤ k + tot3 K.con) ∧ Touch lo hi w w' := by
  obtain ⟨a, c, R⟩ := K
  obtain ⟨m0, hl, hr, hrow, htabs⟩ := ho
  simp only at hrow htabs hn ⊢
  have hni : (R.length : Int) ≤ 1048576 := by omega
  have hki : (k : Int) ≤ 3145728 := by omega
  have hcone : Cube.con ⟨a, c, R⟩ = R.map Tab.con := rfl
  rw [hcone] at hm ⊢
  have hmono : ∀ j, j ≤ R.length → tot3 ((R.map Tab.con).take j) ≤ tot3 (R.map Tab.con) := fun j hj => by
    conv => rhs; rw [← List.take_append_drop j (R.map Tab.con)]
    unfold tot3; rw [List.map_append, List.sum_append]; omega
  have hstep : ∀ j (h : j < R.length), tot3 ((R.map Tab.con).take j) + tot R[j].con ≤ tot3 ((R.map Tab.con).take (j + 1)) := fun j h => by
    rw [tot3_step (by simpa using h)]; simp
  have hmem : ∀ t ∈ R, t.R.length ≤ 1048576 ∧ tot t.con ≤ 1048576 := fun t ht => by have := tot3_mem ht; omega
  have HROW := Lib.hid hrow
  have HMEM := Lib.hid hmem
  have HMO := Lib.hid hmono
  have HST := Lib.hid hstep
  have HALL : Hid (tot3 ((R.map Tab.con).take R.length) = tot3 (R.map Tab.con)) := Lib.hid (by have := tot3_all (R.map Tab.con); simpa using this)
  have HM := Lib.hid hm
  have HTA := Lib.hid htabs
  clear hrow hmem hmono hstep hm hcone htabs
  go_enter Try.func47, Try.ntmps47
  go_wp2
  go_loopw [1, 5] (fun kk i wr => ∃ (j q m : Nat), j ≤ R.length ∧ i = .int .i64 j ∧ kk = .int .i64 (q : Int) ∧ Hid (q ≤ k + tot3 ((R.map Tab.con).take j)) ∧ m0 ≤ m ∧ m ≤ hi ∧ Tabs wr m hi (R.drop j) ∧ Touch m0 m w wr) (fun _ i _ => R.length - (intOf i).toNat)
  case atStart => exact ⟨0, k, m0, Nat.zero_le _, rfl, rfl, Lib.hid (Nat.le_add_right _ _), Nat.le_refl _, hr, HTA.out, Touch.refl _ _ _⟩
  case round =>
    obtain ⟨j, q, m, hj, rfl, rfl, HQ, hm0, hmh, htabs, ht⟩ := hrel
    by_cases hlt : j < R.length
    · have hlti : (j : Int) < (R.length : Int) := by omega
      have hrow := HROW.out.touch ht (.inl (Nat.le_refl _))
      obtain ⟨_, _, h3⟩ := hrow
      rcases h3 with h3 | ⟨b, o, rfl, _, _, hb, hcell⟩
      · have h3' := congrArg List.length h3; rw [cv_length, List.length_nil] at h3'; omega
      have hcl := hcell j _ (cv_at hlt)
      obtain ⟨x, hx⟩ : ∃ x, x = R[j] := ⟨_, rfl⟩
      rw [List.drop_eq_getElem_cons hlt, ← hx] at htabs
      rw [← hx] at hcl
      obtain ⟨m1, hm1, hm1h, hxi, hxo, hxt⟩ := htabs
      have hxm := HMEM.out x (by rw [hx]; exact List.getElem_mem hlt)
      have hSj := HMO.out j hj
      have hq2 : q ≤ 4194304 := by have := HM.out; have := HQ.out; omega
      have cm := Lib.hid (markTab_law x q (q + tot x.con) wr m m1 hxi hxo hxm.1 hxm.2 hq2 rfl)
      have HE : Hid (q + tot x.con ≤ k + tot3 ((R.map Tab.con).take (j + 1))) := Lib.hid (by have := HST.out j hlt; rw [← hx] at this; have := HQ.out; omega)
      have HXT := Lib.hid hxt
      obtain ⟨q2, hq2'⟩ : ∃ q2 : Nat, q2 = q + tot x.con := ⟨_, rfl⟩
      rw [← hq2'] at cm HE
      have hq2i : (q2 : Int) ≤ 16777216 := by omega
      clear hx hcell hxt hxi hxo hSj hq2 hq2'
      go_wp2_with fail
      refine cm.out.mono ?_
      rintro e w1 ⟨rfl, -, m3⟩
      have R2 : Tabs w1 m1 hi (R.drop (j + 1)) := HXT.out.touch m3 (.inr (Nat.le_refl _))
      have R3 : Touch m0 m1 w w1 := (ht.wide (Nat.le_refl _) hm1).trans (m3.wide hm0 (Nat.le_refl _))
      have R2h := Lib.hid R2
      clear m3 ht R2
      go_wp2
      go_roundw
      case rel => exact ⟨j + 1, q2, m1, by omega, by go_num, rfl, HE, by omega, hm1h, R2h.out, R3⟩
      case measure => simp [intOf]; omega
    · obtain rfl : j = R.length := by omega
      go_wp2
      go_ret
      exact ⟨⟨q, rfl, by have := HQ.out; rw [HALL.out] at this; exact this⟩, ht.wide hl hmh⟩

theorem Row.In.cut {lo hi : Nat} {w : World} {r : Row} (h : r.In lo hi w) : r.In lo (min hi w.heap.size) w := by
  obtain ⟨a1, a2, a3⟩ := h
  refine ⟨a1, a2, ?_⟩
  rcases a3 with a3 | ⟨b, o, e, hl, hh, hb, hc⟩
  · exact .inl a3
  · exact .inr ⟨b, o, e, hl, by omega, hb, hc⟩

set_option maxHeartbeats 1500000 in
/-- The marking of a Season writes into it alone. -/
theorem markSea_law (S : Sea) (k : Nat) (w : World) (lo hi : Nat) (hh : hi ≤ w.heap.size) (ho : S.Own lo hi w) (hs : S.Small) (hk : k ≤ 1048577) :
    Calls Try.prog 19 #[.agg #[.slice S.o.a S.o.l.length S.o.c, .slice S.x.a S.x.l.length S.x.c, .slice S.k.a S.k.l.length S.k.c, .slice S.r.a S.r.T.length S.r.c], .int .i64 k] w fun e w' => (∃ q : Nat, e = .returned (.int .i64 (q : Int)) ∧ q ≤ k + S.size) ∧ Touch lo hi w w' := by
  obtain ⟨s1, s2, s3, s4, s5, _⟩ := hs.parts
  have hsm := hs
  unfold Sea.Small at hsm
  obtain ⟨p, q, r, h1, h2, h3, h4, a, a', b, b', c, c', d⟩ := ho
  obtain ⟨wA, hA⟩ : ∃ wA, wA = w.alloc (Obj.cells #[.slice S.o.a S.o.l.length S.o.c, .slice S.x.a S.x.l.length S.x.c, .slice S.k.a S.k.l.length S.k.c, .slice S.r.a S.r.T.length S.r.c] 31) := ⟨_, rfl⟩
  have hb : Below w.heap.size w wA := by rw [hA]; exact below_alloc w _
  have bx : Box4 wA w.heap.size (.slice S.o.a S.o.l.length S.o.c) (.slice S.x.a S.x.l.length S.x.c) (.slice S.k.a S.k.l.length S.k.c) (.slice S.r.a S.r.T.length S.r.c) 31 := by rw [hA]; exact Box4.made _ _ _ _ _ _
  have HA := Lib.hid hA
  have hSZ : Hid (S.size = S.o.l.length + S.x.l.length + S.k.l.length + S.r.T.length + tot3 S.r.con) := Lib.hid rfl
  have C0 := Lib.hid (markRow_law S.o k (k + S.o.l.length) wA lo p (a.on hb) (a'.on hb) s1 (by omega) rfl)
  have C1 := Lib.hid fun (u : World) (hi' : S.x.In p q u) (ho' : S.x.Own 3 u) => markRow_law S.x (k + S.o.l.length) (k + S.o.l.length + S.x.l.length) u p q hi' ho' s2 (by omega) rfl
  have C2 := Lib.hid fun (u : World) (hi' : S.k.In q r u) (ho' : S.k.Own 3 u) => markRow_law S.k (k + S.o.l.length + S.x.l.length) (k + S.o.l.length + S.x.l.length + S.k.l.length) u q r hi' ho' s3 (by omega) rfl
  have C3 := Lib.hid fun (u : World) (ho' : S.r.Own r hi u) => markCube_any S.r (k + S.o.l.length + S.x.l.length + S.k.l.length) u r hi ho' s4 s5 (by rw [hSZ.out] at hsm; omega)
  have B0 := Lib.hid (b.on hb)
  have B0' := Lib.hid (b'.on hb)
  have c0 := Lib.hid (c.on hb)
  have c0' := Lib.hid (c'.on hb)
  have D0 := Lib.hid (d.on hb)
  have x0 := bx.c0
  rw [hA] at x0
  have HBX := Lib.hid bx
  have HBB := Lib.hid hb
  obtain ⟨k1, hk1⟩ : ∃ q : Nat, q = k + S.o.l.length := ⟨_, rfl⟩
  rw [← hk1] at C0 C1 C2 C3
  obtain ⟨k2, hk2⟩ : ∃ q : Nat, q = k1 + S.x.l.length := ⟨_, rfl⟩
  rw [← hk2] at C1 C2 C3
  obtain ⟨k3, hk3⟩ : ∃ q : Nat, q = k2 + S.k.l.length := ⟨_, rfl⟩
  rw [← hk3] at C2 C3
  have e1 : (k1 : Int) ≤ 8388608 := by omega
  have e2 : (k2 : Int) ≤ 8388608 := by omega
  have e3 : (k3 : Int) ≤ 8388608 := by omega
  have ek : (k : Int) ≤ 8388608 := by omega
  have HK : Hid (k3 + tot3 S.r.con ≤ k + S.size) := Lib.hid (by rw [hSZ.out]; omega)
  clear a a' b b' c c' d bx hA hs hsm s1 s2 s3 s4 s5 hb hk1 hk2 hk3
  go_enter Try.func19, Try.ntmps19
  go_wp2_with fail
  rw [← HA.out]
  refine C0.out.mono ?_
  rintro e w1 ⟨rfl, -, t1⟩
  have bx1 := HBX.out.touch t1 (.inr (by omega))
  have x1 := bx1.c1
  have CC := Lib.hid (C1.out w1 (B0.out.touch t1 (.inr (Nat.le_refl _))) (B0'.out.touch B0.out t1 (.inr (Nat.le_refl _))))
  have c1 := Lib.hid (c0.out.touch t1 (.inr h2))
  have c1' := Lib.hid (c0'.out.touch c0.out t1 (.inr h2))
  have D1 := Lib.hid (D0.out.touch t1 (.inr (Nat.le_trans h2 h3)))
  have T1 := Lib.hid t1
  have HBX1 := Lib.hid bx1
  clear x0 t1 bx1 c0 c0' D0 B0 B0'
  go_wp2_with fail
  refine CC.out.mono ?_
  rintro e w2 ⟨rfl, -, t2⟩
  have bx2 := HBX1.out.touch t2 (.inr (by omega))
  have x2 := bx2.c2
  have CC2 := Lib.hid (C2.out w2 (c1.out.touch t2 (.inr (Nat.le_refl _))) (c1'.out.touch c1.out t2 (.inr (Nat.le_refl _))))
  have D2 := Lib.hid (D1.out.touch t2 (.inr h3))
  have T2 := Lib.hid t2
  have HBX2 := Lib.hid bx2
  clear x1 t2 bx2 c1 c1' D1
  go_wp2_with fail
  refine CC2.out.mono ?_
  rintro e w3 ⟨rfl, -, t3⟩
  have bx3 := HBX2.out.touch t3 (.inr (by omega))
  have x3 := bx3.c3
  have CC3 := Lib.hid (C3.out w3 (D2.out.touch t3 (.inr (Nat.le_refl _))))
  have T3 := Lib.hid t3
  clear x2 t3 bx3 D2
  go_wp2_with fail
  refine CC3.out.mono ?_
  rintro e w4 ⟨⟨z, rfl, hz⟩, t4⟩
  have T4 := Lib.hid t4
  have HZ := Lib.hid hz
  clear x3 t4 hz
  go_wp2
  go_ret
  refine ⟨⟨z, rfl, Nat.le_trans HZ.out HK.out⟩, ?_⟩
  exact ((((Touch.of_below HBB.out).trans (T1.out.wide (Nat.le_refl _) (by omega))).trans (T2.out.wide (by omega) (by omega))).trans (T3.out.wide (by omega) (by omega))).trans (T4.out.wide (by omega) (Nat.le_refl _))

/-- A struct variable that has been laid. -/
def boxed4 (w : World) (x y z u : Value) : World := w.alloc (Obj.cells #[x, y, z, u] 31)
theorem boxed4_box (w : World) (x y z u : Value) : Box4 (boxed4 w x y z u) w.heap.size x y z u 31 := Box4.made w _ _ _ _ _
theorem boxed4_below (w : World) (x y z u : Value) : Below w.heap.size w (boxed4 w x y z u) := below_alloc w _
theorem boxed4_size (w : World) (x y z u : Value) : (boxed4 w x y z u).heap.size = w.heap.size + 1 := size_alloc w _
/-- The cells of two boxes, and that all old blocks stand. -/
theorem box4_cells {W : World} {g g' : Nat} {x y z v x' y' z' v' : Value} {t t' : TypeId} (h : Box4 W g x y z v t) (h' : Box4 W g' x' y' z' v' t') (u : World) (hu : Below W.heap.size W u) :
    (u.cell? ⟨g, 0, none⟩ = some x ∧ u.cell? ⟨g, 1, none⟩ = some y ∧ u.cell? ⟨g, 2, none⟩ = some z ∧ u.cell? ⟨g, 3, none⟩ = some v ∧ u.cell? ⟨g', 0, none⟩ = some x' ∧ u.cell? ⟨g', 1, none⟩ = some y' ∧ u.cell? ⟨g', 2, none⟩ = some z' ∧ u.cell? ⟨g', 3, none⟩ = some v') ∧ Below W.heap.size W u :=
  ⟨⟨(h.on hu).c0, (h.on hu).c1, (h.on hu).c2, (h.on hu).c3, (h'.on hu).c0, (h'.on hu).c1, (h'.on hu).c2, (h'.on hu).c3⟩, hu⟩

end Go.Proofs.Ytifgmbljimfebaa
