/- The Field of a line as the program makes it. Condition: the lists read as such and are a line. -/
import Derived.Test.YtfgedolngcdjpaaLineValid
import Derived.Test.YtfgedolngcdjpaaMapField
import Derived.Deep.OwnRows
namespace Go.Proofs.Ytfgedolngcdjpaa
open Go.RowKit

/-- The lengths of a place to those of the sites. -/
def distL (x : Int) (s : List Int) : List Int := s.map fun y => max (x - y) (y - x)
theorem distL_len (x : Int) (s : List Int) : (distL x s).length = s.length := List.length_map _
def lineD (s c : List Int) : List (List Int) := c.map fun x => distL x s
theorem lineD_len (s c : List Int) : (lineD s c).length = c.length := List.length_map _
theorem line_parts {s c : List Int} (h : lineB s c = true) : (1 ≤ s.length ∧ s.length ≤ 7 ∧ c.length ≤ 7) ∧ (∀ y ∈ s, 0 ≤ y ∧ y ≤ 99) ∧ ∀ x ∈ c, 0 ≤ x ∧ x ≤ 99 := by
  unfold lineB at h
  simp only [Bool.and_eq_true, decide_eq_true_eq] at h
  obtain ⟨h1, h2, h3, h4, h5, _⟩ := h
  refine ⟨⟨h1, h2, h3⟩, fun y hy => ?_, fun x hx => ?_⟩
  · have := rise_bounds 100 s (-1) h4 y hy; omega
  · have := List.all_eq_true.1 h5 x hx
    unfold upTo at this
    simpa using this

set_option maxHeartbeats 1000000 in
theorem lengthBetween_any (x y : Int) (w : World) (hx : 0 ≤ x ∧ x ≤ 99) (hy : 0 ≤ y ∧ y ≤ 99) :
    Calls Try.prog 55 #[.int .i64 x, .int .i64 y] w fun e w' => e = .returned (.int .i64 (max (x - y) (y - x))) ∧ w' = w := by
  obtain ⟨v, hv⟩ : ∃ v, v = max (x - y) (y - x) := ⟨_, rfl⟩
  have HV := Lib.hid hv
  obtain ⟨h1, h2⟩ := hx
  obtain ⟨h3, h4⟩ := hy
  rw [← hv]
  clear hv
  by_cases hlt : x - y < y - x
  · have HE : Hid (v = y - x) := Lib.hid (by rw [HV.out]; omega)
    go_enter Try.func55, Try.ntmps55
    go_wp2
    go_ret
    exact ⟨by rw [HE.out]; first | done | rfl | (congr 2; omega) | (simp; omega), rfl⟩
  · have HE : Hid (v = x - y) := Lib.hid (by rw [HV.out]; omega)
    go_enter Try.func55, Try.ntmps55
    go_wp2
    go_ret
    exact ⟨by rw [HE.out]; first | done | rfl | (congr 2; omega) | (simp; omega), rfl⟩

theorem own_slice {w : World} {B k : Nat} {e : TypeId} {v : Value} {xs : List Value} (h : w.ownsRow B e 1 v (k + 1) xs) : ∃ g cap, v = .slice (some ⟨g, 0, none⟩) (k + 1) cap := by
  rcases id h.2 with ⟨_, h0⟩ | ⟨g, cap, cur, hv, _⟩
  · omega
  · exact ⟨g, cap, hv⟩

set_option maxRecDepth 16000 in
set_option maxHeartbeats 4000000 in
theorem lineField_made (s c : Row) (w : World) (hs : s.At w) (hc : c.At w) (h : lineB s.l c.l = true) :
    Calls Try.prog 40 #[.agg #[.slice s.a s.l.length s.c, .slice c.a c.l.length c.c]] w fun e w' => ∃ G : Fld, e = .returned G.val ∧ G.o.l = List.replicate s.l.length 0 ∧ G.t.con = lineD s.l c.l ∧ G.Own 3 w' ∧ G.In w.heap.size w'.heap.size w' ∧ Below w.heap.size w w' := by
  obtain ⟨j0, hj, hj0, hj1, hj2⟩ := info_parts infoInts
  obtain ⟨i0, hi, hz0, hz1, hz2⟩ := info_parts infoInt
  obtain ⟨⟨hp1, hp2, hp3⟩, hps, hpc⟩ := line_parts h
  obtain ⟨m, hm⟩ : ∃ m, m = s.l.length := ⟨_, rfl⟩
  obtain ⟨n, hn⟩ : ∃ n, n = c.l.length := ⟨_, rfl⟩
  have HM := Lib.hid hm
  have HN := Lib.hid hn
  have hmi : (m : Int) ≤ 7 := by omega
  have hni : (n : Int) ≤ 7 := by omega
  have hm1 : 1 ≤ m := by omega
  obtain ⟨wA, hA⟩ : ∃ u, u = (w.alloc (Obj.cells #[.slice s.a s.l.length s.c, .slice c.a c.l.length c.c] 49)).alloc (Obj.cells #[.slice none 0 0, .slice none 0 0] 37) := ⟨_, rfl⟩
  have hbA : Below w.heap.size w wA := by rw [hA]; exact ((Below.refl _ _).alloc (Nat.le_refl _) _).alloc (by rw [size_alloc]; omega) _
  have hsA : wA.heap.size = w.heap.size + 1 + 1 := by rw [hA, size_alloc, size_alloc]
  have b0 : Box2 wA w.heap.size (.slice s.a s.l.length s.c) (.slice c.a c.l.length c.c) 49 := by rw [hA]; exact (Box2.made w _ _ _).later _
  have b1 : Box2 wA (w.heap.size + 1) (.slice none 0 0) (.slice none 0 0) 37 := by
    rw [hA]
    have := Box2.made (w.alloc (Obj.cells #[.slice s.a s.l.length s.c, .slice c.a c.l.length c.c] 49)) (.slice none 0 0) (.slice none 0 0) 37
    rw [size_alloc] at this; exact this
  rw [← hm, ← hn] at b0
  have hmk := run_make_row' (P := Try.prog) 22 3 (.int .i64 0) 8 Try.underlying22 (show (Try.prog.info? 3).map (fun i => (i.zero, i.size, i.bytes)) = some (some (.int .i64 0), 1, 8) from infoInt) rfl .i64 .i64 m (by omega) (by omega)
  obtain ⟨W1, hW1⟩ : ∃ u, u = wA.alloc (.cells (madeCells #[.int .i64 0] m) 3) := ⟨_, rfl⟩
  have hbW1 : Below wA.heap.size wA W1 := by rw [hW1]; exact below_alloc _ _
  have hsW1 : W1.heap.size = w.heap.size + 1 + 1 + 1 := by rw [hW1, size_alloc, hsA]
  have hzo : W1.ownsRow wA.heap.size 3 1 (.slice (some ⟨wA.heap.size, 0, none⟩) (List.replicate m (0 : Int)).length m) (List.replicate m (0 : Int)).length (iv (List.replicate m (0 : Int))) := by
    rw [hW1, List.length_replicate]
    have h := World.ownsRow_lit (base := wA.heap.size) (e := 3) (size := 1) wA (madeCells #[.int .i64 0] m) m (Nat.le_refl _) (by unfold maxLen; omega) (by rw [size_madeCells, Nat.mul_one])
    have e1 : (madeCells #[Value.int .i64 0] m).toList = iv (List.replicate m (0 : Int)) := by rw [made_row]; simp [iv]
    rw [e1] at h; exact h
  obtain ⟨z, hzv, hzl, hzO, hzI⟩ := row_of_own hzo
  rw [List.length_replicate] at hzv
  have hzn : z.l.length = m := by rw [hzl, List.length_replicate]
  have HZV : Hid (Value.slice (some ⟨w.heap.size + 1 + 1, 0, none⟩) m m = .slice z.a m z.c) := Lib.hid (by rw [hsA] at hzv; rw [hzv, hzn])
  obtain ⟨wE, hE⟩ : ∃ u, u = W1.alloc (.cells #[] 22) := ⟨_, rfl⟩
  have hbE : Below W1.heap.size W1 wE := by rw [hE]; exact below_alloc _ _
  have hszE : wE.heap.size = W1.heap.size + 1 := by rw [hE]; exact size_alloc _ _
  obtain ⟨wR, hR⟩ : ∃ u, u = wE.alloc (.cells #[.slice z.a m z.c, .slice (some ⟨W1.heap.size, 0, none⟩) 0 0] 37) := ⟨_, rfl⟩
  have hbR : Below wE.heap.size wE wR := by rw [hR]; exact below_alloc _ _
  have bR : Box2 wR (W1.heap.size + 1) (.slice z.a m z.c) (.slice (some ⟨W1.heap.size, 0, none⟩) 0 0) 37 := by rw [hR, ← hszE]; exact Box2.made _ _ _ _
  have hb1R : Below W1.heap.size W1 wR := hbE.trans (hbR.mono hbE.size)
  have hbAR : Below wA.heap.size wA wR := hbW1.trans (hb1R.mono hbW1.size)
  have g0 : Grows W1.heap.size wR (.slice (some ⟨W1.heap.size, 0, none⟩) 0 0) [] := by
    have := tab_empty W1
    rw [← hE] at this; exact this.on hbR
  have HB0 := Lib.hid b0
  have HB1 := Lib.hid b1
  have HBA := Lib.hid hbA
  have HSA := Lib.hid hsA
  have HS1 := Lib.hid hsW1
  have HZL := Lib.hid hzl
  have HZN := Lib.hid hzn
  have HZO := Lib.hid (hzO.on hb1R)
  have HZI := Lib.hid (hzI.on hb1R)
  have HBAR := Lib.hid hbAR
  have HB1R := Lib.hid hb1R
  have G0 := Lib.hid g0
  have BR := Lib.hid bR
  have HBW := Lib.hid (hbA.trans (hbAR.mono hbA.size))
  obtain ⟨bs, os, hsa, hsb, hscell⟩ : ∃ b o, s.a = some ⟨b, o, none⟩ ∧ b < w.heap.size ∧ ∀ j, (hj : j < s.l.length) → w.cell? ⟨b, o + j, none⟩ = some (.int .i64 s.l[j]) := by
    rcases hs.2.2 with h3 | ⟨b, o, e, hb, hcell⟩
    · have h3' := congrArg List.length (iv_nil h3); rw [List.length_nil] at h3'; omega
    · exact ⟨b, o, e, hb, fun j hj => hcell j _ (iv_at hj)⟩
  have HSC := Lib.hid hscell
  have HSA2 := Lib.hid hsa
  have HCW := Lib.hid hc
  have hsc7 : (m : Int) ≤ (s.c : Int) := by have := hs.1; rw [iv_length] at this; omega
  have HPS := Lib.hid hps
  have HPC := Lib.hid hpc
  have x0 := b0.c0
  have x1 := b0.c1
  have HA := Lib.hid hA
  have HRE : Hid (((((w.alloc (Obj.cells #[.slice s.a m s.c, .slice c.a n c.c] 49)).alloc (Obj.cells #[.slice none 0 0, .slice none 0 0] 37)).alloc (.cells (madeCells #[.int .i64 0] m) 3)).alloc (.cells #[] 22)).alloc (.cells #[.slice (some ⟨w.heap.size + 1 + 1, 0, none⟩) m m, .slice (some ⟨w.heap.size + 1 + 1 + 1, 0, none⟩) 0 0] 37) = wR) := Lib.hid (by rw [HZV.out, ← hsW1, hR, hE, hW1, hA, ← hm, ← hn])
  rw [← hm, ← hn] at hA ⊢
  clear hs hc hscell hsa h hb1R hbAR g0 bR hR hE hbE hbR hszE hzo hzv hzl hzO hzI hzn b0 b1 hps hpc hW1 hp1 hp2 hp3 hm hn
  go_enter Try.func40, Try.ntmps40
  go_wp2
  rw [HRE.out, HZV.out, ← HS1.out]
  clear hA hmk x0 x1 hsA hsW1
  go_loopw [5, 6, 8, 18, 26] (fun _ _ _ kv _ wr => ∃ (k : Nat) (Q : List Row) (v : Value), k ≤ n ∧ kv = .int .i64 k ∧ Hid (Q.length = k) ∧ Hid (Q.map Row.l = (lineD s.l c.l).take k) ∧ Hid (Grows W1.heap.size wr v Q) ∧ Hid (Box2 wr (W1.heap.size + 1) (.slice z.a m z.c) v 37) ∧ Hid (v.ownBlock ≠ some (W1.heap.size + 1)) ∧ Hid (∀ r ∈ Q, r.In (W1.heap.size + 1 + 1) wr.heap.size wr) ∧ Below W1.heap.size wR wr ∧ wR.heap.size ≤ wr.heap.size) (fun _ _ _ kv _ _ => n - (intOf kv).toNat)
  case atStart => exact ⟨0, [], _, Nat.zero_le _, rfl, Lib.hid rfl, Lib.hid rfl, G0, BR, Lib.hid (by simp [Value.ownBlock]), Lib.hid (by simp), Below.refl _ _, Nat.le_refl _⟩
  case round =>
    obtain ⟨k, Q, v, hk, rfl, HQL, HQM, HGR, HBX, HVN, HQI, hnx, hszr⟩ := hrel
    obtain ⟨V, rfl⟩ : ∃ V, V = wr := ⟨_, rfl⟩
    have HNX := Lib.hid hnx
    have HBV := Lib.hid (HBW.out.trans (hnx.mono (by have := HBW.out.size; have := HS1.out; omega)))
    have hW1R : W1.heap.size + 1 + 1 ≤ V.heap.size := by have := HBX.out.lt; have := HGR.out.own; have h2 := BR.out.lt; omega
    have hwV := HBV.out.size
    by_cases hlt : k < n
    · have hlti : (k : Int) < (n : Int) := by omega
      have hkc : k < c.l.length := by rw [← HN.out]; exact hlt
      rcases HCW.out.2.2 with h3 | ⟨bc, oc, hca, hcb, hccell⟩
      · have h3' := congrArg List.length (iv_nil h3); rw [List.length_nil] at h3'; omega
      obtain ⟨x, hx⟩ : ∃ x, x = c.l[k] := ⟨_, rfl⟩
      have hcx : V.cell? ⟨bc, oc + k, none⟩ = some (.int .i64 x) := (HBV.out.cell (p := ⟨bc, oc + k, none⟩) hcb).trans (by rw [hx]; exact hccell k _ (iv_at hkc))
      have hxr := HPC.out x (by rw [hx]; exact List.getElem_mem _)
      have HXR := Lib.hid hxr
      have HQN : Hid ((lineD s.l c.l).take k ++ [distL x s.l] = (lineD s.l c.l).take (k + 1)) := Lib.hid (by
        rw [List.take_succ_eq_append_getElem (by rw [lineD_len]; exact hkc)]
        congr 2
        unfold lineD
        rw [List.getElem_map, hx])
      have x0 : V.cell? ⟨w.heap.size, 0, none⟩ = some (.slice (some ⟨bs, os, none⟩) m s.c) := by
        have h9 := ((HB0.out.on HBAR.out).touch (p := W1.heap.size) (q := V.heap.size + wR.heap.size + 1) ⟨hnx.os, hnx.tape, hnx.output, hnx.size, fun j hj hn => hnx.block j (by omega)⟩ (.inl (by have := HS1.out; omega))).c0
        rw [HSA2.out] at h9; exact h9
      rw [hca]
      have x0' : (V.alloc (.cells #[] 3)).cell? ⟨w.heap.size, 0, none⟩ = some (.slice (some ⟨bs, os, none⟩) m s.c) := ((below_alloc V _).cell (p := ⟨w.heap.size, 0, none⟩) (by have := HS1.out; simp only; omega)).trans x0
      clear hx hxr hccell hca hnx
      go_wp2
      obtain ⟨wB, hwB⟩ : ∃ u, u = V.alloc (.cells #[] 3) := ⟨_, rfl⟩
      have HO0 : Hid (wB.ownsRow V.heap.size 3 1 (.slice (some ⟨V.heap.size, 0, none⟩) 0 0) 0 (iv ((distL x s.l).take 0))) := Lib.hid (by rw [hwB]; exact empty_own V)
      have HBB : Hid (Below V.heap.size V wB) := Lib.hid (by rw [hwB]; exact below_alloc _ _)
      rw [← hwB]
      clear hwB x0 x0'
      go_loopw [6, 8, 26] (fun rv _ jv wi => ∃ a : Nat, a ≤ m ∧ jv = .int .i64 a ∧ Hid (wi.ownsRow V.heap.size 3 1 rv a (iv ((distL x s.l).take a))) ∧ Below V.heap.size V wi) (fun _ _ jv _ => m - (intOf jv).toNat)
      case atStart => exact ⟨0, Nat.zero_le _, rfl, HO0, HBB.out⟩
      case round =>
        obtain ⟨a, ha, rfl, HOW, hni2⟩ := hrel
        have hszi := hni2.size
        have HNI := Lib.hid hni2
        by_cases hlta : a < m
        · have hlti2 : (a : Int) < (m : Int) := by omega
          have has : a < s.l.length := by rw [← HM.out]; exact hlta
          obtain ⟨y, hy⟩ : ∃ y, y = s.l[a] := ⟨_, rfl⟩
          have hsy : wr.cell? ⟨bs, os + a, none⟩ = some (.int .i64 y) := ((HBV.out.trans (hni2.mono hwV)).cell (p := ⟨bs, os + a, none⟩) hsb).trans (by rw [hy]; exact HSC.out a has)
          have CB := Lib.hid (lengthBetween_any x y wr HXR.out (HPS.out y (by rw [hy]; exact List.getElem_mem _)))
          obtain ⟨q, hq⟩ : ∃ q, q = max (x - y) (y - x) := ⟨_, rfl⟩
          rw [← hq] at CB
          have HST : Hid ((distL x s.l).take (a + 1) = (distL x s.l).take a ++ [q]) := Lib.hid (by
            rw [List.take_succ_eq_append_getElem (by rw [distL_len]; exact has)]
            congr 2
            unfold distL
            rw [List.getElem_map, hq, hy])
          have hown := HOW.out
          clear hy hq hni2
          go_wp2_with fail
          refine (show Calls _ _ _ _ _ from CB.out).mono ?_
          rintro e W4 ⟨rfl, rfl⟩
          go_wp2_with (at_builtin; refine wpList_append_own _ rfl _ _ 22 rfl V.heap.size 3 i0 (.int .i64 0) 1 8 Try.underlying22 hi hz0 hz1 hz2 rfl (by decide) _ _ _ rfl (hown.alloc _) ⟨_, 0, none⟩ 1 1 [.int .i64 q] rfl rfl (one_cell _ _ _) (by simp [Value.oneCell']) (by unfold maxLen; omega) (by omega) (by simp; omega) ?_; intro v' w1 hown' hgrow _)
          have R1 : Hid (w1.ownsRow V.heap.size 3 1 v' (a + 1) (iv ((distL x s.l).take (a + 1)))) := Lib.hid (by rw [HST.out]; simpa [iv] using hown')
          have R2 : Below V.heap.size V w1 := (HNI.out.alloc (by omega) _).grown hgrow (by simp; omega) (fun j hj => (hown.lt j hj).1)
          clear hown' hgrow hown
          go_wp2
          go_roundw
          case rel => exact ⟨a + 1, by omega, by go_num, R1, R2⟩
          case measure => simp [intOf]; omega
        · obtain rfl : a = m := by omega
          obtain ⟨rv, hrv⟩ : ∃ r, r = u6 := ⟨_, rfl⟩
          have hfull : (distL x s.l).take a = distL x s.l := List.take_of_length_le (by rw [distL_len, ← HM.out]; exact Nat.le_refl _)
          have hol := HOW.out
          rw [hfull] at hol
          have hdl : (distL x s.l).length = a := by rw [distL_len, ← HM.out]
          rw [← hdl] at hol
          obtain ⟨t, htv, htl, hto, hti⟩ := row_of_own hol
          have htn : t.l.length = a := by rw [htl, hdl]
          have HTV : Hid (u6 = .slice t.a t.l.length t.c) := Lib.hid htv
          have HTL := Lib.hid htl
          have HTN := Lib.hid htn
          have HTO := Lib.hid hto
          have HTI := Lib.hid hti
          have hGR2 := HGR.out.on hni2
          have HG2 := Lib.hid hGR2
          have HBX2 := Lib.hid (HBX.out.on hni2)
          have HQI2 := Lib.hid (fun r hr => (HQI.out r hr).on hni2 : ∀ r ∈ Q, r.In (W1.heap.size + 1 + 1) V.heap.size wr)
          have hfr := HGR.out.fresh hti
          have HAP := Lib.hid hfr.1
          have HOF := Lib.hid hfr.2
          have hown := hGR2.own
          rw [HQL.out] at hown
          have hb1c := (HBX.out.on hni2).c1
          have hbr : W1.heap.size + 1 < wr.heap.size := by omega
          have hk7 : k ≤ 7 := by omega
          have htc : t.l.length ≤ 7 := by omega
          have c1' : (wr.alloc (.cells #[.slice t.a t.l.length t.c] 22)).cell? ⟨W1.heap.size + 1, 1, none⟩ = some v := (HBX2.out.on (below_alloc _ _)).c1
          rw [HTV.out]
          clear hfull hol hdl htv htl htn hto hti hGR2 hfr hni2 hrv
          go_wp2_with (at_builtin; refine wpList_append_own_at _ rfl _ _ 23 rfl W1.heap.size 22 j0 (.slice none 0 0) 1 24 Try.underlying23 hj hj0 hj1 hj2 rfl (by decide) _ _ _ rfl (hown.alloc _) ⟨wr.heap.size, 0, none⟩ 1 1 [.slice t.a t.l.length t.c] rfl rfl (one_cell _ _ _) (by simp [Value.oneCell']) (by unfold maxLen; omega) (by omega) (by simp; omega) ?_; intro v' w1 hown' hgrow hnil hloc; obtain ⟨g', cap', rfl⟩ := own_slice hown'; have hbx1 : Box2 w1 (W1.heap.size + 1) (.slice z.a a z.c) v 37 := (hgrow.block (W1.heap.size + 1) (by rw [size_alloc]; omega) (fun e => HVN.out e.symm)).trans (HBX2.out.on (below_alloc _ _)); have c2 := hbx1.c1; have f2 := hbx1.fr 1)
          have hba := below_alloc wr (.cells #[.slice t.a t.l.length t.c] 22)
          have R1 := (HG2.out.on hba).append (HTO.out.on hba) (((HTI.out.wide (by omega) (Nat.le_refl _)).on hba).wide (Nat.le_refl _) hba.size) HAP.out HOF.out (by rw [HQL.out]; exact hown') hgrow (hloc.imp id fun h => ⟨_, h, Nat.le_refl _⟩)
          have hvn' : (Value.slice (some ⟨g', 0, none⟩) (k + 1) cap').ownBlock ≠ some (W1.heap.size + 1) := by
            rcases hloc with h | h
            · exact fun e => HVN.out (h.symm.trans e)
            · intro e; rw [e] at h; simp only [Option.some.injEq] at h; rw [size_alloc] at h; omega
          have hall : ∀ r ∈ Q ++ [t], r.In (W1.heap.size + 1 + 1) w1.heap.size w1 := fun r hr => by
            have h1 := R1.ins r hr
            rcases List.mem_append.1 hr with hr | hr
            · exact (HQI2.out r hr).mix h1
            · rw [List.mem_singleton] at hr; subst hr; exact (HTI.out.wide (by omega) (Nat.le_refl _)).mix h1
          have hst := set_touch w1 (W1.heap.size + 1) 1 (.slice (some ⟨g', 0, none⟩) (k + 1) cap')
          have R2 := Lib.hid (R1.touch hst hvn' hall)
          have R3 := Lib.hid (hbx1.set1 (.slice (some ⟨g', 0, none⟩) (k + 1) cap'))
          have R4 := Lib.hid (fun r hr => ((hall r hr).touch hst (.inr (Nat.le_refl _))).wide (Nat.le_refl _) hst.size : ∀ r ∈ Q ++ [t], r.In (W1.heap.size + 1 + 1) (w1.setCell ⟨W1.heap.size + 1, 1, none⟩ (.slice (some ⟨g', 0, none⟩) (k + 1) cap')).heap.size (w1.setCell ⟨W1.heap.size + 1, 1, none⟩ (.slice (some ⟨g', 0, none⟩) (k + 1) cap')))
          have R5 := Lib.hid ((((HNX.out.trans (HNI.out.mono (by omega))).alloc (by omega) (.cells #[.slice t.a t.l.length t.c] 22)).grown hgrow (by rw [size_alloc]; omega) (fun j hj => (hown.lt j hj).1)).setCell (p := ⟨W1.heap.size + 1, 1, none⟩) (by show W1.heap.size ≤ W1.heap.size + 1; omega) (.slice (some ⟨g', 0, none⟩) (k + 1) cap'))
          have R6 := Lib.hid (show wR.heap.size ≤ (w1.setCell ⟨W1.heap.size + 1, 1, none⟩ (.slice (some ⟨g', 0, none⟩) (k + 1) cap')).heap.size by have h1 := hst.size; have h2 := hgrow.size; rw [size_alloc] at h2; omega)
          have HVX := Lib.hid hvn'
          have R7 : Hid ((Q ++ [t]).map Row.l = (lineD s.l c.l).take (k + 1)) := Lib.hid (by rw [List.map_append, HQM.out, ← HQN.out, List.map_cons, HTL.out]; rfl)
          have R8 : Hid ((Q ++ [t]).length = k + 1) := Lib.hid (by rw [List.length_append, HQL.out]; rfl)
          clear hba R1 hvn' hall hst hown' hown hgrow hloc hnil hbx1 c2 f2 hb1c c1'
          go_wp2
          go_roundw
          case rel => exact ⟨k + 1, Q ++ [t], _, by omega, by go_num, R8, R7, R2, R3, HVX, R4, R5.out, R6.out⟩
          case measure => simp [intOf]; omega
    · obtain rfl : k = n := by omega
      obtain ⟨T, hv, hTR, hTo, hTi⟩ := tab_of HGR.out
      subst hv
      have HTR := Lib.hid hTR
      have HTO := Lib.hid hTo
      have HTI := Lib.hid hTi
      have b2 : Box2 V (w.heap.size + 1) (.slice none 0 0) (.slice none 0 0) 37 := (HB1.out.on HBAR.out).touch (p := W1.heap.size) (q := V.heap.size + wR.heap.size + 1) ⟨hnx.os, hnx.tape, hnx.output, hnx.size, fun j hj hn => hnx.block j (by omega)⟩ (.inl (by have := HS1.out; omega))
      have B2F := Lib.hid b2
      have y20 := b2.c0
      have y21 := b2.c1
      have f20 := b2.fr 0
      have f21 := b2.fr 1
      have x0 := HBX.out.c0
      have x1 := HBX.out.c1
      have HZO2 := Lib.hid (HZO.out.touch HZI.out (p := W1.heap.size) (q := V.heap.size + wR.heap.size + 1) ⟨hnx.os, hnx.tape, hnx.output, hnx.size, fun j hj hn => hnx.block j (by omega)⟩ (.inl (Nat.le_refl _)))
      have HZI2 := Lib.hid (HZI.out.touch (p := W1.heap.size) (q := V.heap.size + wR.heap.size + 1) ⟨hnx.os, hnx.tape, hnx.output, hnx.size, fun j hj hn => hnx.block j (by omega)⟩ (.inl (Nat.le_refl _)))
      clear b2 hTR hTo hTi hnx
      go_wp2
      obtain ⟨wF, hF⟩ : ∃ wF, wF = (V.setCell ⟨w.heap.size + 1, 0, none⟩ (.slice z.a m z.c)).setCell ⟨w.heap.size + 1, 1, none⟩ (.slice T.a T.R.length T.c) := ⟨_, rfl⟩
      rw [← hF]
      have bF : Box2 wF (w.heap.size + 1) (.slice z.a m z.c) (.slice T.a T.R.length T.c) 37 := by rw [hF]; exact ((B2F.out).set0 _).set1 _
      have tF : Touch (w.heap.size + 1) (w.heap.size + 1 + 1) V wF := by
        rw [hF]
        exact ((Touch.refl _ _ V).set (by omega) (by omega) _ _).set (by omega) (by omega) _ _
      have r0 := bF.c0
      have r1 := bF.c1
      clear y20 y21 f20 f21 x0 x1 hF
      refine bodyPost_ret (v := .agg #[.slice z.a m z.c, .slice T.a T.R.length T.c]) (by simp [results, Try.results40, go_sem, r0, r1]) rfl ?_
      have hSA := HSA.out
      have hS1 := HS1.out
      have hsF := HZI2.out.touch tF (.inr (by omega))
      have hoF := HZO2.out.touch HZI2.out tF (.inr (by omega))
      have hTF := HTI.out.touch tF (.inr (by omega))
      have hTO : T.Own 3 wF := ⟨⟨fun r hr => (HTO.out.1.1 r hr).touch (HTI.out.2 r hr) tF (.inr (by omega)), HTO.out.1.2⟩, HTO.out.2⟩
      obtain ⟨j1, j2⟩ := fld_join hoF hsF hTO hTF (by omega) (by omega)
      have hcon : T.con = lineD s.l c.l := by
        have := HQM.out
        rw [← HTR.out, List.take_of_length_le (by rw [lineD_len, ← HN.out]; exact Nat.le_refl _)] at this
        exact this
      exact ⟨⟨z, T⟩, by rw [← HZN.out]; rfl, by rw [HZL.out], hcon, j1, j2.wide (by omega) tF.size, HBV.out.trans (tF.below (by omega) (by omega))⟩
end Go.Proofs.Ytfgedolngcdjpaa
