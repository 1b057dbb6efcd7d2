/- What a choice covers, and whether System and choice are valid: the contracts of both sides. Condition: they read as such. -/
import Derived.Test.YtbngmjmcmdfphaaPlainCover
import Derived.Test.YtbngmjmcmdfphaaAppendRow
import Derived.Test.YtbngmjmcmdfphaaSysGood
namespace Go.Proofs.Ytbngmjmcmdfphaa
open Go.RowKit Go.Shelf

theorem putAll_snoc (A r : List Int) {j : Nat} (h : j < r.length) : putAll (A ++ r.take (j + 1)) = putS (putAll (A ++ r.take j)) r[j] := by
  rw [List.take_succ_eq_append_getElem h, ← List.append_assoc, putAll_app]; rfl
theorem putAll_few (L : List Int) : (putAll L).length ≤ L.length := by have := putAll_len L []; simpa [putAll] using this

set_option maxHeartbeats 1000000 in
theorem canChoose_any (S : Sys) (c : Row) (w : World) (hS : S.At w) (hc : c.At w) :
    Calls Try.prog 54 #[.agg #[.int .i64 S.n, .slice S.f.t.a S.f.t.R.length S.f.t.c, .slice S.f.o.a S.f.o.l.length S.f.o.c], .slice c.a c.l.length c.c] w fun e w' => e = .returned (.bool (twoS S c.l)) ∧ Below w.heap.size w w' := by
  obtain ⟨wA, hA, hb, bx, hSA, _⟩ := laid_sys S w 29 hS
  have x0 := bx.c0
  have x1 := bx.c1
  have x2 := bx.c2
  rw [hA] at x0 x1 x2
  have HCA := Lib.hid (hc.on hb)
  have HBX := Lib.hid bx
  have HA := Lib.hid hA
  obtain ⟨v, hv⟩ : ∃ v, v = S.good := ⟨_, rfl⟩
  have CG := implIsSystem_any S wA hSA
  rw [← hv] at CG
  have CG1 := Lib.hid CG
  have HTW : Hid (twoS S c.l = (v && setB S.f.t.R.length c.l)) := Lib.hid (by unfold twoS; rw [hv, con_length])
  have hti : (S.f.t.R.length : Int) ≤ 9223372036854775807 := by obtain ⟨⟨q1, q2, _⟩, _⟩ := hS.2; rw [tv_length] at q1; unfold maxLen at q2; omega
  have CS := Lib.hid fun u (hu : Below wA.heap.size wA u) => ascends_any c S.f.t.R.length u (HCA.out.on hu) hti
  clear hS hc bx hSA hA hv CG
  go_enter Try.func54, Try.ntmps54
  go_wp2_with fail
  rw [← HA.out]
  refine (show Calls _ _ _ _ _ from CG1.out).mono ?_
  rintro e W1 ⟨rfl, hb1⟩
  have hbw := hb.trans (hb1.mono hb.size)
  clear x0 x1 x2
  cases v with
  | false =>
    go_wp2
    go_ret
    exact ⟨by rw [HTW.out]; rfl, hbw⟩
  | true =>
    have y1 := (HBX.out.on hb1).c1
    obtain ⟨u, hu⟩ : ∃ u, u = setB S.f.t.R.length c.l := ⟨_, rfl⟩
    have CS1 := CS.out W1 hb1
    rw [← hu] at CS1
    have CS2 := Lib.hid CS1
    have HTU : Hid (twoS S c.l = u) := Lib.hid (by rw [HTW.out, hu]; rfl)
    clear CS1 hu
    go_wp2_with fail
    refine (show Calls _ _ _ _ _ from CS2.out).mono ?_
    rintro e W2 ⟨rfl, rfl⟩
    go_wp2
    go_ret
    exact ⟨by rw [HTU.out]; rfl, hbw⟩

/-- The cells of a choice. -/
theorem up_cells {c : Row} {T : List Nat} {w u : World} (hc : c.At w) (hu : Below w.heap.size w u) (hcl : c.l = up T) {k : Nat} (hk : k < T.length) : ∃ b o, c.a = some ⟨b, o, none⟩ ∧ u.cell? ⟨b, o + k, none⟩ = some (.int .i64 (T[k] : Int)) := by
  obtain ⟨_, _, h3⟩ := hc
  rcases h3 with h3 | ⟨b, o, ha, hb, hcell⟩
  · have := congrArg List.length (iv_nil h3); rw [hcl, up_length, List.length_nil] at this; omega
  · refine ⟨b, o, ha, (hu.cell (p := ⟨b, o + k, none⟩) hb).trans (hcell k _ ?_)⟩
    have hk2 : k < c.l.length := by rw [hcl, up_length]; exact hk
    rw [iv_at hk2]
    simp only [hcl, up_at hk]
/-- The row of a table at a place. -/
theorem tab_cells {T : Tab} {w u : World} (hT : T.At w) (hu : Below w.heap.size w u) {k : Nat} (hk : k < T.R.length) : ∃ b o, ∃ r : Row, T.a = some ⟨b, o, none⟩ ∧ u.cell? ⟨b, o + k, none⟩ = some (.slice r.a r.l.length r.c) ∧ r.At u ∧ T.con.getD k [] = r.l ∧ r ∈ T.R := by
  obtain ⟨⟨_, _, h3⟩, hr⟩ := hT
  rcases h3 with h3 | ⟨b, o, ha, hb, hcell⟩
  · have h3' := congrArg List.length h3; rw [tv_length, List.length_nil] at h3'; omega
  · refine ⟨b, o, T.R[k], ha, (hu.cell (p := ⟨b, o + k, none⟩) hb).trans (hcell k _ (tv_at hk)), (hr _ (List.getElem_mem hk)).on hu, ?_, List.getElem_mem hk⟩
    rw [List.getD_eq_getElem?_getD, List.getElem?_eq_getElem (by rw [con_length]; exact hk), Option.getD_some, con_at T hk]

set_option maxRecDepth 16000 in
set_option maxHeartbeats 2000000 in
theorem l6Covered_any (S : Sys) (c : Row) (T : List Nat) (w : World) (hS : S.At w) (hc : c.At w) (h8 : ∀ l ∈ S.f.t.con, l.length ≤ 8) (hcl : c.l = up T) (hlt : ∀ m ∈ T, m < S.f.t.con.length) (hfew : T.length ≤ 8) :
    Calls Try.prog 43 #[.agg #[.int .i64 S.n, .slice S.f.t.a S.f.t.R.length S.f.t.c, .slice S.f.o.a S.f.o.l.length S.f.o.c], .slice c.a c.l.length c.c] w fun e w' => ∃ t : Row, e = .returned (.slice t.a t.l.length t.c) ∧ t.l = elsT S.f.t.con T ∧ t.Own 3 w' ∧ t.In w.heap.size w'.heap.size w' ∧ Below w.heap.size w w' := by
  obtain ⟨wA, hA, hb, bx, hSA, hszA⟩ := laid_sys S w 29 hS
  have HCA := Lib.hid (hc.on hb)
  have HTA := Lib.hid hSA.2
  have HBX := Lib.hid bx
  have HA := Lib.hid hA
  have H8 := Lib.hid h8
  have HCL := Lib.hid hcl
  have HLT := Lib.hid (fun m hm => by have := hlt m hm; rw [con_length] at this; exact this : ∀ m ∈ T, m < S.f.t.R.length)
  obtain ⟨n, hn⟩ : ∃ n, n = c.l.length := ⟨_, rfl⟩
  have HTN : Hid (T.length = n) := Lib.hid (by rw [hn, hcl, up_length])
  have hn8 : n ≤ 8 := by have := HTN.out; omega
  have hni : (n : Int) ≤ 8 := by omega
  have hti : (S.f.t.R.length : Int) ≤ 9223372036854775807 := by obtain ⟨⟨q1, q2, _⟩, _⟩ := hS.2; rw [tv_length] at q1; unfold maxLen at q2; omega
  obtain ⟨D, hD⟩ : ∃ D, D = S.f.t.con := ⟨_, rfl⟩
  have HFB : Hid (∀ k, (flatS D (T.take k)).length ≤ 64) := Lib.hid fun k => by
    have h1 := flat_bound h8 (T.take k)
    rw [List.length_take] at h1
    rw [hD]
    have : 8 * min k T.length ≤ 64 := by omega
    omega
  obtain ⟨w0, hw0⟩ : ∃ u, u = wA.alloc (.cells #[] 3) := ⟨_, rfl⟩
  have hb0 : Below wA.heap.size wA w0 := by rw [hw0]; exact below_alloc _ _
  have H0 : Hid (LRow wA.heap.size w0 (.slice (some ⟨w.heap.size + 1, 0, none⟩) 0 0) [] (w.heap.size + 1) 0) := Lib.hid ⟨rfl, by have := empty_own wA; rw [← hw0, hszA] at this; rw [hszA]; exact this⟩
  have HW0 : Hid (w0 = (w.alloc (Obj.cells #[.int .i64 S.n, .slice S.f.t.a S.f.t.R.length S.f.t.c, .slice S.f.o.a S.f.o.l.length S.f.o.c] 29)).alloc (.cells #[] 3)) := Lib.hid (by rw [hw0, hA])
  have HB0 := Lib.hid hb0
  have HDD := Lib.hid hD
  have hwA := hb.size
  rw [← hD]
  rw [← hn]
  clear hS hc hcl hlt h8 bx hSA hA hw0 hb0 hn hD hszA hfew
  go_enter Try.func43, Try.ntmps43
  go_wp2
  go_loopw [5, 6, 7, 8] (fun out iv_ _ _ wr => ∃ k g cap : Nat, k ≤ n ∧ iv_ = .int .i64 k ∧ out = .slice (some ⟨g, 0, none⟩) (putAll (flatS D (T.take k))).length cap ∧ Hid (LRow wA.heap.size wr out (putAll (flatS D (T.take k))) g cap) ∧ Below w0.heap.size w0 wr) (fun _ iv_ _ _ _ => n - (intOf iv_).toNat)
  case atStart => exact ⟨0, _, _, Nat.zero_le _, rfl, rfl, Lib.hid (by have := H0.out; rw [HW0.out] at this; exact this), by rw [HW0.out]; exact Below.refl _ _⟩
  case round =>
    obtain ⟨k, g, cap, hk, rfl, rfl, HL, hnx⟩ := hrel
    have HNX := Lib.hid hnx
    have hszr := hnx.size
    have HBA : Hid (Below wA.heap.size wA wr) := Lib.hid (HB0.out.trans (hnx.mono HB0.out.size))
    by_cases hltk : k < n
    · have hlti : (k : Int) < (n : Int) := by omega
      have hkT : k < T.length := by rw [HTN.out]; exact hltk
      obtain ⟨b, o, ha, hcl⟩ := up_cells HCA.out HBA.out HCL.out hkT
      obtain ⟨m, hm⟩ : ∃ m, m = T[k] := ⟨_, rfl⟩
      rw [← hm] at hcl
      have hmR : m < S.f.t.R.length := HLT.out m (by rw [hm]; exact List.getElem_mem _)
      have hmi : (m : Int) < (S.f.t.R.length : Int) := by omega
      obtain ⟨bt, ot, r, hta, hcr, hrat, hrl, hrm⟩ := tab_cells HTA.out HBA.out hmR
      have y1 : wr.cell? ⟨w.heap.size, 1, none⟩ = some (.slice (some ⟨bt, ot, none⟩) S.f.t.R.length S.f.t.c) := by rw [← hta]; exact (HBX.out.on HBA.out).c1
      have hr8 : r.l.length ≤ 8 := H8.out _ (List.mem_map.2 ⟨r, hrm, rfl⟩)
      have hr8i : (r.l.length : Int) ≤ 8 := by omega
      obtain ⟨A, hA⟩ : ∃ A, A = flatS D (T.take k) := ⟨_, rfl⟩
      have hA64 : A.length ≤ 64 := by rw [hA]; exact HFB.out k
      have HST : Hid (flatS D (T.take (k + 1)) = A ++ r.l) := Lib.hid (by rw [flatS_step D T hkT, ← hm, hA, HDD.out, hrl])
      have HRA := Lib.hid hrat
      rw [← hA] at HL ⊢
      rw [ha]
      clear hm ha hA hta hrat hrl hrm hnx
      go_wp2_with fail
      go_quiet (fail)
      go_wp2
      have HDW : Hid (∀ d, Below wr.heap.size wr (wr.drewN d)) := Lib.hid fun d => below_draws wr d
      go_loopw [5, 8] (fun out jv w3 => ∃ j g3 cap3 : Nat, j ≤ r.l.length ∧ jv = .int .i64 j ∧ out = .slice (some ⟨g3, 0, none⟩) (putAll (A ++ r.l.take j)).length cap3 ∧ Hid (LRow wA.heap.size w3 out (putAll (A ++ r.l.take j)) g3 cap3) ∧ Below wr.heap.size wr w3) (fun _ jv _ => r.l.length - (intOf jv).toNat)
      case atStart => exact ⟨0, g, cap, Nat.zero_le _, rfl, by rw [List.take_zero, List.append_nil], Lib.hid (by rw [List.take_zero, List.append_nil]; exact HL.out.on (HDW.out _)), HDW.out _⟩
      case round =>
        obtain ⟨j, g3, cap3, hj, rfl, rfl, HL3, hnx3⟩ := hrel
        have HNX3 := Lib.hid hnx3
        have hszr3 := hnx3.size
        by_cases hltj : j < r.l.length
        · have hltji : (j : Int) < (r.l.length : Int) := by omega
          obtain ⟨b5, o5, ha5, hc5⟩ : ∃ b5 o5, r.a = some ⟨b5, o5, none⟩ ∧ wr.cell? ⟨b5, o5 + j, none⟩ = some (.int .i64 r.l[j]) := by
            rcases (HRA.out.on hnx3).2.2 with h3 | ⟨b5, o5, h5, _, hc5⟩
            · have := congrArg List.length (iv_nil h3); rw [List.length_nil] at this; omega
            · exact ⟨b5, o5, h5, hc5 j _ (iv_at hltj)⟩
          obtain ⟨x, hx⟩ : ∃ x, x = r.l[j] := ⟨_, rfl⟩
          rw [← hx] at hc5
          obtain ⟨L, hL⟩ : ∃ L, L = putAll (A ++ r.l.take j) := ⟨_, rfl⟩
          have hLl : L.length ≤ 1048576 := by
            have := putAll_few (A ++ r.l.take j)
            rw [List.length_append, List.length_take] at this
            rw [hL]; omega
          have hLr : L.Pairwise (· < ·) := by rw [hL]; exact putAll_rises _
          have HSN : Hid (putAll (A ++ r.l.take (j + 1)) = putS L x) := Lib.hid (by rw [putAll_snoc A r.l hltj, hL, hx])
          rw [← hL] at HL3 ⊢
          have CP := Lib.hid (l1PutS_any wA.heap.size g3 cap3 L x wr HL3.out.own hLl hLr (by have := HBA.out.size; omega))
          rw [ha5]
          clear hx hL ha5 hLr hnx3 hLl
          go_wp2_with fail
          refine (show Calls _ _ _ _ _ from CP.out).mono ?_
          rintro e W4 ⟨v4, g4, cap4, rfl, hl4, hb4⟩
          have HL4 := Lib.hid hl4
          have hv4 := hl4.val
          subst hv4
          have R2 := HNX3.out.trans (hb4.mono hszr3)
          clear hl4 hb4
          go_wp2
          go_roundw
          case rel => exact ⟨j + 1, g4, cap4, by omega, by go_num, by rw [HSN.out], Lib.hid (by rw [HSN.out]; exact HL4.out), R2⟩
          case measure => simp [intOf]; omega
        · obtain rfl : j = r.l.length := by omega
          rw [List.take_length, ← HST.out] at HL3 ⊢
          have R2 := HNX.out.trans (hnx3.mono hszr)
          clear hnx3
          go_wp2
          go_roundw
          case rel => exact ⟨k + 1, g3, cap3, by omega, by go_num, rfl, HL3, R2⟩
          case measure => simp [intOf]; omega
    · obtain rfl : k = n := by omega
      have hfull : T.take k = T := List.take_of_length_le (by rw [HTN.out]; exact Nat.le_refl _)
      rw [hfull] at HL ⊢
      obtain ⟨t, ht, htl, hto, hti⟩ := HL.out.row
      have HT9 := Lib.hid ht
      clear ht hnx
      go_wp2
      go_ret
      exact ⟨t, congrArg Ending.returned HT9.out, htl, hto, hti.wide hwA (Nat.le_refl _), hb.trans (HBA.out.mono hwA)⟩

set_option maxRecDepth 16000 in
set_option maxHeartbeats 2000000 in
theorem elementsOf_any (S : Sys) (c : Row) (T : List Nat) (w : World) (hS : S.At w) (hc : c.At w) (h8 : ∀ l ∈ S.f.t.con, l.length ≤ 8) (hcl : c.l = up T) (hlt : ∀ m ∈ T, m < S.f.t.con.length) (hfew : T.length ≤ 8) :
    Calls Try.prog 46 #[.agg #[.int .i64 S.n, .slice S.f.t.a S.f.t.R.length S.f.t.c, .slice S.f.o.a S.f.o.l.length S.f.o.c], .slice c.a c.l.length c.c] w fun e w' => ∃ t : Row, e = .returned (.slice t.a t.l.length t.c) ∧ t.l = elsT S.f.t.con T ∧ t.Own 3 w' ∧ t.In w.heap.size w'.heap.size w' ∧ Below w.heap.size w w' := by
  obtain ⟨wA, hA, hb, bx, hSA, hszA⟩ := laid_sys S w 29 hS
  have HCA := Lib.hid (hc.on hb)
  have HTA := Lib.hid hSA.2
  have HBX := Lib.hid bx
  have HA := Lib.hid hA
  have H8 := Lib.hid h8
  have HCL := Lib.hid hcl
  have HLT := Lib.hid (fun m hm => by have := hlt m hm; rw [con_length] at this; exact this : ∀ m ∈ T, m < S.f.t.R.length)
  obtain ⟨n, hn⟩ : ∃ n, n = c.l.length := ⟨_, rfl⟩
  have HTN : Hid (T.length = n) := Lib.hid (by rw [hn, hcl, up_length])
  have hn8 : n ≤ 8 := by have := HTN.out; omega
  have hni : (n : Int) ≤ 8 := by omega
  have hti : (S.f.t.R.length : Int) ≤ 9223372036854775807 := by obtain ⟨⟨q1, q2, _⟩, _⟩ := hS.2; rw [tv_length] at q1; unfold maxLen at q2; omega
  obtain ⟨D, hD⟩ : ∃ D, D = S.f.t.con := ⟨_, rfl⟩
  have HFB : Hid (∀ k, (flatS D (T.take k)).length ≤ 64) := Lib.hid fun k => by
    have h1 := flat_bound h8 (T.take k)
    rw [List.length_take] at h1
    rw [hD]
    have : 8 * min k T.length ≤ 64 := by omega
    omega
  obtain ⟨w0, hw0⟩ : ∃ u, u = wA.alloc (.cells #[] 3) := ⟨_, rfl⟩
  have hb0 : Below wA.heap.size wA w0 := by rw [hw0]; exact below_alloc _ _
  have H0 : Hid (w0.ownsRow wA.heap.size 3 1 (.slice (some ⟨w.heap.size + 1, 0, none⟩) 0 0) 0 (iv [])) := Lib.hid (by have := empty_own wA; rw [← hw0, hszA] at this; rw [hszA]; exact this)
  have HW0 : Hid (w0 = (w.alloc (Obj.cells #[.int .i64 S.n, .slice S.f.t.a S.f.t.R.length S.f.t.c, .slice S.f.o.a S.f.o.l.length S.f.o.c] 29)).alloc (.cells #[] 3)) := Lib.hid (by rw [hw0, hA])
  have HB0 := Lib.hid hb0
  have HDD := Lib.hid hD
  have hwA := hb.size
  rw [← hD]
  rw [← hn]
  clear hS hc hcl hlt h8 bx hSA hA hw0 hb0 hn hD hszA hfew
  go_enter Try.func46, Try.ntmps46
  go_wp2
  go_loopw [5, 7, 11] (fun out _ iv_ wr => ∃ k : Nat, k ≤ n ∧ iv_ = .int .i64 k ∧ wr.ownsRow wA.heap.size 3 1 out (flatS D (T.take k)).length (iv (flatS D (T.take k))) ∧ Below wA.heap.size wA wr) (fun _ _ iv_ _ => n - (intOf iv_).toNat)
  case atStart => exact ⟨0, Nat.zero_le _, rfl, by have := H0.out; rw [HW0.out] at this; exact this, by have := HB0.out; rw [HW0.out] at this; exact this⟩
  case round =>
    obtain ⟨k, hk, rfl, hown, hnx⟩ := hrel
    have HBA := Lib.hid hnx
    have hszr := hnx.size
    by_cases hltk : k < n
    · have hlti : (k : Int) < (n : Int) := by omega
      have hkT : k < T.length := by rw [HTN.out]; exact hltk
      obtain ⟨b, o, ha, hcl⟩ := up_cells HCA.out HBA.out HCL.out hkT
      obtain ⟨m, hm⟩ : ∃ m, m = T[k] := ⟨_, rfl⟩
      rw [← hm] at hcl
      have hmR : m < S.f.t.R.length := HLT.out m (by rw [hm]; exact List.getElem_mem _)
      have hmi : (m : Int) < (S.f.t.R.length : Int) := by omega
      obtain ⟨bt, ot, r, hta, hcr, hrat, hrl, hrm⟩ := tab_cells HTA.out HBA.out hmR
      have y1 : wr.cell? ⟨w.heap.size, 1, none⟩ = some (.slice (some ⟨bt, ot, none⟩) S.f.t.R.length S.f.t.c) := by rw [← hta]; exact (HBX.out.on HBA.out).c1
      have hr8 : r.l.length ≤ 8 := H8.out _ (List.mem_map.2 ⟨r, hrm, rfl⟩)
      have hA64 := HFB.out k
      have HST : Hid (flatS D (T.take (k + 1)) = flatS D (T.take k) ++ r.l) := Lib.hid (by rw [flatS_step D T hkT, ← hm, HDD.out, hrl])
      obtain ⟨v', w4, hr, ho', hb4⟩ := append_row wA.heap.size _ _ _ wr hown r.a r.c r.l.length (iv r.l) (by rw [iv_length]) hrat (iv_one r.l) (by omega) (HBA.out.size)
      have HO4 : Hid (w4.ownsRow wA.heap.size 3 1 v' (flatS D (T.take (k + 1))).length (iv (flatS D (T.take (k + 1))))) := Lib.hid (by
        rw [HST.out, List.length_append]
        have : iv (flatS D (T.take k) ++ r.l) = iv (flatS D (T.take k)) ++ iv r.l := by simp [iv]
        rw [this]; exact ho')
      have HB4 := Lib.hid (HBA.out.trans hb4)
      rw [ha]
      clear hm ha hta hrat hrl hrm hnx ho' hb4 hown hA64
      go_wp2_with (at_builtin; refine Lib.wpList_append_run _ rfl _ _ _ _ rfl _ _ rfl rfl _ _ hr ?_)
      go_roundw
      case rel => exact ⟨k + 1, by omega, by go_num, HO4.out, HB4.out⟩
      case measure => simp [intOf]; omega
    · obtain rfl : k = n := by omega
      have hfull : T.take k = T := List.take_of_length_le (by rw [HTN.out]; exact Nat.le_refl _)
      have hA64 := HFB.out k
      rw [hfull] at hown hA64
      obtain ⟨t, rfl, htl, hto, hti⟩ := row_of_own hown
      have htn : t.l.length ≤ 64 := by rw [htl]; exact hA64
      have CS := Lib.hid (sortRow_any t wA.heap.size wr hto hti (by omega) HBA.out.size)
      have HTL := Lib.hid htl
      clear hfull htl hto hti hnx hown
      go_wp2_with fail
      refine (show Calls _ _ _ _ _ from CS.out).mono ?_
      rintro e W3 ⟨rfl, hso, hsi, hb3⟩
      have hsl3 : (sortA t.l).length = t.l.length := sortA_len _
      have CC := Lib.hid (by
        have := compactRow_any ⟨t.a, t.c, sortA t.l⟩ wA.heap.size W3 hso hsi (by simp only; rw [hsl3]; omega) (Nat.le_trans HBA.out.size hb3.size)
        simp only at this
        rw [hsl3] at this; exact this)
      have HB3 := Lib.hid hb3
      clear hso hsi hb3 hsl3
      go_wp2_with fail
      refine (show Calls _ _ _ _ _ from CC.out).mono ?_
      rintro e W4 ⟨c4, rfl, hcl4, hco, hci, hb4⟩
      have HC4 := Lib.hid hcl4
      have HB4 := Lib.hid hb4
      clear hcl4 hb4
      go_wp2
      go_ret
      exact ⟨c4, rfl, by rw [HC4.out, HTL.out]; exact compact_put _, hco, hci.wide hwA (Nat.le_refl _), hb.trans (((HBA.out.trans HB3.out).trans HB4.out).mono hwA)⟩

end Go.Proofs.Ytbngmjmcmdfphaa
