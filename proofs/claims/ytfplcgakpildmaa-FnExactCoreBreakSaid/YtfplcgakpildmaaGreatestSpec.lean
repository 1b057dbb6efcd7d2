/- The greatest excess, on both sides. Condition: the Field and the shares read as such. -/
import Derived.Test.YtfplcgakpildmaaSharesSpec
import Derived.Test.YtfplcgakpildmaaShelf
namespace Go.Proofs.Ytfplcgakpildmaa
open Go.RowKit Go.Shelf

theorem mostR_any (x y : Int) (w : World) :
    Calls Try.prog 50 #[.int .i64 x, .int .i64 y] w fun e w' => e = .returned (.int .i64 (max x y)) ∧ w' = w := by
  by_cases h : y < x
  · have hm : Hid (max x y = x) := Lib.hid (by omega)
    rw [hm.out]
    go_enter Try.func50, Try.ntmps50
    go_wp2
    go_ret
    exact ⟨rfl, rfl⟩
  · have hm : Hid (max x y = y) := Lib.hid (by omega)
    rw [hm.out]
    go_enter Try.func50, Try.ntmps50
    go_wp2
    go_ret
    exact ⟨rfl, rfl⟩

theorem subS_step (p : List Int) (T : List Nat) {k : Nat} (h : k < T.length) : subS p (T.take (k + 1)) = subS p (T.take k) + p.getD T[k] 0 := by
  rw [List.take_succ_eq_append_getElem h]; exact subS_snoc p _ _

set_option maxHeartbeats 1000000 in
theorem l7Room_any (p s : Row) (T : List Nat) (w : World) (hp : p.At w) (hs : s.At w) (hT : s.l = up T) (hb : ∀ j ∈ T, j < p.l.length) (h7 : T.length ≤ 7) (hpb : ∀ x ∈ p.l, -1400 ≤ x ∧ x ≤ 1400) :
    Calls Try.prog 51 #[.slice p.a p.l.length p.c, .slice s.a s.l.length s.c] w fun e w' => e = .returned (.int .i64 (subS p.l T)) ∧ w' = w := by
  have HP := Lib.hid hp
  have HS := Lib.hid hs
  have HT := Lib.hid hT
  have HB := Lib.hid hb
  have HPB := Lib.hid hpb
  have hpi : (p.l.length : Int) ≤ 9223372036854775807 := by obtain ⟨q1, q2, _⟩ := hp; rw [iv_length] at q1; unfold maxLen at q2; omega
  obtain ⟨n, hn⟩ : ∃ n, n = T.length := ⟨_, rfl⟩
  have HN := Lib.hid hn
  have hni : (n : Int) ≤ 7 := by omega
  have HSN : Hid (s.l.length = T.length) := Lib.hid (by rw [hT, up_length])
  rw [HSN.out, ← hn]
  clear hp hs hT hb hpb hn h7
  go_enter Try.func51, Try.ntmps51
  go_wp2
  go_loopw [5, 6] (fun sv iv' wr => ∃ k : Nat, k ≤ n ∧ iv' = .int .i64 k ∧ sv = .int .i64 (subS p.l (T.take k)) ∧ w = wr) (fun _ iv' _ => n - (intOf iv').toNat)
  case atStart => exact ⟨0, Nat.zero_le _, rfl, rfl, rfl⟩
  case round =>
    obtain ⟨k, hk, rfl, rfl, rfl⟩ := hrel
    by_cases hlt : k < n
    · have hlti : (k : Int) < (n : Int) := by omega
      have hkT : k < T.length := by rw [← HN.out]; exact hlt
      have hks : k < s.l.length := by rw [HSN.out]; exact hkT
      obtain ⟨j, hj⟩ : ∃ j, j = T[k] := ⟨_, rfl⟩
      have hjp : j < p.l.length := by rw [hj]; exact HB.out _ (List.getElem_mem hkT)
      have hji : (j : Int) < (p.l.length : Int) := by omega
      obtain ⟨bs, os, hsa, hcs⟩ : ∃ b o, s.a = some ⟨b, o, none⟩ ∧ w.cell? ⟨b, o + k, none⟩ = some (.int .i64 (j : Int)) := by
        rcases HS.out.2.2 with h3 | ⟨b, o, h5, _, h7⟩
        · have := congrArg List.length (iv_nil h3); rw [List.length_nil] at this; omega
        · exact ⟨b, o, h5, by rw [h7 k _ (iv_at hks)]; simp only [HT.out, hj, up, List.getElem_map]⟩
      obtain ⟨x, hx⟩ : ∃ x, x = p.l.getD j 0 := ⟨_, rfl⟩
      obtain ⟨bp, op, hpa, hcp⟩ : ∃ b o, p.a = some ⟨b, o, none⟩ ∧ w.cell? ⟨b, o + j, none⟩ = some (.int .i64 x) := by
        rcases HP.out.2.2 with h3 | ⟨b, o, h5, _, h7⟩
        · have := congrArg List.length (iv_nil h3); rw [List.length_nil] at this; omega
        · exact ⟨b, o, h5, by rw [h7 j _ (iv_at hjp), hx, getD_at hjp]⟩
      have hst : subS p.l (T.take (k + 1)) = subS p.l (T.take k) + x := by rw [subS_step p.l T hkT, ← hj, hx]
      have hsb := subS_between HPB.out (T.take k)
      rw [List.length_take] at hsb
      have hxb : -1400 ≤ x ∧ x ≤ 1400 := by rw [hx, getD_at hjp]; exact HPB.out _ (List.getElem_mem hjp)
      obtain ⟨z, hz⟩ : ∃ z, z = subS p.l (T.take k) := ⟨_, rfl⟩
      rw [← hz] at hst hsb ⊢
      have hz1 : -9800 ≤ z := by omega
      have hz2 : z ≤ 9800 := by omega
      have hx1 := hxb.1
      have hx2 := hxb.2
      have HST := Lib.hid hst
      rw [hsa, hpa]
      clear hst hsb hxb hz hx hj hsa hpa
      go_wp2
      go_roundw
      case rel => exact ⟨k + 1, by omega, by go_num, by rw [HST.out], by first | rfl | trivial⟩
      case measure => simp [intOf]; omega
    · obtain rfl : k = n := by omega
      have HE : Hid (subS p.l (T.take k) = subS p.l T) := Lib.hid (by rw [HN.out, List.take_length])
      go_wp2
      go_ret
      exact ⟨by rw [← HE.out]; rfl, by first | rfl | trivial⟩

set_option maxHeartbeats 1000000 in
theorem l9Shares_any (F : Fld) (s : Row) (w : World) (hF : F.At w) (hs : s.At w) :
    Calls Try.prog 45 #[.agg #[.slice F.o.a F.o.l.length F.o.c, .slice F.t.a F.t.R.length F.t.c], .slice s.a s.l.length s.c] w fun e w' => e = .returned (.bool (sharesB F s.l)) ∧ Below w.heap.size w w' := by
  obtain ⟨wA, hA, hbA, bx, hFA, hszA⟩ := laid_fld F w 29 hF
  have HBX : Hid (Box2 wA w.heap.size (.slice F.o.a F.o.l.length F.o.c) (.slice F.t.a F.t.R.length F.t.c) 29) := Lib.hid bx
  have CT := l2Good_any F wA hFA
  obtain ⟨g, hg⟩ : ∃ g, g = F.good := ⟨_, rfl⟩
  rw [← hg] at CT
  have hmi : (F.t.R.length : Int) ≤ 9223372036854775807 := by obtain ⟨q1, q2, _⟩ := hF.2.1; rw [tv_length] at q1; unfold maxLen at q2; omega
  have hsi : (s.l.length : Int) ≤ 9223372036854775807 := by obtain ⟨q1, q2, _⟩ := hs; rw [iv_length] at q1; unfold maxLen at q2; omega
  have HV : Hid (sharesB F s.l = (g && (decide (s.l.length = F.t.R.length) && s.l.all shareIn))) := Lib.hid (by rw [hg]; rfl)
  obtain ⟨n, hn⟩ : ∃ n, n = s.l.length := ⟨_, rfl⟩
  obtain ⟨m, hm⟩ : ∃ m, m = F.t.R.length := ⟨_, rfl⟩
  have HN := Lib.hid hn
  have HM := Lib.hid hm
  have CI := Lib.hid (fun x => l1In_any x (-1400) 1400 wA)
  have HSA := Lib.hid (hs.on hbA).2.2
  rw [← hn] at hsi
  rw [← hm] at hmi
  have CT2 : Hid (Calls Try.prog 34 #[.agg #[.slice F.o.a F.o.l.length F.o.c, .slice F.t.a m F.t.c]] wA fun e w' => e = .returned (.bool g) ∧ Below wA.heap.size wA w') := Lib.hid (by rw [hm]; exact CT)
  have HA1 : Hid (wA = w.alloc (Obj.cells #[.slice F.o.a F.o.l.length F.o.c, .slice F.t.a m F.t.c] 29)) := Lib.hid (by rw [hm]; exact hA)
  have HBA := Lib.hid hbA
  rw [← hn, ← hm]
  clear hF hs hA hbA bx hFA hszA CT hg hn hm
  go_enter Try.func45, Try.ntmps45
  go_wp2_with fail
  rw [← HA1.out]
  go_wp2
  go_loopw [5] (fun iv' wr => ∃ k : Nat, k ≤ n ∧ iv' = .int .i64 k ∧ wA = wr ∧ (s.l.take k).all shareIn = true) (fun iv' _ => n - (intOf iv').toNat)
  case atStart => exact ⟨0, Nat.zero_le _, rfl, rfl, by simp⟩
  case round =>
    obtain ⟨k, hk, rfl, rfl, hall⟩ := hrel
    have HALL := Lib.hid hall
    clear hall
    by_cases hlt : k < n
    · have hlti : (k : Int) < (n : Int) := by omega
      have hks : k < s.l.length := by rw [← HN.out]; exact hlt
      rcases HSA.out with h3 | ⟨b, o, hsa, hb, hcell⟩
      · have h3' := congrArg List.length (iv_nil h3); rw [List.length_nil] at h3'; omega
      obtain ⟨x, hx⟩ : ∃ x, x = s.l[k] := ⟨_, rfl⟩
      have hcl : wA.cell? ⟨b, o + k, none⟩ = some (.int .i64 x) := by rw [hx]; exact hcell k _ (iv_at hks)
      obtain ⟨v, hv⟩ : ∃ v, v = shareIn x := ⟨_, rfl⟩
      have ci := CI.out x
      rw [show (decide (-1400 ≤ x) && decide (x ≤ 1400)) = v from hv.symm] at ci
      have CX := Lib.hid ci
      have HVX : Hid (shareIn s.l[k] = v) := Lib.hid (by rw [hv, hx])
      rw [hsa]
      clear hx hcell hsa hv ci
      cases v with
      | true =>
        have HS : Hid ((s.l.take (k + 1)).all shareIn = true) := Lib.hid (all_take hks HALL.out HVX.out)
        go_wp2_with fail
        refine CX.out.mono ?_
        rintro e W ⟨rfl, rfl⟩
        go_wp2
        go_roundw
        case rel => exact ⟨k + 1, by omega, by go_num, by first | rfl | trivial, HS.out⟩
        case measure => simp [intOf]; omega
      | false =>
        have HS : Hid (sharesB F s.l = false) := Lib.hid (by rw [HV.out, all_out hks HVX.out]; simp)
        go_wp2_with fail
        refine CX.out.mono ?_
        rintro e W ⟨rfl, rfl⟩
        go_wp2
        go_ret
        exact ⟨by rw [HS.out]; rfl, HBA.out⟩
    · obtain rfl : k = n := by omega
      have HS : Hid (sharesB F s.l = (g && decide (k = m))) := Lib.hid (by rw [HV.out, all_end (by rw [← HN.out]; exact HALL.out), Bool.and_true, HN.out, HM.out])
      have x0 := HBX.out.c0
      have x1 : wA.cell? ⟨w.heap.size, 1, none⟩ = some (.slice F.t.a m F.t.c) := by rw [HM.out]; exact HBX.out.c1
      go_wp2_with fail
      refine (show Calls _ _ _ _ _ from CT2.out).mono ?_
      rintro e W1 ⟨rfl, hb1⟩
      have HBW1 := Lib.hid (HBA.out.trans (hb1.mono HBA.out.size))
      have y1 : W1.cell? ⟨w.heap.size, 1, none⟩ = some (.slice F.t.a m F.t.c) := by rw [HM.out]; exact (HBX.out.on hb1).c1
      clear hb1 x0 x1
      cases g with
      | false =>
        go_wp2
        go_ret
        exact ⟨by rw [HS.out]; rfl, HBW1.out⟩
      | true =>
        by_cases hnm : k = m
        · have he : ((k : Int) == (m : Int)) = true := by rw [hnm]; simp
          have HD : Hid (decide (k = m) = true) := Lib.hid (decide_eq_true hnm)
          clear hnm
          go_wp2
          go_ret
          exact ⟨by rw [HS.out, HD.out]; simp, HBW1.out⟩
        · have he : ((k : Int) == (m : Int)) = false := beq_false_of_ne (by omega)
          have HD : Hid (decide (k = m) = false) := Lib.hid (decide_eq_false hnm)
          clear hnm
          go_wp2
          go_ret
          exact ⟨by rw [HS.out, HD.out]; simp, HBW1.out⟩
end Go.Proofs.Ytfplcgakpildmaa
