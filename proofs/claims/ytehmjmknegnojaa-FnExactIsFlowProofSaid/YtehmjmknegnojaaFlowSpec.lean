/- The contracts of the test whether lists are a flow, and of a flow's cost, on the model's side. Condition: the arguments read as such. -/
import Derived.Test.YtehmjmknegnojaaFlowCostI
import Derived.Test.YtehmjmknegnojaaPairFlowYield
namespace Go.Proofs.Ytehmjmknegnojaa
open Go.RowKit

set_option maxHeartbeats 600000 in
theorem l3SumF_any (r : Row) (w : World) (hr : r.At w) (hb : ∀ x ∈ r.l, 0 ≤ x ∧ x ≤ 99) (hn : r.l.length ≤ 1048576) :
    Calls Try.prog 77 #[.slice r.a r.l.length r.c] w fun e w' => e = .returned (.int .i64 r.l.sum) ∧ w' = w := by
  obtain ⟨a, c, l⟩ := r
  obtain ⟨h1, h2, h3⟩ := hr
  simp only at h1 h2 h3 hb hn ⊢
  have hni : (l.length : Int) ≤ 1048576 := by omega
  have HR := Lib.hid h3
  have HB := Lib.hid hb
  clear h3 hb
  go_enter Try.func77, Try.ntmps77
  go_wp2
  go_loopw [3, 4] (fun sv i wr => ∃ k : Nat, k ≤ l.length ∧ i = .int .i64 k ∧ sv = .int .i64 (l.take k).sum ∧ w = wr) (fun _ i _ => l.length - (intOf i).toNat)
  case atStart => exact ⟨0, Nat.zero_le _, rfl, by simp, rfl⟩
  case round =>
    obtain ⟨k, hk, rfl, rfl, rfl⟩ := hrel
    by_cases hlt : k < l.length
    · have hlti : (k : Int) < (l.length : Int) := by omega
      rcases HR.out with h3 | ⟨b, o, rfl, hbb, hcell⟩
      · have h3' := congrArg List.length (iv_nil h3); rw [List.length_nil] at h3'; omega
      obtain ⟨x, hx⟩ : ∃ x, x = l[k] := ⟨_, rfl⟩
      have hcl : w.cell? ⟨b, o + k, none⟩ = some (.int .i64 x) := by rw [hx]; exact hcell k _ (iv_at hlt)
      have hx2 := HB.out x (by rw [hx]; exact List.getElem_mem hlt)
      obtain ⟨y, hy⟩ : ∃ y, y = (l.take k).sum := ⟨_, rfl⟩
      have hy2 := take_bound HB.out k
      rw [← hy] at hy2 ⊢
      have HS : Hid ((l.take (k + 1)).sum = y + x) := Lib.hid (by rw [sum_step hlt, hy, hx])
      have e1 : (0 : Int) ≤ y + x := by omega
      have e2 : y + x ≤ 9223372036854775807 := by omega
      clear hx hcell hy
      go_wp2
      go_roundw
      case rel => exact ⟨k + 1, by omega, by go_num, by rw [HS.out], by first | rfl | trivial⟩
      case measure => simp [intOf]; omega
    · obtain rfl : k = l.length := by omega
      go_wp2
      go_ret
      exact ⟨by rw [List.take_length]; rfl, rfl⟩

set_option maxRecDepth 16000 in
set_option maxHeartbeats 1500000 in
theorem l7Row_any (x s : Row) (m : Nat) (q : Int) (w : World) (hx : x.At w) (hs : s.At w) (hm : m ≤ 7) (hq : q ≤ 5) (hxs : x.l.length ≤ 1048576) :
    Calls Try.prog 65 #[.slice x.a x.l.length x.c, .int .i64 m, .int .i64 q, .slice s.a s.l.length s.c] w fun e w' => e = .returned (.bool (rowS m q s.l x.l)) ∧ w' = w := by
  have hxi := row_lim hx
  have hmi : (m : Int) ≤ 7 := by omega
  have HXA := Lib.hid hx
  have HSA := Lib.hid hs
  have HC : Hid (∀ k, k < x.l.length → ∃ b o, x.a = some ⟨b, o, none⟩ ∧ w.cell? ⟨b, o + k, none⟩ = some (.int .i64 (x.l.getD k 0))) := Lib.hid fun k hk => by
    obtain ⟨b, o, h1, _, h2⟩ := rowAll hx (by omega)
    exact ⟨b, o, h1, h2 k hk⟩
  clear hx hs
  go_enter Try.func65, Try.ntmps65
  go_wp2
  go_loopw [9] (fun jv wr => ∃ k : Nat, k ≤ x.l.length ∧ jv = .int .i64 k ∧ (∀ a, a < k → cell1 q s.l x.l a = true) ∧ w = wr) (fun jv _ => x.l.length - (intOf jv).toNat)
  case atStart => exact ⟨0, Nat.zero_le _, rfl, fun a h => absurd h (Nat.not_lt_zero _), rfl⟩
  case round =>
    obtain ⟨k, hk, rfl, hall, rfl⟩ := hrel
    have HALL := Lib.hid hall
    clear hall
    by_cases hlt : k < x.l.length
    · have hlti : (k : Int) < (x.l.length : Int) := by omega
      obtain ⟨b, o, hxa, hc⟩ := HC.out k hlt
      obtain ⟨y, hy⟩ : ∃ y, y = x.l.getD k 0 := ⟨_, rfl⟩
      rw [← hy] at hc
      have HY := Lib.hid hy
      have HOUT : Hid (cell1 q s.l x.l k = false → rowS m q s.l x.l = false) := Lib.hid fun h => by unfold rowS; rw [range_out hlt h]; rfl
      have HST : Hid (cell1 q s.l x.l k = true → ∀ a, a < k + 1 → cell1 q s.l x.l a = true) := Lib.hid fun h a ha => by
        by_cases e : a = k
        · subst e; exact h
        · exact HALL.out a (by omega)
      have HCE : Hid (cell1 q s.l x.l k = (upTo q y && (!(decide (0 < y)) || hasI s.l (k : Int)))) := Lib.hid (by unfold cell1 closed1; rw [hy])
      obtain ⟨v, hv⟩ : ∃ v, v = upTo q y := ⟨_, rfl⟩
      have CI := Lib.hid (fun W => by have := l1In_any y 0 q W; rw [show (decide (0 ≤ y) && decide (y ≤ q)) = v from hv.symm] at this; exact this : ∀ W, Calls Try.prog 62 #[.int .i64 y, .int .i64 0, .int .i64 q] W fun e w' => e = .returned (.bool v) ∧ w' = W)
      rw [← hv] at HCE
      rw [hxa]
      clear hxa hy hv
      go_wp2_with fail
      refine (CI.out _).mono ?_
      rintro e W ⟨rfl, rfl⟩
      cases v with
      | false =>
        have HE := Lib.hid (HOUT.out (by rw [HCE.out]; rfl))
        go_wp2
        go_ret
        exact ⟨by rw [HE.out]; rfl, by first | rfl | trivial⟩
      | true =>
        by_cases h0 : 0 < y
        · obtain ⟨u, hu⟩ : ∃ u, u = hasI s.l (k : Int) := ⟨_, rfl⟩
          have ch := l1Has_any s (k : Int) W HSA.out
          rw [← hu] at ch HCE
          have CH := Lib.hid ch
          clear hu ch
          go_wp2_with fail
          refine CH.out.mono ?_
          rintro e W2 ⟨rfl, rfl⟩
          cases u with
          | true =>
            have HE := Lib.hid (HST.out (by rw [HCE.out]; simp))
            go_wp2
            go_roundw
            case rel => exact ⟨k + 1, by omega, by go_num, HE.out, by first | rfl | trivial⟩
            case measure => simp [intOf]; omega
          | false =>
            have HE := Lib.hid (HOUT.out (by rw [HCE.out, decide_eq_true h0]; rfl))
            go_wp2
            go_ret
            exact ⟨by rw [HE.out]; rfl, by first | rfl | trivial⟩
        · have HE := Lib.hid (HST.out (by rw [HCE.out, decide_eq_false h0]; rfl))
          go_wp2
          go_roundw
          case rel => exact ⟨k + 1, by omega, by go_num, HE.out, by first | rfl | trivial⟩
          case measure => simp [intOf]; omega
    · obtain rfl : k = x.l.length := by omega
      have HRS : Hid (rowS m q s.l x.l = (decide (x.l.length = m) && decide (x.l.sum = q))) := Lib.hid (by unfold rowS; rw [range_all HALL.out]; rfl)
      by_cases h1 : x.l.length = m
      · have e1 : ((x.l.length : Int) == (m : Int)) = true := by rw [h1]; simp
        have CS := Lib.hid (l3SumF_any x w HXA.out (fun y hy => by
          obtain ⟨a, ha, rfl⟩ := List.mem_iff_getElem.1 hy
          have h2 := HALL.out a ha
          unfold cell1 at h2
          rw [Bool.and_eq_true] at h2
          have h3 := upTo_iff.1 h2.1
          rw [getD_at ha] at h3; omega) hxs)
        have HE : Hid (rowS m q s.l x.l = decide (x.l.sum = q)) := Lib.hid (by rw [HRS.out, decide_eq_true h1]; rfl)
        clear h1
        go_wp2_with fail
        refine CS.out.mono ?_
        rintro e W ⟨rfl, rfl⟩
        go_wp2
        go_ret
        exact ⟨by rw [HE.out]; simp [BEq.beq], by first | rfl | trivial⟩
      · have e1 : ((x.l.length : Int) == (m : Int)) = false := by rw [beq_eq_false_iff_ne]; omega
        have HE : Hid (rowS m q s.l x.l = false) := Lib.hid (by rw [HRS.out, decide_eq_false h1]; rfl)
        clear h1
        go_wp2
        go_ret
        exact ⟨by rw [HE.out]; rfl, by first | rfl | trivial⟩
end Go.Proofs.Ytehmjmknegnojaa
