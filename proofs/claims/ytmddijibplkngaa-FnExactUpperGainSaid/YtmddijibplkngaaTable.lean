/- The contracts of the test whether a list is a table, on both sides. Condition: the list reads as such. -/
import Derived.Test.YtmddijibplkngaaPlainTable
import Derived.Test.YtmddijibplkngaaGood
import Derived.Test.YtmddijibplkngaaPost
import Derived.Test.YtmddijibplkngaaShelf
namespace Go.Proofs.Ytmddijibplkngaa
open Go.RowKit Go.Shelf

theorem rowLim {r : Row} {w : World} (hr : r.At w) : (r.l.length : Int) ≤ 9223372036854775807 := by obtain ⟨q1, q2, _⟩ := hr; rw [iv_length] at q1; unfold maxLen at q2; omega
theorem rowCells {r : Row} {w : World} (hr : r.At w) (h0 : 0 < r.l.length) : ∃ b o, r.a = some ⟨b, o, none⟩ ∧ b < w.heap.size ∧ ∀ m, m < r.l.length → w.cell? ⟨b, o + m, none⟩ = some (.int .i64 (r.l.getD m 0)) := by
  obtain ⟨_, _, h3⟩ := hr
  rcases h3 with h3 | ⟨b, o, ha, hb, hc⟩
  · have := congrArg List.length (iv_nil h3); rw [List.length_nil] at this; omega
  · exact ⟨b, o, ha, hb, fun m hm => by rw [getD_at hm]; exact hc m _ (iv_at hm)⟩
theorem minS_any (r : Row) (w : World) (hr : r.At w) (h0 : 0 < r.l.length) (hn : r.l.length ≤ 1048576) :
    Calls Try.prog 83 #[.slice r.a r.l.length r.c] w fun e w' => e = .returned (.int .i64 (Lib.minOf r.l)) ∧ w' = w := by
  obtain ⟨b, o, ha, _, hc⟩ := rowCells hr h0
  rw [ha]
  have := Try.slices_Min_int b o r.l.length r.c r.l w h0 (Nat.le_refl _) (by omega) hc
  rw [List.take_length] at this
  exact this
theorem maxS_any (r : Row) (w : World) (hr : r.At w) (h0 : 0 < r.l.length) (hn : r.l.length ≤ 1048576) :
    Calls Try.prog 89 #[.slice r.a r.l.length r.c] w fun e w' => e = .returned (.int .i64 (Lib.maxOf r.l)) ∧ w' = w := by
  obtain ⟨b, o, ha, _, hc⟩ := rowCells hr h0
  rw [ha]
  have := Try.slices_Max_int b o r.l.length r.c r.l w h0 (Nat.le_refl _) (by omega) hc
  rw [List.take_length] at this
  exact this
theorem pow7 {m : Nat} (h : m ≤ 7) : 1 ≤ 2 ^ m ∧ 2 ^ m ≤ 128 := ⟨Nat.one_le_two_pow, by have : 2 ^ m ≤ 2 ^ 7 := Nat.pow_le_pow_right (by omega) h; simpa using this⟩

set_option maxRecDepth 16000 in
set_option maxHeartbeats 1000000 in
theorem isTable_any (n : Int) (r : Row) (w : World) (hr : r.At w) :
    Calls Try.prog 79 #[.int .i64 n, .slice r.a r.l.length r.c] w fun e w' => e = .returned (.bool (tabB n r.l)) ∧ w' = w := by
  have hli := rowLim hr
  by_cases h0 : n < 0
  · have HE : Hid (tabB n r.l = false) := Lib.hid (by unfold tabB; rw [decide_eq_false (by omega : ¬ 0 ≤ n)]; rfl)
    go_enter Try.func79, Try.ntmps79
    go_wp2
    go_ret
    exact ⟨by rw [HE.out]; rfl, rfl⟩
  by_cases h7 : n > 7
  · have HE : Hid (tabB n r.l = false) := Lib.hid (by unfold tabB; rw [decide_eq_false (by omega : ¬ n ≤ 7)]; simp)
    go_enter Try.func79, Try.ntmps79
    go_wp2
    go_ret
    exact ⟨by rw [HE.out]; rfl, rfl⟩
  obtain ⟨m, rfl⟩ : ∃ m : Nat, n = m := ⟨n.toNat, by omega⟩
  have hm : m ≤ 7 := by omega
  obtain ⟨hp1, hp2⟩ := pow7 hm
  obtain ⟨q, hq⟩ : ∃ q, q = 2 ^ m := ⟨_, rfl⟩
  have hpi : (2 : Int) ^ m = (q : Int) := by rw [hq]; push_cast; rfl
  rw [← hq] at hp1 hp2
  have hqi : (q : Int) ≤ 128 := by omega
  by_cases hlen : r.l.length = q
  · have hl0 : 0 < r.l.length := by omega
    have CN := Lib.hid (minS_any r w hr hl0 (by omega))
    have CX := Lib.hid (maxS_any r w hr hl0 (by omega))
    have HE : Hid (tabB (m : Int) r.l = (decide (-1000000 ≤ Lib.minOf r.l) && decide (Lib.maxOf r.l ≤ 1000000))) := Lib.hid (by
      unfold tabB; rw [decide_eq_true (by omega : (0 : Int) ≤ m), decide_eq_true (by omega : (m : Int) ≤ 7), Int.toNat_natCast, ← hq, decide_eq_true hlen, nums_ends hl0]; rfl)
    obtain ⟨x, hx⟩ : ∃ x, x = Lib.minOf r.l := ⟨_, rfl⟩
    obtain ⟨y, hy⟩ : ∃ y, y = Lib.maxOf r.l := ⟨_, rfl⟩
    rw [← hx, ← hy] at HE
    rw [← hx] at CN
    rw [← hy] at CX
    rw [hlen] at CN CX ⊢
    clear hr hlen hl0 hx hy hq
    go_enter Try.func79, Try.ntmps79
    go_wp2_with fail
    refine CN.out.mono ?_
    rintro e W1 ⟨rfl, rfl⟩
    by_cases hx : -1000000 ≤ x
    · have hx' : x ≥ -1000000 := hx
      have HE2 : Hid (tabB (m : Int) r.l = decide (y ≤ 1000000)) := Lib.hid (by rw [HE.out, decide_eq_true hx]; rfl)
      go_wp2_with fail
      refine CX.out.mono ?_
      rintro e W1 ⟨rfl, rfl⟩
      go_wp2
      go_ret
      exact ⟨by rw [HE2.out]; rfl, rfl⟩
    · have hx' : ¬ x ≥ -1000000 := hx
      have HE2 : Hid (tabB (m : Int) r.l = false) := Lib.hid (by rw [HE.out, decide_eq_false hx]; rfl)
      go_wp2
      go_ret
      exact ⟨by rw [HE2.out]; rfl, rfl⟩
  · have HE : Hid (tabB (m : Int) r.l = false) := Lib.hid (by unfold tabB; rw [Int.toNat_natCast, ← hq, decide_eq_false hlen]; simp)
    have hne : ¬ (r.l.length : Int) = (q : Int) := by omega
    clear hq
    go_enter Try.func79, Try.ntmps79
    go_wp2
    go_ret
    exact ⟨by rw [HE.out]; rfl, rfl⟩

set_option maxRecDepth 16000 in
set_option maxHeartbeats 1000000 in
theorem l8Table_any (n : Int) (r : Row) (w : World) (hr : r.At w) :
    Calls Try.prog 53 #[.int .i64 n, .slice r.a r.l.length r.c] w fun e w' => e = .returned (.bool (tabB n r.l)) ∧ w' = w := by
  have hli := rowLim hr
  obtain ⟨g, hg⟩ : ∃ g, g = (decide (0 ≤ n) && decide (n ≤ 7)) := ⟨_, rfl⟩
  have CI := Lib.hid (by have := l1In_any n 0 7 w; rw [← hg] at this; exact this)
  cases g with
  | false =>
    have HE : Hid (tabB n r.l = false) := Lib.hid (by unfold tabB; rw [← hg]; rfl)
    clear hg
    go_enter Try.func53, Try.ntmps53
    go_wp2_with fail
    refine (show Calls _ _ _ _ _ from CI.out).mono ?_
    rintro e W1 ⟨rfl, rfl⟩
    go_wp2
    go_ret
    exact ⟨by rw [HE.out]; rfl, rfl⟩
  | true =>
    have hg' := hg.symm
    simp only [Bool.and_eq_true, decide_eq_true_eq] at hg'
    obtain ⟨h0, h7⟩ := hg'
    obtain ⟨m, rfl⟩ : ∃ m : Nat, n = m := ⟨n.toNat, by omega⟩
    have hm : m ≤ 7 := by omega
    obtain ⟨hp1, hp2⟩ := pow7 hm
    obtain ⟨q, hq⟩ : ∃ q, q = 2 ^ m := ⟨_, rfl⟩
    have hpi : (2 : Int) ^ m = (q : Int) := by rw [hq]; push_cast; rfl
    rw [← hq] at hp1 hp2
    have hqi : (q : Int) ≤ 128 := by omega
    by_cases hlen : r.l.length = q
    · have HE : Hid (tabB (m : Int) r.l = r.l.all numB) := Lib.hid (by
        unfold tabB; rw [← hg, Int.toNat_natCast, ← hq, decide_eq_true hlen]; rfl)
      have HC := Lib.hid (rowCells hr (by omega))
      have CB := Lib.hid (fun x => l1In_any x (-1000000) 1000000 w)
      have HLEN := Lib.hid hlen
      rw [hlen]
      clear hr hlen hq hg h0 h7
      go_enter Try.func53, Try.ntmps53
      go_wp2_with fail
      refine (show Calls _ _ _ _ _ from CI.out).mono ?_
      rintro e W1 ⟨rfl, rfl⟩
      go_wp2
      go_loopw [5] (fun i wr => ∃ k : Nat, k ≤ q ∧ i = .int .i64 k ∧ Hid ((r.l.take k).all numB = true) ∧ wr = W1) (fun i _ => q - (intOf i).toNat)
      case atStart => exact ⟨0, Nat.zero_le _, rfl, Lib.hid rfl, rfl⟩
      case round =>
        obtain ⟨k, hk, rfl, HT, rfl⟩ := hrel
        by_cases hlt : k < q
        · have hlti : (k : Int) < (q : Int) := by omega
          obtain ⟨b, o, ha, _, hc⟩ := HC.out
          obtain ⟨x, hx⟩ : ∃ x, x = r.l.getD k 0 := ⟨_, rfl⟩
          have hcl : wr.cell? ⟨b, o + k, none⟩ = some (.int .i64 x) := by rw [hx]; exact hc k (by rw [HLEN.out]; exact hlt)
          obtain ⟨v, hv⟩ : ∃ v, v = numB x := ⟨_, rfl⟩
          have CB1 := Lib.hid (by have := CB.out x; rw [show (decide (-1000000 ≤ x) && decide (x ≤ 1000000)) = v from hv.symm] at this; exact this)
          have hkl : k < r.l.length := by rw [HLEN.out]; exact hlt
          have hxk : x = r.l[k] := by rw [hx, getD_at hkl]
          have HV : Hid (v = numB r.l[k]) := Lib.hid (by rw [hv, hxk])
          rw [ha]
          clear hx hv hxk ha hc
          go_wp2_with fail
          refine (show Calls _ _ _ _ _ from CB1.out).mono ?_
          rintro e W1 ⟨rfl, rfl⟩
          cases v with
          | false =>
            have HE2 : Hid (tabB (m : Int) r.l = false) := Lib.hid (by rw [HE.out]; exact all_out hkl HV.out.symm)
            go_wp2
            go_ret
            exact ⟨by rw [HE2.out]; rfl, rfl⟩
          | true =>
            have HT2 : Hid ((r.l.take (k + 1)).all numB = true) := Lib.hid (all_take hkl HT.out HV.out.symm)
            clear HV hkl
            go_wp2
            go_roundw
            case rel => exact ⟨k + 1, by omega, by go_num, HT2, by first | rfl | trivial⟩
            case measure => simp [intOf]; omega
        · obtain rfl : k = q := by omega
          have HE2 : Hid (tabB (m : Int) r.l = true) := Lib.hid (by rw [HE.out]; have := HT.out; rw [← HLEN.out] at this; exact all_end this)
          go_wp2
          go_ret
          exact ⟨by rw [HE2.out]; rfl, rfl⟩
    · have HE : Hid (tabB (m : Int) r.l = false) := Lib.hid (by unfold tabB; rw [Int.toNat_natCast, ← hq, decide_eq_false hlen]; simp)
      have hne : ¬ (r.l.length : Int) = (q : Int) := by omega
      clear hq hg
      go_enter Try.func53, Try.ntmps53
      go_wp2_with fail
      refine (show Calls _ _ _ _ _ from CI.out).mono ?_
      rintro e W1 ⟨rfl, rfl⟩
      go_wp2
      go_ret
      exact ⟨by rw [HE.out]; rfl, rfl⟩
end Go.Proofs.Ytmddijibplkngaa
