/- The contracts of the tests whether all numbers of a list are between two limits, or within one. Condition: the list reads as such. -/
import Derived.Test.YtemflcegkebloaaInts
import Derived.Test.YtemflcegkebloaaPlainField
namespace Go.Proofs.Ytemflcegkebloaa
open Go.RowKit

def betw (lo hi x : Int) : Bool := decide (lo ≤ x) && decide (x ≤ hi)
theorem betw_iff {lo hi x : Int} : betw lo hi x = true ↔ lo ≤ x ∧ x ≤ hi := by simp [betw]
theorem betw_no {lo hi x : Int} (h : x < lo ∨ hi < x) : betw lo hi x = false := by rw [Bool.eq_false_iff]; intro e; have := betw_iff.1 e; omega
theorem betw_yes {lo hi x : Int} (h0 : lo ≤ x) (h1 : x ≤ hi) : betw lo hi x = true := betw_iff.2 ⟨h0, h1⟩
theorem upTo_betw (m : Int) : upTo m = betw 0 m := rfl
/-- The function that allBetween hands on. -/
def offV (g h : Nat) : Value := .func (.func 99) #[] #[.pointer (some ⟨g, 0, none⟩), .pointer (some ⟨h, 0, none⟩)]
theorem offM_any (lo m x : Int) (g h : Nat) (w : World) (hg : w.cell? ⟨g, 0, none⟩ = some (.int .i64 lo)) (hh : w.cell? ⟨h, 0, none⟩ = some (.int .i64 m)) :
    Calls Try.prog 99 #[.int .i64 x, .pointer (some ⟨g, 0, none⟩), .pointer (some ⟨h, 0, none⟩)] w fun e w' => e = .returned (.bool (!betw lo m x)) ∧ w' = w := by
  by_cases h0 : x < lo
  · have hu := betw_no (lo := lo) (hi := m) (.inl h0)
    rw [hu]
    clear hu
    go_enter Try.func99, Try.ntmps99
    go_wp2
    go_ret
    exact ⟨rfl, rfl⟩
  by_cases h1 : m < x
  · have hu := betw_no (lo := lo) (hi := m) (.inr h1)
    rw [hu]
    clear hu
    go_enter Try.func99, Try.ntmps99
    go_wp2
    go_ret
    exact ⟨by simp, rfl⟩
  · have hu := betw_yes (lo := lo) (hi := m) (x := x) (by omega) (by omega)
    rw [hu]
    clear hu
    go_enter Try.func99, Try.ntmps99
    go_wp2
    go_ret
    exact ⟨by simp, rfl⟩

set_option maxHeartbeats 600000 in
theorem indexOffM_any (lo m : Int) (r : Row) (g h : Nat) (w : World) (hr : r.At w) (hg : w.cell? ⟨g, 0, none⟩ = some (.int .i64 lo)) (hh : w.cell? ⟨h, 0, none⟩ = some (.int .i64 m)) :
    Calls Try.prog 112 #[.slice r.a r.l.length r.c, offV g h] w fun e w' => (∃ i : Int, e = .returned (.int .i64 i) ∧ decide (0 ≤ i) = !r.l.all (betw lo m)) ∧ w' = w := by
  obtain ⟨a, c, l⟩ := r
  obtain ⟨h1, h2, h3⟩ := hr
  simp only at h1 h2 h3 ⊢
  rw [iv_length] at h1
  unfold maxLen at h2
  have hni : (l.length : Int) ≤ 9223372036854775807 := by omega
  have HR := Lib.hid h3
  have CO := Lib.hid fun x => offM_any lo m x g h w hg hh
  clear h3 hg hh
  show Calls _ _ #[_, .func (.func 99) #[] #[.pointer (some ⟨g, 0, none⟩), .pointer (some ⟨h, 0, none⟩)]] _ _
  go_enter Try.func112, Try.ntmps112
  go_wp2
  go_loopw [8] (fun i wr => ∃ k : Nat, k ≤ l.length ∧ i = .int .i64 k ∧ w = wr ∧ (l.take k).all (betw lo m) = true) (fun i _ => l.length - (intOf i).toNat)
  case atStart => exact ⟨0, Nat.zero_le _, rfl, rfl, by simp⟩
  case round =>
    obtain ⟨k, hk, rfl, rfl, hall⟩ := hrel
    have HALL := Lib.hid hall
    clear hall
    by_cases hlt : k < l.length
    · have hlti : (k : Int) < (l.length : Int) := by omega
      rcases HR.out with h3 | ⟨b, o, rfl, hb, hcell⟩
      · have h3' := congrArg List.length (iv_nil h3); rw [List.length_nil] at h3'; omega
      obtain ⟨x, hx⟩ : ∃ x, x = l[k] := ⟨_, rfl⟩
      have hcl : w.cell? ⟨b, o + k, none⟩ = some (.int .i64 x) := by rw [hx]; exact hcell k _ (iv_at hlt)
      have HX := Lib.hid hx
      clear hx hcell
      by_cases hp : betw lo m x = true
      · have ci1 := Lib.hid (by have := CO.out x; rw [hp] at this; exact this : Calls Try.prog 99 #[.int .i64 x, .pointer (some ⟨g, 0, none⟩), .pointer (some ⟨h, 0, none⟩)] w fun e w' => e = .returned (.bool false) ∧ w' = w)
        have HS : Hid ((l.take (k + 1)).all (betw lo m) = true) := Lib.hid (all_take hlt HALL.out (by rw [← HX.out]; exact hp))
        clear hp
        go_wp2_with fail
        refine ci1.out.mono ?_
        rintro e W ⟨rfl, rfl⟩
        go_wp2
        go_roundw
        case rel => exact ⟨k + 1, by omega, by go_num, by first | rfl | trivial, HS.out⟩
        case measure => simp [intOf]; omega
      · have hp1 : betw lo m x = false := by simpa using hp
        have ci1 := Lib.hid (by have := CO.out x; rw [hp1] at this; exact this : Calls Try.prog 99 #[.int .i64 x, .pointer (some ⟨g, 0, none⟩), .pointer (some ⟨h, 0, none⟩)] w fun e w' => e = .returned (.bool true) ∧ w' = w)
        have HS : Hid (l.all (betw lo m) = false) := Lib.hid (all_out hlt (by rw [← HX.out]; exact hp1))
        clear hp hp1
        go_wp2_with fail
        refine ci1.out.mono ?_
        rintro e W ⟨rfl, rfl⟩
        go_wp2
        go_ret
        exact ⟨⟨(k : Int), rfl, by rw [HS.out]; simp⟩, rfl⟩
    · obtain rfl : k = l.length := by omega
      have HS := Lib.hid (all_end HALL.out)
      go_wp2
      go_ret
      exact ⟨⟨-1, rfl, by rw [HS.out]; rfl⟩, rfl⟩

theorem containsOffM_any (lo m : Int) (r : Row) (g h : Nat) (w : World) (hr : r.At w) (hg : w.cell? ⟨g, 0, none⟩ = some (.int .i64 lo)) (hh : w.cell? ⟨h, 0, none⟩ = some (.int .i64 m)) :
    Calls Try.prog 98 #[.slice r.a r.l.length r.c, offV g h] w fun e w' => e = .returned (.bool (!r.l.all (betw lo m))) ∧ w' = w := by
  have CI := Lib.hid (indexOffM_any lo m r g h w hr hg hh)
  clear hr hg hh
  go_enter Try.func98, Try.ntmps98
  go_wp2_with fail
  refine CI.out.mono ?_
  rintro e W ⟨⟨i, rfl, hi⟩, rfl⟩
  have HI := Lib.hid hi
  clear hi
  go_wp2
  go_ret
  exact ⟨by rw [← HI.out]; rfl, rfl⟩

set_option maxHeartbeats 600000 in
theorem allBetween_any (lo m : Int) (r : Row) (w : World) (hr : r.At w) :
    Calls Try.prog 90 #[.slice r.a r.l.length r.c, .int .i64 lo, .int .i64 m] w fun e w' => e = .returned (.bool (r.l.all (betw lo m))) ∧ Below w.heap.size w w' := by
  have hb := below_alloc w (.cells #[.int .i64 lo] 3)
  have hb2 := hb.alloc hb.size (.cells #[.int .i64 m] 3)
  have hz : (w.alloc (.cells #[.int .i64 lo] 3)).heap.size = w.heap.size + 1 := size_alloc _ _
  have c0 : ((w.alloc (.cells #[.int .i64 lo] 3)).alloc (.cells #[.int .i64 m] 3)).cell? ⟨w.heap.size, 0, none⟩ = some (.int .i64 lo) := by
    rw [(below_alloc (w.alloc (.cells #[.int .i64 lo] 3)) (.cells #[.int .i64 m] 3)).cell (p := ⟨w.heap.size, 0, none⟩) (by rw [hz]; exact Nat.lt_succ_self _)]; simp
  have c1 : ((w.alloc (.cells #[.int .i64 lo] 3)).alloc (.cells #[.int .i64 m] 3)).cell? ⟨w.heap.size + 1, 0, none⟩ = some (.int .i64 m) := by rw [← hz]; simp
  have CC := Lib.hid (containsOffM_any lo m r w.heap.size (w.heap.size + 1) ((w.alloc (.cells #[.int .i64 lo] 3)).alloc (.cells #[.int .i64 m] 3)) (hr.on hb2) c0 c1)
  clear hr c0 c1 hz
  go_enter Try.func90, Try.ntmps90
  go_wp2_with fail
  refine CC.out.mono ?_
  rintro e W ⟨rfl, rfl⟩
  go_wp2
  go_ret
  exact ⟨by simp, hb2⟩

set_option maxHeartbeats 600000 in
theorem allWithinM_any (m : Int) (r : Row) (w : World) (hr : r.At w) :
    Calls Try.prog 79 #[.slice r.a r.l.length r.c, .int .i64 m] w fun e w' => e = .returned (.bool (r.l.all (upTo m))) ∧ Below w.heap.size w w' := by
  have CC := Lib.hid (show Calls Try.prog 90 #[.slice r.a r.l.length r.c, .int .i64 0, .int .i64 m] w fun e w' => e = .returned (.bool (r.l.all (upTo m))) ∧ Below w.heap.size w w' from allBetween_any 0 m r w hr)
  clear hr
  go_enter Try.func79, Try.ntmps79
  go_wp2_with fail
  refine CC.out.mono ?_
  rintro e W ⟨rfl, hb⟩
  go_wp2
  go_ret
  exact ⟨rfl, hb⟩

end Go.Proofs.Ytemflcegkebloaa
