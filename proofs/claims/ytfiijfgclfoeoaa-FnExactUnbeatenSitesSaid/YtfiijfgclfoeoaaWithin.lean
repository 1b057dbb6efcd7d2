/- The contract of the test whether all numbers of a list are within a limit. Condition: the list reads as such. -/
import Derived.Test.YtfiijfgclfoeoaaGood
namespace Go.Proofs.Ytfiijfgclfoeoaa
open Go.RowKit

theorem offM_any (m x : Int) (g : Nat) (w : World) (hg : w.cell? ⟨g, 0, none⟩ = some (.int .i64 m)) :
    Calls Try.prog 59 #[.int .i64 x, .pointer (some ⟨g, 0, none⟩)] w fun e w' => e = .returned (.bool (!upTo m x)) ∧ w' = w := by
  by_cases h : x < 0
  · have hu := upTo_no (m := m) (.inl h)
    rw [hu]
    clear hu
    go_enter Try.func59, Try.ntmps59
    go_wp2
    go_ret
    exact ⟨rfl, rfl⟩
  by_cases h1 : m < x
  · have hu := upTo_no (m := m) (.inr h1)
    rw [hu]
    clear hu
    go_enter Try.func59, Try.ntmps59
    go_wp2
    go_ret
    exact ⟨by simp, rfl⟩
  · have hu := upTo_yes (m := m) (x := x) (by omega) (by omega)
    rw [hu]
    clear hu
    go_enter Try.func59, Try.ntmps59
    go_wp2
    go_ret
    exact ⟨by simp, rfl⟩

set_option maxHeartbeats 600000 in
theorem indexOffM_any (m : Int) (r : Row) (g : Nat) (w : World) (hr : r.At w) (hg : w.cell? ⟨g, 0, none⟩ = some (.int .i64 m)) :
    Calls Try.prog 60 #[.slice r.a r.l.length r.c, offV g] w fun e w' => (∃ i : Int, e = .returned (.int .i64 i) ∧ decide (0 ≤ i) = !r.l.all (upTo m)) ∧ w' = w := by
  obtain ⟨a, c, l⟩ := r
  obtain ⟨h1, h2, h3⟩ := hr
  simp only at h1 h2 h3 ⊢
  rw [iv_length] at h1
  unfold maxLen at h2
  have hni : (l.length : Int) ≤ 9223372036854775807 := by omega
  have HR := Lib.hid h3
  have CO := Lib.hid fun x => offM_any m x g w hg
  clear h3 hg
  show Calls _ _ #[_, .func (.func 59) #[] #[.pointer (some ⟨g, 0, none⟩)]] _ _
  go_enter Try.func60, Try.ntmps60
  go_wp2
  go_loopw [8] (fun i wr => ∃ k : Nat, k ≤ l.length ∧ i = .int .i64 k ∧ w = wr ∧ (l.take k).all (upTo m) = true) (fun i _ => l.length - (intOf i).toNat)
  case atStart => exact ⟨0, Nat.zero_le _, rfl, rfl, by simp⟩
  case round =>
    obtain ⟨k, hk, rfl, rfl, hall⟩ := hrel
    have HALL := Lib.hid hall
    clear hall
    by_cases hlt : k < l.length
    · have hlti : (k : Int) < (l.length : Int) := by omega
      rcases HR.out with h3 | ⟨b, o, rfl, hb, hcell⟩
      · have h3' := congrArg List.length (iv_nil h3); rw [List.length_nil] at h3'; omega
      obtain ⟨x, hx⟩ : ∃ x, x = l[k] := ⟨_, rfl⟩
      have hcl : w.cell? ⟨b, o + k, none⟩ = some (.int .i64 x) := by rw [hx]; exact hcell k _ (iv_at hlt)
      have HX := Lib.hid hx
      clear hx hcell
      by_cases hp : upTo m x = true
      · have ci1 := Lib.hid (by have := CO.out x; rw [hp] at this; exact this : Calls Try.prog 59 #[.int .i64 x, .pointer (some ⟨g, 0, none⟩)] w fun e w' => e = .returned (.bool false) ∧ w' = w)
        have HS : Hid ((l.take (k + 1)).all (upTo m) = true) := Lib.hid (all_take hlt HALL.out (by rw [← HX.out]; exact hp))
        clear hp
        go_wp2_with fail
        refine ci1.out.mono ?_
        rintro e W ⟨rfl, rfl⟩
        go_wp2
        go_roundw
        case rel => exact ⟨k + 1, by omega, by go_num, by first | rfl | trivial, HS.out⟩
        case measure => simp [intOf]; omega
      · have hp1 : upTo m x = false := by simpa using hp
        have ci1 := Lib.hid (by have := CO.out x; rw [hp1] at this; exact this : Calls Try.prog 59 #[.int .i64 x, .pointer (some ⟨g, 0, none⟩)] w fun e w' => e = .returned (.bool true) ∧ w' = w)
        have HS : Hid (l.all (upTo m) = false) := Lib.hid (all_out hlt (by rw [← HX.out]; exact hp1))
        clear hp hp1
        go_wp2_with fail
        refine ci1.out.mono ?_
        rintro e W ⟨rfl, rfl⟩
        go_wp2
        go_ret
        exact ⟨⟨(k : Int), rfl, by rw [HS.out]; simp⟩, rfl⟩
    · obtain rfl : k = l.length := by omega
      have HS := Lib.hid (all_end HALL.out)
      go_wp2
      go_ret
      exact ⟨⟨-1, rfl, by rw [HS.out]; rfl⟩, rfl⟩

theorem containsOffM_any (m : Int) (r : Row) (g : Nat) (w : World) (hr : r.At w) (hg : w.cell? ⟨g, 0, none⟩ = some (.int .i64 m)) :
    Calls Try.prog 58 #[.slice r.a r.l.length r.c, offV g] w fun e w' => e = .returned (.bool (!r.l.all (upTo m))) ∧ w' = w := by
  have CI := Lib.hid (indexOffM_any m r g w hr hg)
  clear hr hg
  go_enter Try.func58, Try.ntmps58
  go_wp2_with fail
  refine CI.out.mono ?_
  rintro e W ⟨⟨i, rfl, hi⟩, rfl⟩
  have HI := Lib.hid hi
  clear hi
  go_wp2
  go_ret
  exact ⟨by rw [← HI.out]; rfl, rfl⟩

set_option maxHeartbeats 600000 in
theorem allWithinM_any (m : Int) (r : Row) (w : World) (hr : r.At w) :
    Calls Try.prog 33 #[.slice r.a r.l.length r.c, .int .i64 m] w fun e w' => e = .returned (.bool (r.l.all (upTo m))) ∧ Below w.heap.size w w' := by
  have hb := below_alloc w (.cells #[.int .i64 m] 3)
  have CC := Lib.hid (containsOffM_any m r w.heap.size (w.alloc (.cells #[.int .i64 m] 3)) (hr.on hb) (by simp))
  clear hr
  go_enter Try.func33, Try.ntmps33
  go_wp2_with fail
  refine CC.out.mono ?_
  rintro e W ⟨rfl, rfl⟩
  go_wp2
  go_ret
  exact ⟨by simp, hb⟩


end Go.Proofs.Ytfiijfgclfoeoaa
