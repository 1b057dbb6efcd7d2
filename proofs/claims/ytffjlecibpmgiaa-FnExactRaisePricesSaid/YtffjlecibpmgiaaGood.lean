/- The contracts of the tests whether a Field is valid, on both sides. Condition: the Field reads as such. -/
import Derived.Test.YtffjlecibpmgiaaInts
import Derived.Test.YtffjlecibpmgiaaPlainField
namespace Go.Proofs.Ytffjlecibpmgiaa
open Go.RowKit

theorem l1In_any (x a b : Int) (w : World) :
    Calls Try.prog 60 #[.int .i64 x, .int .i64 a, .int .i64 b] w fun e w' => e = .returned (.bool (decide (a ≤ x) && decide (x ≤ b))) ∧ w' = w := by
  by_cases h : a ≤ x
  · go_enter Try.func60, Try.ntmps60
    go_wp2
    go_ret
    exact ⟨by simp [h], rfl⟩
  · go_enter Try.func60, Try.ntmps60
    go_wp2
    go_ret
    exact ⟨by simp; omega, rfl⟩

set_option maxHeartbeats 600000 in
theorem l2Row_any (r : Row) (n : Nat) (w : World) (hr : r.At w) :
    Calls Try.prog 61 #[.slice r.a r.l.length r.c, .int .i64 n, .int .i64 99] w fun e w' => e = .returned (.bool (rowB n r.l)) ∧ w' = w := by
  obtain ⟨a, c, l⟩ := r
  obtain ⟨h1, h2, h3⟩ := hr
  simp only at h1 h2 h3 ⊢
  rw [iv_length] at h1
  unfold maxLen at h2
  have hni : (l.length : Int) ≤ 9223372036854775807 := by omega
  have HR := Lib.hid h3
  clear h3
  have ci := Lib.hid fun x W => l1In_any x 0 99 W
  go_enter Try.func61, Try.ntmps61
  go_wp2
  go_loopw [7] (fun i wr => ∃ k : Nat, k ≤ l.length ∧ i = .int .i64 k ∧ w = wr ∧ (l.take k).all (upTo 99) = true) (fun i _ => l.length - (intOf i).toNat)
  case atStart => exact ⟨0, Nat.zero_le _, rfl, rfl, by simp⟩
  case round =>
    obtain ⟨k, hk, rfl, rfl, hall⟩ := hrel
    have HALL := Lib.hid hall
    clear hall
    by_cases hlt : k < l.length
    · have hlti : (k : Int) < (l.length : Int) := by omega
      rcases HR.out with h3 | ⟨b, o, rfl, hb, hcell⟩
      · have h3' := congrArg List.length (iv_nil h3); rw [List.length_nil] at h3'; omega
      obtain ⟨x, hx⟩ : ∃ x, x = l[k] := ⟨_, rfl⟩
      have hcl : w.cell? ⟨b, o + k, none⟩ = some (.int .i64 x) := by rw [hx]; exact hcell k _ (iv_at hlt)
      have HX := Lib.hid hx
      clear hx hcell
      by_cases hp : upTo 99 x = true
      · have hp' : (decide (0 ≤ x) && decide (x ≤ 99)) = true := hp
        have ci1 := Lib.hid (fun W => by have := ci.out x W; rw [hp'] at this; exact this : ∀ W, Calls Try.prog 60 #[.int .i64 x, .int .i64 0, .int .i64 99] W fun e w' => e = .returned (.bool true) ∧ w' = W)
        have HS : Hid ((l.take (k + 1)).all (upTo 99) = true) := Lib.hid (all_take hlt HALL.out (by rw [← HX.out]; exact hp))
        clear hp hp'
        go_wp2_with fail
        refine (ci1.out _).mono ?_
        rintro e W ⟨rfl, rfl⟩
        go_wp2
        go_roundw
        case rel => exact ⟨k + 1, by omega, by go_num, by first | rfl | trivial, HS.out⟩
        case measure => simp [intOf]; omega
      · have hp1 : upTo 99 x = false := by simpa using hp
        have hp' : (decide (0 ≤ x) && decide (x ≤ 99)) = false := hp1
        have ci1 := Lib.hid (fun W => by have := ci.out x W; rw [hp'] at this; exact this : ∀ W, Calls Try.prog 60 #[.int .i64 x, .int .i64 0, .int .i64 99] W fun e w' => e = .returned (.bool false) ∧ w' = W)
        have HS : Hid (l.all (upTo 99) = false) := Lib.hid (all_out hlt (by rw [← HX.out]; exact hp1))
        clear hp hp' hp1
        go_wp2_with fail
        refine (ci1.out _).mono ?_
        rintro e W ⟨rfl, rfl⟩
        go_wp2
        go_ret
        exact ⟨by unfold rowB; rw [HS.out]; rfl, rfl⟩
    · obtain rfl : k = l.length := by omega
      have HS := Lib.hid (all_end HALL.out)
      go_wp2
      go_ret
      exact ⟨by unfold rowB; rw [HS.out, Bool.true_and, ← nat_eqB]; rfl, rfl⟩

/-- The function that allWithin hands on. -/
def offV (g : Nat) : Value := .func (.func 87) #[] #[.pointer (some ⟨g, 0, none⟩)]
theorem off_any (x : Int) (g : Nat) (w : World) (hg : w.cell? ⟨g, 0, none⟩ = some (.int .i64 99)) :
    Calls Try.prog 87 #[.int .i64 x, .pointer (some ⟨g, 0, none⟩)] w fun e w' => e = .returned (.bool (!upTo 99 x)) ∧ w' = w := by
  by_cases h : x < 0
  · have hu := upTo_no (m := 99) (.inl h)
    rw [hu]
    clear hu
    go_enter Try.func87, Try.ntmps87
    go_wp2
    go_ret
    exact ⟨rfl, rfl⟩
  by_cases h1 : 99 < x
  · have hu := upTo_no (m := 99) (.inr h1)
    rw [hu]
    clear hu
    go_enter Try.func87, Try.ntmps87
    go_wp2
    go_ret
    exact ⟨by simp, rfl⟩
  · have hu := upTo_yes (m := 99) (x := x) (by omega) (by omega)
    rw [hu]
    clear hu
    go_enter Try.func87, Try.ntmps87
    go_wp2
    go_ret
    exact ⟨by simp, rfl⟩

set_option maxHeartbeats 600000 in
theorem indexOff_any (r : Row) (g : Nat) (w : World) (hr : r.At w) (hg : w.cell? ⟨g, 0, none⟩ = some (.int .i64 99)) :
    Calls Try.prog 88 #[.slice r.a r.l.length r.c, offV g] w fun e w' => (∃ i : Int, e = .returned (.int .i64 i) ∧ decide (0 ≤ i) = !r.l.all (upTo 99)) ∧ w' = w := by
  obtain ⟨a, c, l⟩ := r
  obtain ⟨h1, h2, h3⟩ := hr
  simp only at h1 h2 h3 ⊢
  rw [iv_length] at h1
  unfold maxLen at h2
  have hni : (l.length : Int) ≤ 9223372036854775807 := by omega
  have HR := Lib.hid h3
  have CO := Lib.hid fun x => off_any x g w hg
  clear h3 hg
  show Calls _ _ #[_, .func (.func 87) #[] #[.pointer (some ⟨g, 0, none⟩)]] _ _
  go_enter Try.func88, Try.ntmps88
  go_wp2
  go_loopw [8] (fun i wr => ∃ k : Nat, k ≤ l.length ∧ i = .int .i64 k ∧ w = wr ∧ (l.take k).all (upTo 99) = true) (fun i _ => l.length - (intOf i).toNat)
  case atStart => exact ⟨0, Nat.zero_le _, rfl, rfl, by simp⟩
  case round =>
    obtain ⟨k, hk, rfl, rfl, hall⟩ := hrel
    have HALL := Lib.hid hall
    clear hall
    by_cases hlt : k < l.length
    · have hlti : (k : Int) < (l.length : Int) := by omega
      rcases HR.out with h3 | ⟨b, o, rfl, hb, hcell⟩
      · have h3' := congrArg List.length (iv_nil h3); rw [List.length_nil] at h3'; omega
      obtain ⟨x, hx⟩ : ∃ x, x = l[k] := ⟨_, rfl⟩
      have hcl : w.cell? ⟨b, o + k, none⟩ = some (.int .i64 x) := by rw [hx]; exact hcell k _ (iv_at hlt)
      have HX := Lib.hid hx
      clear hx hcell
      by_cases hp : upTo 99 x = true
      · have ci1 := Lib.hid (by have := CO.out x; rw [hp] at this; exact this : Calls Try.prog 87 #[.int .i64 x, .pointer (some ⟨g, 0, none⟩)] w fun e w' => e = .returned (.bool false) ∧ w' = w)
        have HS : Hid ((l.take (k + 1)).all (upTo 99) = true) := Lib.hid (all_take hlt HALL.out (by rw [← HX.out]; exact hp))
        clear hp
        go_wp2_with fail
        refine ci1.out.mono ?_
        rintro e W ⟨rfl, rfl⟩
        go_wp2
        go_roundw
        case rel => exact ⟨k + 1, by omega, by go_num, by first | rfl | trivial, HS.out⟩
        case measure => simp [intOf]; omega
      · have hp1 : upTo 99 x = false := by simpa using hp
        have ci1 := Lib.hid (by have := CO.out x; rw [hp1] at this; exact this : Calls Try.prog 87 #[.int .i64 x, .pointer (some ⟨g, 0, none⟩)] w fun e w' => e = .returned (.bool true) ∧ w' = w)
        have HS : Hid (l.all (upTo 99) = false) := Lib.hid (all_out hlt (by rw [← HX.out]; exact hp1))
        clear hp hp1
        go_wp2_with fail
        refine ci1.out.mono ?_
        rintro e W ⟨rfl, rfl⟩
        go_wp2
        go_ret
        exact ⟨⟨(k : Int), rfl, by rw [HS.out]; simp⟩, rfl⟩
    · obtain rfl : k = l.length := by omega
      have HS := Lib.hid (all_end HALL.out)
      go_wp2
      go_ret
      exact ⟨⟨-1, rfl, by rw [HS.out]; rfl⟩, rfl⟩

theorem containsOff_any (r : Row) (g : Nat) (w : World) (hr : r.At w) (hg : w.cell? ⟨g, 0, none⟩ = some (.int .i64 99)) :
    Calls Try.prog 65 #[.slice r.a r.l.length r.c, offV g] w fun e w' => e = .returned (.bool (!r.l.all (upTo 99))) ∧ w' = w := by
  have CI := Lib.hid (indexOff_any r g w hr hg)
  clear hr hg
  go_enter Try.func65, Try.ntmps65
  go_wp2_with fail
  refine CI.out.mono ?_
  rintro e W ⟨⟨i, rfl, hi⟩, rfl⟩
  have HI := Lib.hid hi
  clear hi
  go_wp2
  go_ret
  exact ⟨by rw [← HI.out]; rfl, rfl⟩

set_option maxHeartbeats 600000 in
theorem allWithin_any (r : Row) (w : World) (hr : r.At w) :
    Calls Try.prog 63 #[.slice r.a r.l.length r.c, .int .i64 99] w fun e w' => e = .returned (.bool (r.l.all (upTo 99))) ∧ Below w.heap.size w w' := by
  have hb := below_alloc w (.cells #[.int .i64 99] 3)
  have CC := Lib.hid (containsOff_any r w.heap.size (w.alloc (.cells #[.int .i64 99] 3)) (hr.on hb) (by simp))
  clear hr
  go_enter Try.func63, Try.ntmps63
  go_wp2_with fail
  refine CC.out.mono ?_
  rintro e W ⟨rfl, rfl⟩
  go_wp2
  go_ret
  exact ⟨by simp, hb⟩

end Go.Proofs.Ytffjlecibpmgiaa
