/- The contracts of the test whether a list is a table, on both sides. Condition: the list reads as such. -/
import Derived.Test.YtbochmpkjacnnaaPlainTable
import Derived.Test.YtbochmpkjacnnaaGood
import Derived.Test.YtbochmpkjacnnaaPost
import Derived.Test.YtbochmpkjacnnaaShelf
namespace Go.Proofs.Ytbochmpkjacnnaa
open Go.RowKit Go.Shelf

theorem rowLim {r : Row} {w : World} (hr : r.At w) : (r.l.length : Int) ≤ 9223372036854775807 := by obtain ⟨q1, q2, _⟩ := hr; rw [iv_length] at q1; unfold maxLen at q2; omega
theorem rowCells {r : Row} {w : World} (hr : r.At w) (h0 : 0 < r.l.length) : ∃ b o, r.a = some ⟨b, o, none⟩ ∧ b < w.heap.size ∧ ∀ m, m < r.l.length → w.cell? ⟨b, o + m, none⟩ = some (.int .i64 (r.l.getD m 0)) := by
  obtain ⟨_, _, h3⟩ := hr
  rcases h3 with h3 | ⟨b, o, ha, hb, hc⟩
  · have := congrArg List.length (iv_nil h3); rw [List.length_nil] at this; omega
  · exact ⟨b, o, ha, hb, fun m hm => by rw [getD_at hm]; exact hc m _ (iv_at hm)⟩
theorem minS_any (r : Row) (w : World) (hr : r.At w) (h0 : 0 < r.l.length) (hn : r.l.length ≤ 1048576) :
    Calls Try.prog 64 #[.slice r.a r.l.length r.c] w fun e w' => e = .returned (.int .i64 (Lib.minOf r.l)) ∧ w' = w := by
  obtain ⟨b, o, ha, _, hc⟩ := rowCells hr h0
  rw [ha]
  have := Try.slices_Min_int b o r.l.length r.c r.l w h0 (Nat.le_refl _) (by omega) hc
  rw [List.take_length] at this
  exact this
theorem maxS_any (r : Row) (w : World) (hr : r.At w) (h0 : 0 < r.l.length) (hn : r.l.length ≤ 1048576) :
    Calls Try.prog 59 #[.slice r.a r.l.length r.c] w fun e w' => e = .returned (.int .i64 (Lib.maxOf r.l)) ∧ w' = w := by
  obtain ⟨b, o, ha, _, hc⟩ := rowCells hr h0
  rw [ha]
  have := Try.slices_Max_int b o r.l.length r.c r.l w h0 (Nat.le_refl _) (by omega) hc
  rw [List.take_length] at this
  exact this
theorem pow7 {m : Nat} (h : m ≤ 7) : 1 ≤ 2 ^ m ∧ 2 ^ m ≤ 128 := ⟨Nat.one_le_two_pow, by have : 2 ^ m ≤ 2 ^ 7 := Nat.pow_le_pow_right (by omega) h; simpa using this⟩

end Go.Proofs.Ytbochmpkjacnnaa
