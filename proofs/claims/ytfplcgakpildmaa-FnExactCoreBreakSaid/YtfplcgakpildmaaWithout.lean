/- A row without one of its places, as the program makes it. Condition: the row reads as such, at most seven numbers. -/
import Derived.Test.YtfplcgakpildmaaServe
import Derived.Deep.RegionLaw
import Derived.Laws.CopyOwn
import Derived.Deep.OwnRows
namespace Go.Proofs.Ytfplcgakpildmaa
open Go.RowKit

theorem infoIntW : (Try.prog.info? 3).map (fun i => (i.zero, i.size, i.bytes)) = some (some (.int .i64 0), 1, 8) := infoInt
theorem erase_iv (l : List Int) : ∀ i, (iv l).eraseIdx i = iv (l.eraseIdx i) := by
  induction l with
  | nil => intro i; rfl
  | cons a t ih =>
    intro i
    cases i with
    | zero => rfl
    | succ i => show Value.int .i64 a :: (iv t).eraseIdx i = Value.int .i64 a :: iv (t.eraseIdx i); rw [ih i]
theorem addr_at (g k j : Nat) : (⟨g, k, none⟩ : Addr).add j = ⟨g, k + j, none⟩ := by unfold Addr.add; split <;> simp_all
theorem row_of_block {w : World} {B g : Nat} {xs : List Int} (hg : w.heap[g]? = some (.cells (iv xs).toArray 3 (0, 0))) (hB : B ≤ g) (hn : xs.length ≤ maxLen) :
    w.ownsRow B 3 1 (.slice (some ⟨g, 0, none⟩) xs.length xs.length) xs.length (iv xs) :=
  ⟨by rw [iv_length]; omega, .inr ⟨g, xs.length, (iv xs).toArray, rfl, hB, hg, Nat.le_refl _, hn, by simp [iv_length], by simp [List.take_of_length_le, iv_length]⟩⟩
theorem splice_erase {xs : List Value} {i n : Nat} (hn : n + 1 = xs.length) (hi : i < xs.length) (Z : List Value) (hZ : Z.length = n) :
    splice (splice Z 0 (xs.take i)) i (xs.drop (i + 1)) = xs.eraseIdx i := by
  rw [List.eraseIdx_eq_take_drop_succ]
  unfold splice
  have h1 : (xs.take i).length = i := by rw [List.length_take]; omega
  have h2 : (xs.drop (i + 1)).length = n - i := by rw [List.length_drop]; omega
  simp only [List.take_zero, List.nil_append, Nat.zero_add, h1, h2]
  have e1 : (xs.take i ++ Z.drop i).take i = xs.take i := by rw [List.take_append_of_le_length (by omega), List.take_of_length_le (by omega)]
  have e2 : (xs.take i ++ Z.drop i).drop (i + (n - i)) = [] := List.drop_eq_nil_iff.2 (by rw [List.length_append, h1, List.length_drop]; omega)
  rw [e1, e2, List.append_nil]

/-- One copy into a block of the call's own. -/
theorem copy_run (w w0 : World) (ty : TypeId) (g off B n m dc sc : Nat) (ad : Addr) (cur cs : List Value) (hg : w.heap[g]? = some (.cells cur.toArray 3 (0, 0))) (hn : cs.length = Nat.min m n)
    (hsrc : ∀ j v, cs[j]? = some v → w.cell? (ad.add j) = some v) (hfit : off + cs.length ≤ cur.length) (h1 : ∀ v ∈ cs, v.oneCell' = true) (hb : Below B w0 w) (hBg : B ≤ g) :
    ∃ w', (Builtin.copy_ #[22, 22] ty #[.slice (some ⟨g, off, none⟩) n dc, .slice (some ad) m sc]).run Try.prog w = .ok (goInt cs.length) w' ∧ w'.heap[g]? = some (.cells (splice cur off cs).toArray 3 (0, 0)) ∧ Below B w0 w' := by
  have hsz : (Try.prog.info? 3).map (·.size) = some 1 := by
    have := infoIntW
    cases h : Try.prog.info? 3 with
    | none => rw [h] at this; cases this
    | some x => rw [h] at this; simp only [Option.map_some, Option.some.injEq, Prod.mk.injEq] at this ⊢; exact this.2.1
  by_cases h0 : cs.length = 0
  · obtain rfl : cs = [] := List.eq_nil_of_length_eq_zero h0
    exact ⟨w, run_copy_none (P := Try.prog) w _ _ ty 3 _ _ _ _ _ _ Try.underlying22 hsz (by simpa using hn.symm), by simpa [splice] using hg, hb⟩
  · have hr := run_copy_row (P := Try.prog) w 22 22 ty 3 g off n dc ad m sc cur.toArray 3 cs Try.underlying22 hsz hg hn hsrc (by simpa using hfit) h1
    exact ⟨_, hr, by simpa [splice] using setRow_heap w g _ _ 3 _ hg, below_setRow hb hBg _⟩

end Go.Proofs.Ytfplcgakpildmaa
