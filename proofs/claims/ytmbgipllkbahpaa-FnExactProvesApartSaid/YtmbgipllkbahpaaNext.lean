/- The contracts of the program's first set and of its step to the next one. Condition: sets of at most seven sites, owned. -/
import Derived.Test.YtmbgipllkbahpaaPlainSets
import Derived.Test.YtmbgipllkbahpaaServe
import Derived.IntWalk
namespace Go.Proofs.Ytmbgipllkbahpaa
open Go.RowKit

theorem row_put {r : Row} {lo hi : Nat} {w : World} (ho : r.Own 3 w) (hi' : r.In lo hi w) {a : Nat} (ha : a < r.l.length) (x : Int) : ∃ g, r.a = some ⟨g, 0, none⟩ ∧ lo ≤ g ∧ g < hi ∧ g < w.heap.size ∧ w.frozen? ⟨g, a, none⟩ = false ∧ w.cell? ⟨g, a, none⟩ = some (.int .i64 r.l[a]) ∧
    (Row.mk r.a r.c (r.l.set a x)).Own 3 (w.setCell ⟨g, a, none⟩ (.int .i64 x)) ∧ (Row.mk r.a r.c (r.l.set a x)).In lo hi (w.setCell ⟨g, a, none⟩ (.int .i64 x)) := by
  have hne : r.l ≠ [] := fun h => by rw [h] at ha; simp at ha
  obtain ⟨g, hga, hown⟩ := ho.resolve_left hne
  obtain ⟨_, _, h3⟩ := hi'
  rcases h3 with h3 | ⟨b, o, e, hl, hh, hb, _⟩
  · exact absurd (iv_nil h3) hne
  rw [hga] at e
  simp only [Option.some.injEq, Addr.mk.injEq] at e
  obtain ⟨rfl, rfl, _⟩ := e
  have hst := (hown.stored a (.int .i64 x)).1
  rw [show (iv r.l).set a (.int .i64 x) = iv (r.l.set a x) by unfold iv; rw [List.map_set]] at hst
  have hst' : (w.setCell ⟨g, a, none⟩ (.int .i64 x)).ownsRow 0 3 1 (.slice (some ⟨g, 0, none⟩) (r.l.set a x).length r.c) (r.l.set a x).length (iv (r.l.set a x)) := by rw [List.length_set]; exact hst
  obtain ⟨q1, q2, q3⟩ := row_of_owns hst'
  refine ⟨g, hga, hl, hh, hb, hown.frozenAt a, (hown.cellAt a (by omega)).trans (iv_at ha), .inr ⟨g, hga, hst'⟩, ⟨q1, q2, ?_⟩⟩
  rcases q3 with q3 | ⟨b', o', e', hb', hc'⟩
  · exact .inl q3
  · simp only [Option.some.injEq, Addr.mk.injEq] at e'
    obtain ⟨rfl, rfl, _⟩ := e'
    exact .inr ⟨_, _, hga, hl, hh, hb', hc'⟩

theorem up_range_step (k : Nat) : up (List.range (k + 1)) = up (List.range k) ++ [(k : Int)] := by unfold up; rw [List.range_succ, List.map_append]; rfl
theorem up_range_len (k : Nat) : (up (List.range k)).length = k := by rw [up_length, List.length_range]

set_option maxRecDepth 16000 in
set_option maxHeartbeats 1000000 in
theorem numbers_any (n : Nat) (w : World) (hn : n ≤ 7) :
    Calls Try.prog 56 #[.int .i64 n] w fun e w' => ∃ t : Row, e = .returned (.slice t.a t.l.length t.c) ∧ t.l = up (List.range n) ∧ t.Own 3 w' ∧ t.In w.heap.size w'.heap.size w' ∧ Below w.heap.size w w' := by
  obtain ⟨i0, hi, hz0, hz1, hz2⟩ := info_parts infoInt
  have hni : (n : Int) ≤ 7 := by omega
  have H0 := Lib.hid (empty_own w)
  have HB0 := Lib.hid (below_alloc w (.cells #[] 3))
  go_enter Try.func56, Try.ntmps56
  go_wp2
  go_loopw [3, 4, 7] (fun out _ i wr => ∃ k : Nat, k ≤ n ∧ i = .int .i64 k ∧ wr.ownsRow w.heap.size 3 1 out k (iv (up (List.range k))) ∧ Below w.heap.size w wr) (fun _ _ i _ => n - (intOf i).toNat)
  case atStart => exact ⟨0, Nat.zero_le _, rfl, H0.out, HB0.out⟩
  case round =>
    obtain ⟨k, hk, rfl, hown, hnx⟩ := hrel
    by_cases hlt : k < n
    · have hlti : (k : Int) < (n : Int) := by omega
      have HL := Lib.hid (up_range_step k)
      have hszr := hnx.size
      go_wp2_with (at_builtin; refine wpList_append_own _ rfl _ _ 29 rfl w.heap.size 3 i0 (.int .i64 0) 1 8 Try.underlying29 hi hz0 hz1 hz2 rfl (by decide) _ _ _ rfl (hown.alloc _) ⟨wr.heap.size, 0, none⟩ 1 1 [.int .i64 (k : Int)] rfl rfl (one_cell _ _ _) (by simp [Value.oneCell']) (by unfold maxLen; omega) (by omega) (by simp; omega) ?_; intro v' w1 hown' hgrow _)
      have R1 : w1.ownsRow w.heap.size 3 1 v' (k + 1) (iv (up (List.range (k + 1)))) := by rw [HL.out]; simpa [iv] using hown'
      have R2 : Below w.heap.size w w1 := (hnx.alloc (by omega) _).grown hgrow (by simp; omega) (fun j hj => (hown.lt j hj).1)
      clear hown' hgrow hown hnx
      go_wp2
      go_roundw
      case rel => exact ⟨k + 1, by omega, by go_num, R1, R2⟩
      case measure => simp [intOf]; omega
    · obtain rfl : k = n := by omega
      go_wp2
      go_ret
      obtain ⟨t, ht, htl, hto, hti⟩ := row_of_own (l := up (List.range k)) (by rw [up_range_len]; exact hown)
      exact ⟨t, congrArg Ending.returned ht, htl, hto, hti, hnx⟩

/-- A set in which the places from i up to m have gone on. -/
def fill (T : List Nat) (i m : Nat) : List Nat := T.take i ++ ((List.range (m - i)).map (fun j => T.getD i 0 + 1 + j) ++ T.drop m)
theorem fill_start {T : List Nat} {i : Nat} : fill T i i = T := by simp [fill]
theorem fill_end {T : List Nat} {i : Nat} : fill T i T.length = goOn T i := by simp [fill, goOn]
theorem fill_len {T : List Nat} {i m : Nat} (hi : i ≤ m) (hm : m ≤ T.length) : (fill T i m).length = T.length := by simp [fill]; omega
theorem fill_set {T : List Nat} {i m : Nat} (hi : i ≤ m) (hm : m < T.length) : (up (fill T i m)).set m ((T.getD i 0 + 1 + (m - i) : Nat) : Int) = up (fill T i (m + 1)) := by
  have h1 : (T.take i).length = i := by rw [List.length_take]; omega
  unfold up
  rw [← List.map_set]
  congr 1
  unfold fill
  rw [List.set_append_right _ _ (by rw [h1]; exact hi), h1]
  congr 1
  rw [List.set_append_right _ _ (by simp), List.drop_eq_getElem_cons hm, show m + 1 - i = (m - i) + 1 by omega, List.range_succ, List.map_append]
  simp
  rw [List.drop_eq_getElem_cons hm, List.set_cons_zero]
theorem getD_up {T : List Nat} {i : Nat} (h : i < T.length) : (T.getD i 0 : Nat) = T[i] := by rw [List.getD_eq_getElem?_getD, List.getElem?_eq_getElem h]; rfl
theorem atFrom_lt {n : Nat} {T : List Nat} : ∀ {i j : Nat}, atFrom n T i = some j → j < i
  | 0, j, h => by simp [atFrom] at h
  | i + 1, j, h => by
    unfold atFrom at h
    split at h
    · exact Nat.lt_succ_of_lt (atFrom_lt h)
    · cases h; exact Nat.lt_succ_self _

end Go.Proofs.Ytmbgipllkbahpaa
