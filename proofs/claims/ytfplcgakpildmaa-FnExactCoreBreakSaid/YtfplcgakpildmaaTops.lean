/- A row of the greatest int, of any length, as slices.Repeat makes it (the text of a row of ones with another number). Condition: at most 1048576. -/
import Derived.Test.YtfplcgakpildmaaMulAny
namespace Go.Proofs.Ytfplcgakpildmaa
open Go.RowKit

/-- k tops, then zeros. -/
def tops (m k : Nat) : List Int := List.replicate k 9223372036854775807 ++ List.replicate (m - k) 0
theorem tops_len {m k : Nat} (h : k ≤ m) : (tops m k).length = m := by unfold tops; simp; omega
theorem tops_splice {m k c : Nat} (h : k + c ≤ m) : splice (iv (tops m k)) k (iv (List.replicate c 9223372036854775807)) = iv (tops m (k + c)) := by
  unfold splice tops
  have e1 : (iv (List.replicate k 9223372036854775807 ++ List.replicate (m - k) 0)).take k = iv (List.replicate k 9223372036854775807) := by
    unfold iv; rw [List.map_append, List.take_append_of_le_length (by simp), List.take_of_length_le (by simp)]
  have e2 : (iv (List.replicate k 9223372036854775807 ++ List.replicate (m - k) 0)).drop (k + (iv (List.replicate c (9223372036854775807 : Int))).length) = iv (List.replicate (m - (k + c)) 0) := by
    unfold iv
    rw [List.map_append, List.length_map, List.length_replicate, List.drop_append]
    simp only [List.length_map, List.length_replicate]
    rw [List.drop_eq_nil_iff.2 (by simp), List.nil_append, List.map_replicate, List.map_replicate, List.drop_replicate]
    congr 1; omega
  rw [e1, e2]
  simp only [iv, List.map_append, List.map_replicate]
  rw [← List.replicate_append_replicate, List.append_assoc]
theorem iv_tops_one (c : Nat) : ∀ v ∈ iv (List.replicate c 9223372036854775807), v.oneCell' = true := fun v hv => by
  obtain ⟨x, _, rfl⟩ := List.mem_map.1 hv
  simp [Value.oneCell']
theorem tops_at {m k j : Nat} {v : Value} {c : Nat} (h : c ≤ k) (hv : (iv (List.replicate c (9223372036854775807 : Int)))[j]? = some v) : (iv (tops m k))[j]? = some v := by
  obtain ⟨hj, he⟩ := List.getElem?_eq_some_iff.1 hv
  rw [iv_length, List.length_replicate] at hj
  unfold tops iv
  have h5 : j < k := by omega
  rw [List.map_append, List.getElem?_append_left (by rw [List.length_map, List.length_replicate]; exact h5), ← he]
  simp [iv, h5]

set_option maxRecDepth 16000 in
set_option maxHeartbeats 2000000 in
theorem repeatTops_any (r : Row) (m : Nat) (w : World) (hr : r.At w) (hrl : r.l = [9223372036854775807]) (hm : m ≤ 1048576) :
    Calls Try.prog 67 #[.slice r.a r.l.length r.c, .int .i64 (m : Int)] w fun e w' => ∃ t : Row, e = .returned (.slice t.a t.l.length t.c) ∧ t.l = List.replicate m 9223372036854775807 ∧ t.Own 3 w' ∧ t.In w.heap.size w'.heap.size w' ∧ Below w.heap.size w w' := by
  obtain ⟨a, c, l⟩ := r
  simp only at hrl
  subst hrl
  obtain ⟨q1, q2, q3⟩ := hr
  rcases q3 with h3 | ⟨b, o, ha, hb, hcell⟩
  · exact absurd (iv_nil h3) (by simp)
  simp only at ha q1 q2
  subst ha
  have hc0 := hcell 0 (.int .i64 9223372036854775807) rfl
  have CM := Lib.hid (mul_low m hm w)
  have hmi : (m : Int) ≤ 1048576 := by omega
  have hmk := run_make_row' (P := Try.prog) 22 3 (.int .i64 0) 8 Try.underlying22 infoIntW rfl .i64 .i64 m (by omega) (by omega)
  obtain ⟨W1, hW1⟩ : ∃ u, u = w.alloc (.cells (madeCells #[.int .i64 0] m) 3) := ⟨_, rfl⟩
  have hg1 : W1.heap[w.heap.size]? = some (.cells (iv (tops m 0)).toArray 3 (0, 0)) := by
    rw [hW1]
    have h := heap_alloc_new w (.cells (madeCells #[.int .i64 0] m) 3)
    rw [h]
    have h2 : (madeCells #[Value.int .i64 0] m).toList = List.replicate m (Value.int .i64 0) := made_row _ _
    have h3 : iv (tops m 0) = List.replicate m (Value.int .i64 0) := by unfold tops iv; simp
    rw [h3, ← h2]
  have HB1 : Hid (Below w.heap.size w W1) := Lib.hid (by rw [hW1]; exact below_alloc _ _)
  obtain ⟨k0, hk0⟩ : ∃ k0, k0 = Nat.min 1 m := ⟨_, rfl⟩
  have hk01 : k0 ≤ m := by rw [hk0]; exact Nat.min_le_right _ _
  have hk02 : 0 < m → 1 ≤ k0 := fun h => by rw [hk0]; exact Nat.le_min.2 ⟨Nat.le_refl _, h⟩
  have hk03 : k0 ≤ 1 := by rw [hk0]; exact Nat.min_le_left _ _
  obtain ⟨w2, hr1, hg2, hb2⟩ := copy_run W1 w 3 w.heap.size 0 w.heap.size m 1 m c ⟨b, o, none⟩ (iv (tops m 0)) (iv (List.replicate k0 9223372036854775807)) hg1 (by rw [iv_length, List.length_replicate, hk0])
    (fun j v hv => by
      have hj := (List.getElem?_eq_some_iff.1 hv).1
      rw [iv_length, List.length_replicate] at hj
      obtain rfl : j = 0 := by omega
      have hv1 : v = .int .i64 9223372036854775807 := by
        have := (List.getElem?_eq_some_iff.1 hv).2
        rw [← this]; simp [iv]
      rw [hv1, addr_at]
      exact (HB1.out.cell (p := ⟨b, o + 0, none⟩) hb).trans hc0)
    (by rw [iv_length, iv_length, List.length_replicate, tops_len (Nat.zero_le _)]; omega) (iv_tops_one _) HB1.out (Nat.le_refl _)
  rw [hW1, iv_length, List.length_replicate] at hr1
  have h4 := tops_splice (m := m) (k := 0) (c := k0) (by omega)
  rw [Nat.zero_add] at h4
  rw [h4] at hg2
  have HG2 := Lib.hid hg2
  have HB2 := Lib.hid hb2
  have hk0i : (k0 : Int) ≤ 1 := by omega
  have HK := Lib.hid hk02
  have HK1 := Lib.hid hk01
  clear hcell hg1 hW1 hg2 hb2 h4 hk02 hk0 hc0
  show Calls _ _ #[.slice (some ⟨b, o, none⟩) 1 c, .int .i64 (m : Int)] w _
  go_enter Try.func67, Try.ntmps67
  go_wp2_with fail
  refine (show Calls _ _ #[.int .u64 1, .int .u64 (m : Int)] _ _ from CM.out).mono ?_
  rintro e W ⟨rfl, rfl⟩
  go_wp2
  go_loopw [8] (fun nv wr => ∃ k : Nat, k ≤ m ∧ nv = .int .i64 (k : Int) ∧ (0 < m → 1 ≤ k) ∧ wr.heap[W.heap.size]? = some (.cells (iv (tops m k)).toArray 3 (0, 0)) ∧ Below W.heap.size W wr) (fun nv _ => m - (intOf nv).toNat)
  case atStart => exact ⟨k0, HK1.out, rfl, HK.out, HG2.out, HB2.out⟩
  case round =>
    obtain ⟨k, hk, rfl, hk1, hg, hnx⟩ := hrel
    by_cases hlt : k < m
    · have hlti : (k : Int) < (m : Int) := by omega
      obtain ⟨e, he⟩ : ∃ e, e = Nat.min k (m - k) := ⟨_, rfl⟩
      have he1 : 1 ≤ e := by rw [he]; exact Nat.le_min.2 ⟨hk1 (by omega), by omega⟩
      have he2 : e ≤ k := by rw [he]; exact Nat.min_le_left _ _
      have he3 : k + e ≤ m := by have : e ≤ m - k := by rw [he]; exact Nat.min_le_right _ _
                                 omega
      have hbl : W.heap.size < wr.heap.size := (Array.getElem?_eq_some_iff.1 hg).1
      obtain ⟨w4, hr4, hg4, hb4⟩ := copy_run wr.drew W 3 W.heap.size k W.heap.size (m - k) k (m - k) m ⟨W.heap.size, 0, none⟩ (iv (tops m k)) (iv (List.replicate e 9223372036854775807)) hg (by rw [iv_length, List.length_replicate, he])
        (fun j v hv => by
          have h1 := tops_at (m := m) he2 hv
          have hj := (List.getElem?_eq_some_iff.1 h1).1
          rw [addr_at, Nat.zero_add]
          show wr.cell? ⟨W.heap.size, j, none⟩ = some v
          unfold World.cell?
          simp only [hg]
          simpa using h1)
        (by rw [iv_length, iv_length, List.length_replicate, tops_len hk]; exact he3) (iv_tops_one _) hnx.drew (Nat.le_refl _)
      rw [iv_length, List.length_replicate] at hr4
      rw [tops_splice he3] at hg4
      have HG4 := Lib.hid hg4
      have HB4 := Lib.hid hb4
      have hei : (e : Int) ≤ 1048576 := by omega
      clear hg hg4 hb4 hnx he he2
      go_wp2
      go_region
      all_goals
        go_wp2
        go_roundw
        case rel => exact ⟨k + e, he3, by go_num, fun _ => by omega, HG4.out, HB4.out⟩
        case measure => simp [intOf]; omega
    · obtain rfl : k = m := by omega
      have HG := Lib.hid hg
      have HB := Lib.hid hnx
      clear hg hnx
      go_wp2
      go_ret
      have hl : (tops k k).length = k := tops_len (Nat.le_refl _)
      have h1 : tops k k = List.replicate k 9223372036854775807 := by unfold tops; simp
      have ho := row_of_block HG.out (Nat.le_refl _) (by rw [hl]; unfold maxLen; omega)
      obtain ⟨t, ht, htl, hto, hti⟩ := row_of_own ho
      rw [hl] at ht
      exact ⟨t, congrArg Ending.returned ht, by rw [htl, h1], hto, hti, HB.out⟩

end Go.Proofs.Ytfplcgakpildmaa
