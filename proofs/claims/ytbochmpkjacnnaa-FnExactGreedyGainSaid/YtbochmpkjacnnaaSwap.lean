/- The contracts of the model's list functions behind SwapSites: has, without. Condition: the list reads as such. -/
import Derived.Test.YtbochmpkjacnnaaPlainSwap
import Derived.Test.YtbochmpkjacnnaaServe
namespace Go.Proofs.Ytbochmpkjacnnaa
open Go.RowKit

/-- Whether a list has a number. -/
def hasI (l : List Int) (n : Int) : Bool := l.contains n
theorem has_no {l : List Int} {n : Int} (h : ∀ j, (hj : j < l.length) → l[j] ≠ n) : hasI l n = false := by
  unfold hasI
  rw [Bool.eq_false_iff]
  intro hc
  obtain ⟨j, hj, e⟩ := List.mem_iff_getElem.1 (List.contains_iff_mem.1 hc)
  exact h j hj e
theorem has_yes {l : List Int} {n : Int} {k : Nat} (h : k < l.length) (e : l[k] = n) : hasI l n = true := List.contains_iff_mem.2 (e ▸ List.getElem_mem h)

set_option maxHeartbeats 1000000 in
theorem l1Has_any (s : Row) (n : Int) (w : World) (hs : s.At w) :
    Calls Try.prog 52 #[.slice s.a s.l.length s.c, .int .i64 n] w fun e w' => e = .returned (.bool (hasI s.l n)) ∧ w' = w := by
  obtain ⟨a, c, l⟩ := s
  obtain ⟨h1, h2, h3⟩ := hs
  simp only at h1 h2 h3 ⊢
  rw [iv_length] at h1
  unfold maxLen at h2
  have hni : (l.length : Int) ≤ 9223372036854775807 := by omega
  have HR := Lib.hid h3
  clear h3
  go_enter Try.func52, Try.ntmps52
  go_wp2
  go_loop [5] (fun i => ∃ k : Nat, k ≤ l.length ∧ i = .int .i64 k ∧ ∀ j, (hj : j < l.length) → j < k → l[j] ≠ n) (fun i => l.length - (intOf i).toNat)
  case atStart => exact ⟨0, Nat.zero_le _, rfl, fun j _ h => absurd h (Nat.not_lt_zero _)⟩
  case round =>
    obtain ⟨k, hk, rfl, hno⟩ := hrel
    have HNO := Lib.hid hno
    clear hno
    by_cases hlt : k < l.length
    · have hlti : (k : Int) < (l.length : Int) := by omega
      rcases HR.out with h3 | ⟨b, o, rfl, hbb, hcell⟩
      · have h3' := congrArg List.length (iv_nil h3); rw [List.length_nil] at h3'; omega
      obtain ⟨x, hx⟩ : ∃ x, x = l[k] := ⟨_, rfl⟩
      have hcl : w.cell? ⟨b, o + k, none⟩ = some (.int .i64 x) := by rw [hx]; exact hcell k _ (iv_at hlt)
      by_cases hxn : x = n
      · have HY : Hid (hasI l n = true) := Lib.hid (has_yes hlt (by rw [← hx]; exact hxn))
        have he : (x == n) = true := by simp [hxn]
        clear hx hcell hxn
        go_wp2
        go_ret
        exact ⟨by rw [HY.out]; rfl, rfl⟩
      · have HS : Hid (∀ j, (hj : j < l.length) → j < k + 1 → l[j] ≠ n) := Lib.hid fun j hj hjk => by
          by_cases e : j = k
          · subst e; rw [← hx]; exact hxn
          · exact HNO.out j hj (by omega)
        have he : (x == n) = false := by simp [hxn]
        clear hx hcell hxn
        go_wp2
        go_round
        case rel => exact ⟨k + 1, by omega, by go_num, HS.out⟩
        case measure => simp [intOf]; omega
    · obtain rfl : k = l.length := by omega
      have HN : Hid (hasI l n = false) := Lib.hid (has_no fun j hj => HNO.out j hj hj)
      go_wp2
      go_ret
      exact ⟨by rw [HN.out]; rfl, rfl⟩

theorem without_step {l : List Int} {o : Int} {k : Nat} (h : k < l.length) : without (l.take (k + 1)) o = without (l.take k) o ++ (if l[k] = o then [] else [l[k]]) := by
  rw [List.take_succ_eq_append_getElem h]
  unfold without
  rw [List.filter_append]
  by_cases e : l[k] = o
  · simp [e]
  · simp [e]
theorem without_len (l : List Int) (o : Int) : (without l o).length ≤ l.length := List.length_filter_le _ _

set_option maxHeartbeats 2000000 in
theorem l2Without_any (s : Row) (n : Int) (w : World) (hs : s.At w) (hsm : s.l.length ≤ 1048576) :
    Calls Try.prog 86 #[.slice s.a s.l.length s.c, .int .i64 n] w fun e w' => ∃ t : Row, e = .returned (.slice t.a t.l.length t.c) ∧ t.l = without s.l n ∧ t.Own 3 w' ∧ t.In w.heap.size w'.heap.size w' ∧ Below w.heap.size w w' := by
  obtain ⟨i0, hi, hz0, hz1, hz2⟩ := info_parts infoInt
  have HS := Lib.hid hs
  obtain ⟨a, c, l⟩ := s
  simp only at hsm HS ⊢
  have hni : (l.length : Int) ≤ 9223372036854775807 := by omega
  have H0 := Lib.hid (empty_own w)
  have HB0 := Lib.hid (below_alloc w (.cells #[] 3))
  clear hs
  go_enter Try.func86, Try.ntmps86
  go_wp2
  go_loopw [5, 6] (fun out i wr => ∃ k : Nat, k ≤ l.length ∧ i = .int .i64 k ∧ wr.ownsRow w.heap.size 3 1 out (without (l.take k) n).length (iv (without (l.take k) n)) ∧ Below w.heap.size w wr) (fun _ i _ => l.length - (intOf i).toNat)
  case atStart => exact ⟨0, Nat.zero_le _, rfl, by rw [List.take_zero]; exact H0.out, HB0.out⟩
  case round =>
    obtain ⟨k, hk, rfl, hown0, hnx⟩ := hrel
    by_cases hlt : k < l.length
    · have hlti : (k : Int) < (l.length : Int) := by omega
      rcases (HS.out.on hnx).2.2 with h3 | ⟨b, o, ha, hbb, hcell⟩
      · have h3' := congrArg List.length (iv_nil h3); simp only [List.length_nil] at h3'; omega
      simp only at ha
      subst ha
      obtain ⟨x, hx⟩ : ∃ x, x = l[k] := ⟨_, rfl⟩
      have hcl : wr.cell? ⟨b, o + k, none⟩ = some (.int .i64 x) := by rw [hx]; exact hcell k _ (iv_at hlt)
      have HST := Lib.hid (without_step (o := n) hlt)
      have hcl' := without_len (l.take k) n
      have htk : (l.take k).length ≤ l.length := by rw [List.length_take]; omega
      have hszr := hnx.size
      by_cases hxn : x = n
      · have HL : Hid (without (l.take (k + 1)) n = without (l.take k) n) := Lib.hid (by rw [HST.out, if_pos (by rw [← hx]; exact hxn), List.append_nil])
        have he : (x != n) = false := by simp [hxn]
        have R1 := Lib.hid hown0
        clear hx hcell hxn hown0
        go_wp2
        go_roundw
        case rel => exact ⟨k + 1, by omega, by go_num, by rw [HL.out]; exact R1.out, hnx⟩
        case measure => simp [intOf]; omega
      · have HL : Hid (without (l.take (k + 1)) n = without (l.take k) n ++ [x]) := Lib.hid (by rw [HST.out, if_neg (by rw [← hx]; exact hxn), ← hx])
        have he : (x != n) = true := by simp [hxn]
        clear hx hcell hxn
        go_wp2_with (at_builtin; refine wpList_append_own _ rfl _ _ 22 rfl w.heap.size 3 i0 (.int .i64 0) 1 8 Try.underlying22 hi hz0 hz1 hz2 rfl (by decide) _ _ _ rfl (hown0.alloc _) ⟨wr.heap.size, 0, none⟩ 1 1 [.int .i64 x] rfl rfl (one_cell _ _ _) (by simp [Value.oneCell']) (by unfold maxLen; omega) (by omega) (by simp; omega) ?_; intro v' w1 hown' hgrow _)
        have R1 : w1.ownsRow w.heap.size 3 1 v' (without (l.take (k + 1)) n).length (iv (without (l.take (k + 1)) n)) := by rw [HL.out]; exact own_snoc rfl hown'
        have R2 : Below w.heap.size w w1 := (hnx.alloc (by omega) _).grown hgrow (by simp; omega) (fun j hj => (hown0.lt j hj).1)
        clear hown' hgrow hown0 hnx hcl
        go_wp2
        go_roundw
        case rel => exact ⟨k + 1, by omega, by go_num, R1, R2⟩
        case measure => simp [intOf]; omega
    · obtain rfl : k = l.length := by omega
      rw [List.take_length] at hown0
      go_wp2
      go_ret
      obtain ⟨t, ht, htl, hto, hti⟩ := row_of_own hown0
      exact ⟨t, congrArg Ending.returned ht, htl, hto, hti, hnx⟩

end Go.Proofs.Ytbochmpkjacnnaa
