/- The contracts of the model's list functions behind SwapSites: has, without. Condition: the list reads as such. -/
import Derived.Test.YtddnadipleknoaaPlainSwap
import Derived.Test.YtddnadipleknoaaServe
namespace Go.Proofs.Ytddnadipleknoaa
open Go.RowKit

/-- Whether a list has a number. -/
def hasI (l : List Int) (n : Int) : Bool := l.contains n
theorem has_no {l : List Int} {n : Int} (h : ∀ j, (hj : j < l.length) → l[j] ≠ n) : hasI l n = false := by
  unfold hasI
  rw [Bool.eq_false_iff]
  intro hc
  obtain ⟨j, hj, e⟩ := List.mem_iff_getElem.1 (List.contains_iff_mem.1 hc)
  exact h j hj e
theorem has_yes {l : List Int} {n : Int} {k : Nat} (h : k < l.length) (e : l[k] = n) : hasI l n = true := List.contains_iff_mem.2 (e ▸ List.getElem_mem h)

set_option maxHeartbeats 1000000 in
theorem l1Has_any (s : Row) (n : Int) (w : World) (hs : s.At w) :
    Calls Try.prog 33 #[.slice s.a s.l.length s.c, .int .i64 n] w fun e w' => e = .returned (.bool (hasI s.l n)) ∧ w' = w := by
  obtain ⟨a, c, l⟩ := s
  obtain ⟨h1, h2, h3⟩ := hs
  simp only at h1 h2 h3 ⊢
  rw [iv_length] at h1
  unfold maxLen at h2
  have hni : (l.length : Int) ≤ 9223372036854775807 := by omega
  have HR := Lib.hid h3
  clear h3
  go_enter Try.func33, Try.ntmps33
  go_wp2
  go_loop [5] (fun i => ∃ k : Nat, k ≤ l.length ∧ i = .int .i64 k ∧ ∀ j, (hj : j < l.length) → j < k → l[j] ≠ n) (fun i => l.length - (intOf i).toNat)
  case atStart => exact ⟨0, Nat.zero_le _, rfl, fun j _ h => absurd h (Nat.not_lt_zero _)⟩
  case round =>
    obtain ⟨k, hk, rfl, hno⟩ := hrel
    have HNO := Lib.hid hno
    clear hno
    by_cases hlt : k < l.length
    · have hlti : (k : Int) < (l.length : Int) := by omega
      rcases HR.out with h3 | ⟨b, o, rfl, hbb, hcell⟩
      · have h3' := congrArg List.length (iv_nil h3); rw [List.length_nil] at h3'; omega
      obtain ⟨x, hx⟩ : ∃ x, x = l[k] := ⟨_, rfl⟩
      have hcl : w.cell? ⟨b, o + k, none⟩ = some (.int .i64 x) := by rw [hx]; exact hcell k _ (iv_at hlt)
      by_cases hxn : x = n
      · have HY : Hid (hasI l n = true) := Lib.hid (has_yes hlt (by rw [← hx]; exact hxn))
        have he : (x == n) = true := by simp [hxn]
        clear hx hcell hxn
        go_wp2
        go_ret
        exact ⟨by rw [HY.out]; rfl, rfl⟩
      · have HS : Hid (∀ j, (hj : j < l.length) → j < k + 1 → l[j] ≠ n) := Lib.hid fun j hj hjk => by
          by_cases e : j = k
          · subst e; rw [← hx]; exact hxn
          · exact HNO.out j hj (by omega)
        have he : (x == n) = false := by simp [hxn]
        clear hx hcell hxn
        go_wp2
        go_round
        case rel => exact ⟨k + 1, by omega, by go_num, HS.out⟩
        case measure => simp [intOf]; omega
    · obtain rfl : k = l.length := by omega
      have HN : Hid (hasI l n = false) := Lib.hid (has_no fun j hj => HNO.out j hj hj)
      go_wp2
      go_ret
      exact ⟨by rw [HN.out]; rfl, rfl⟩

theorem without_step {l : List Int} {o : Int} {k : Nat} (h : k < l.length) : without (l.take (k + 1)) o = without (l.take k) o ++ (if l[k] = o then [] else [l[k]]) := by
  rw [List.take_succ_eq_append_getElem h]
  unfold without
  rw [List.filter_append]
  by_cases e : l[k] = o
  · simp [e]
  · simp [e]
theorem without_len (l : List Int) (o : Int) : (without l o).length ≤ l.length := List.length_filter_le _ _

end Go.Proofs.Ytddnadipleknoaa
