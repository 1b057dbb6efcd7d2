/- Sums of products of two lists: plain, and the program's contract. Condition: the numbers are small. -/
import Derived.Test.YtehmjmknegnojaaPlainFlowP
namespace Go.Proofs.Ytehmjmknegnojaa
open Go.RowKit

/-- The sum of the first products of two lists. -/
def dotTo (xs ys : List Int) (k : Nat) : Int := ((List.range k).map fun i => xs.getD i 0 * ys.getD i 0).sum
theorem dot_zero (xs ys : List Int) : dotTo xs ys 0 = 0 := by simp [dotTo]
theorem dot_step (xs ys : List Int) (k : Nat) : dotTo xs ys (k + 1) = dotTo xs ys k + xs.getD k 0 * ys.getD k 0 := by unfold dotTo; rw [List.range_succ, List.map_append, List.sum_append]; simp
theorem mulB {x y : Int} (h0 : 0 ≤ x) (h1 : x ≤ 20) (h2 : -999 ≤ y) (h3 : y ≤ 999) : -19980 ≤ x * y ∧ x * y ≤ 19980 := by
  have a := Int.mul_le_mul_of_nonneg_left h3 h0
  have b := Int.mul_le_mul_of_nonneg_left h2 h0
  omega
theorem getB {l : List Int} {lo hi : Int} (h1 : lo ≤ 0) (h2 : 0 ≤ hi) (h : ∀ x ∈ l, lo ≤ x ∧ x ≤ hi) (k : Nat) : lo ≤ l.getD k 0 ∧ l.getD k 0 ≤ hi := by
  rw [List.getD_eq_getElem?_getD]
  by_cases hk : k < l.length
  · rw [List.getElem?_eq_getElem hk]; exact h _ (List.getElem_mem hk)
  · rw [List.getElem?_eq_none (by omega)]; exact ⟨h1, h2⟩
/-- What lists are multiplied: numbers in 0..20, and numbers in -999..999. -/
structure Dots (xs ys : List Int) : Prop where
  x : ∀ x ∈ xs, 0 ≤ x ∧ x ≤ 20
  y : ∀ y ∈ ys, -999 ≤ y ∧ y ≤ 999
theorem Dots.at {xs ys : List Int} (h : Dots xs ys) (k : Nat) : -19980 ≤ xs.getD k 0 * ys.getD k 0 ∧ xs.getD k 0 * ys.getD k 0 ≤ 19980 := by
  have a := getB (by omega) (by omega) h.x k
  have b := getB (by omega) (by omega) h.y k
  exact mulB a.1 a.2 b.1 b.2
theorem Dots.sum {xs ys : List Int} (h : Dots xs ys) : ∀ k : Nat, -19980 * (k : Int) ≤ dotTo xs ys k ∧ dotTo xs ys k ≤ 19980 * (k : Int)
  | 0 => by rw [dot_zero]; simp
  | k + 1 => by have := h.sum k; have := h.at k; rw [dot_step]; omega

set_option maxHeartbeats 1000000 in
theorem sumProd_any (r q : Row) (w : World) (hr : r.At w) (hq : q.At w) (hl : r.l.length ≤ q.l.length) (h7 : r.l.length ≤ 1000) (hd : Dots r.l q.l) :
    Calls Try.prog 114 #[.slice r.a r.l.length r.c, .slice q.a q.l.length q.c] w fun e w' => e = .returned (.int .i64 (dotTo r.l q.l r.l.length)) ∧ w' = w := by
  have hri : (r.l.length : Int) ≤ 1000 := by omega
  have HC : Hid (∀ k, k < r.l.length → ∃ b o b2 o2, r.a = some ⟨b, o, none⟩ ∧ q.a = some ⟨b2, o2, none⟩ ∧ w.cell? ⟨b, o + k, none⟩ = some (.int .i64 (r.l.getD k 0)) ∧ w.cell? ⟨b2, o2 + k, none⟩ = some (.int .i64 (q.l.getD k 0))) := Lib.hid fun k hk => by
    obtain ⟨b, o, h1, _, h2⟩ := rowAll hr (by omega)
    obtain ⟨b2, o2, h3, _, h4⟩ := rowAll hq (by omega)
    exact ⟨b, o, b2, o2, h1, h3, h2 k hk, h4 k (by omega)⟩
  have HD := Lib.hid hd
  have hqi : (q.l.length : Int) ≤ 9223372036854775807 := row_lim hq
  clear hr hq hd
  go_enter Try.func114, Try.ntmps114
  go_wp2
  go_loopw [5, 6, 7, 10] (fun sv _ _ jv wr => ∃ k : Nat, k ≤ r.l.length ∧ jv = .int .i64 k ∧ sv = .int .i64 (dotTo r.l q.l k) ∧ w = wr) (fun _ _ _ jv _ => r.l.length - (intOf jv).toNat)
  case atStart => exact ⟨0, Nat.zero_le _, rfl, by rw [dot_zero], rfl⟩
  case round =>
    obtain ⟨k, hk, rfl, rfl, rfl⟩ := hrel
    by_cases hlt : k < r.l.length
    · have hlti : (k : Int) < (r.l.length : Int) := by omega
      have hlqi : (k : Int) < (q.l.length : Int) := by omega
      obtain ⟨b, o, b2, o2, hra, hqa, hc1, hc2⟩ := HC.out k hlt
      have hm := HD.out.at k
      have hs := HD.out.sum k
      have HS : Hid (dotTo r.l q.l (k + 1) = dotTo r.l q.l k + r.l.getD k 0 * q.l.getD k 0) := Lib.hid (dot_step _ _ _)
      obtain ⟨x, hx⟩ : ∃ x, x = r.l.getD k 0 := ⟨_, rfl⟩
      obtain ⟨y, hy⟩ : ∃ y, y = q.l.getD k 0 := ⟨_, rfl⟩
      obtain ⟨s, hs'⟩ : ∃ s, s = dotTo r.l q.l k := ⟨_, rfl⟩
      rw [← hx, ← hy] at hm
      rw [← hs'] at hs ⊢
      rw [← hs', ← hx, ← hy] at HS
      rw [← hx] at hc1
      rw [← hy] at hc2
      obtain ⟨z, hz⟩ : ∃ z, z = x * y := ⟨_, rfl⟩
      rw [← hz] at hm HS
      have e1 : IntKind.i64.wrap (x * y) = z := by rw [← hz]; exact IntWalk.i64_in _ (by omega)
      have e2 : IntKind.i64.wrap (s + z) = s + z := IntWalk.i64_in _ (by omega)
      rw [hra, hqa]
      clear hra hqa hx hy hs' hz
      go_wp2
      go_roundw
      case rel => exact ⟨k + 1, by omega, by go_num, by rw [HS.out], by first | rfl | trivial⟩
      case measure => simp [intOf]; omega
    · obtain rfl : k = r.l.length := by omega
      go_wp2
      go_ret
      exact ⟨rfl, by first | rfl | trivial⟩
end Go.Proofs.Ytehmjmknegnojaa
