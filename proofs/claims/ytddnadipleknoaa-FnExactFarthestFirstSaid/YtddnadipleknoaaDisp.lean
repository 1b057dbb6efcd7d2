/- The dispersion of places: the contracts of both sides. Condition: a ground, and places of it. -/
import Derived.Test.YtddnadipleknoaaPlainDisp
import Derived.Test.YtddnadipleknoaaGroundI
namespace Go.Proofs.Ytddnadipleknoaa
open Go.RowKit

theorem least_any (x y : Int) (w : World) :
    Calls Try.prog 55 #[.int .i64 x, .int .i64 y] w fun e w' => e = .returned (.int .i64 (min x y)) ∧ w' = w := by
  by_cases h : x < y
  · have hm : Hid (min x y = x) := Lib.hid (by omega)
    go_enter Try.func55, Try.ntmps55
    go_wp2
    go_ret
    exact ⟨by rw [hm.out]; rfl, rfl⟩
  · have hm : Hid (min x y = y) := Lib.hid (by omega)
    go_enter Try.func55, Try.ntmps55
    go_wp2
    go_ret
    exact ⟨by rw [hm.out]; rfl, rfl⟩

/-- The cells of a row of places. -/
theorem up_row {r : Row} {w : World} {L : List Nat} (hr : r.At w) (hl : r.l = up L) (h0 : 0 < L.length) : ∃ b o, r.a = some ⟨b, o, none⟩ ∧ ∀ u, Below w.heap.size w u → ∀ k, k < L.length → u.cell? ⟨b, o + k, none⟩ = some (.int .i64 (L.getD k 0 : Nat)) := by
  obtain ⟨b, o, ha, _, hc⟩ := row_cell hr (by rw [hl, up_length]; exact h0)
  refine ⟨b, o, ha, fun u hu k hk => ?_⟩
  rw [hc u hu k (by rw [hl, up_length]; exact hk), hl, getD_at (by rw [up_length]; exact hk), up_at hk, getD_nat hk]

set_option maxRecDepth 16000 in
set_option maxHeartbeats 2000000 in
theorem leastGap_any (T : Tab) (r : Row) (L : List Nat) (x : Nat) (w : World) (hT : T.At w) (hg : Grd T.con) (hr : r.At w) (hl : r.l = up L) (hL : ∀ m ∈ L, m < T.R.length) (hx : x < T.R.length) :
    Calls Try.prog 61 #[.int .i64 x, .slice r.a r.l.length r.c, .func (.func 36) #[.slice T.a T.R.length T.c] #[]] w fun e w' => e = .returned (.int .i64 (gapF T.con x 198 L)) ∧ w' = w := by
  have hlim := row_lim0 hr
  have hlen : r.l.length = L.length := by rw [hl, up_length]
  rw [hlen] at hlim ⊢
  by_cases h0 : L.length = 0
  · have hL0 : L = [] := List.eq_nil_of_length_eq_zero h0
    rw [h0, hL0]
    clear hT hg hr hl hL hx hlim hlen h0 hL0
    go_enter Try.func61, Try.ntmps61
    go_wp2
    go_loopw [7, 9, 12] (fun sv _ i wr => i = .int .i64 0 ∧ sv = .int .i64 198 ∧ w = wr) (fun _ _ _ _ => 0)
    case atStart => exact ⟨rfl, rfl, rfl⟩
    case round =>
      obtain ⟨rfl, rfl, rfl⟩ := hrel
      go_wp2
      go_ret
      exact ⟨rfl, rfl⟩
  obtain ⟨n, hn⟩ : ∃ n, n = T.R.length := ⟨_, rfl⟩
  have hn7 : (n : Int) ≤ 7 := by have := hg.few; rw [con_length] at this; omega
  obtain ⟨b, o, ha, hrow⟩ := grd_cells hT hg (by omega)
  obtain ⟨b1, o1, ha1, hc1⟩ := up_row hr hl (by omega)
  obtain ⟨bx, ox, cx, hxr⟩ := hrow x hx
  rw [← hn] at hxr hx
  have HX := Lib.hid (hxr w (Below.refl _ _))
  have HC := Lib.hid (hc1 w (Below.refl _ _))
  have HLT := Lib.hid (fun k (hk : k < L.length) => (by rw [getD_nat hk, hn]; exact hL _ (List.getElem_mem hk) : L.getD k 0 < n))
  have HST : Hid (∀ k (h : k < L.length), gapF T.con x 198 (L.take (k + 1)) = min (gapF T.con x 198 (L.take k)) (cel T.con x (L.getD k 0))) := Lib.hid fun k h => by rw [gapF_step h, getD_nat h]
  rw [ha, ha1, ← hn]
  clear hT hg hr hl hL hn hlen h0 ha ha1 hrow hc1 hxr
  go_enter Try.func61, Try.ntmps61
  go_wp2
  go_loopw [7, 9, 12] (fun sv _ i wr => ∃ k : Nat, k ≤ L.length ∧ i = .int .i64 k ∧ sv = .int .i64 (gapF T.con x 198 (L.take k)) ∧ w = wr) (fun _ _ i _ => L.length - (intOf i).toNat)
  case atStart => exact ⟨0, Nat.zero_le _, rfl, rfl, rfl⟩
  case round =>
    obtain ⟨k, hk, rfl, rfl, rfl⟩ := hrel
    by_cases hlt : k < L.length
    · have hlti : (k : Int) < (L.length : Int) := by omega
      obtain ⟨m, hm⟩ : ∃ m, m = L.getD k 0 := ⟨_, rfl⟩
      have hcl := HC.out k hlt
      have hmn := HLT.out k hlt
      have hst := HST.out k hlt
      rw [← hm] at hcl hmn hst
      obtain ⟨y, hy⟩ : ∃ y, y = cel T.con x m := ⟨_, rfl⟩
      have CD := Lib.hid (dist_cell b o bx ox n T.c n cx x m y w hx hmn (by omega) (by omega) HX.out.1 (by rw [hy]; exact HX.out.2 m hmn))
      obtain ⟨s, hs⟩ : ∃ s, s = gapF T.con x 198 (L.take k) := ⟨_, rfl⟩
      rw [← hs] at hst ⊢
      rw [← hy] at hst
      have HS := Lib.hid hst
      clear hm hy hs hst hmn
      go_wp2_with fail
      refine (show Calls _ _ _ _ _ from CD.out).mono ?_
      rintro e W ⟨rfl, rfl⟩
      go_wp2
      go_roundw
      case rel => exact ⟨k + 1, by omega, by go_num, by rw [HS.out]; first | rfl | (congr 1; omega), by first | rfl | trivial⟩
      case measure => simp [intOf]; omega
    · obtain rfl : k = L.length := by omega
      have HE : Hid (L.take L.length = L) := Lib.hid (List.take_length ..)
      go_wp2
      go_ret
      exact ⟨by rw [HE.out]; rfl, rfl⟩
end Go.Proofs.Ytddnadipleknoaa
