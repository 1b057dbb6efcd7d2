/- The contracts of the sums of prices, on both sides. Condition: the list reads as such, its numbers are small. -/
import Derived.Test.YtjabdcallfipeaaPlainRest
import Derived.Test.YtjabdcallfipeaaServe
namespace Go.Proofs.Ytjabdcallfipeaa
open Go.RowKit

theorem sum_due {B : Int} : ∀ {p : List Int}, Dues B p → 0 ≤ B → 0 ≤ p.sum ∧ p.sum ≤ B * p.length
  | [], _, _ => by simp
  | x :: t, h, hB => by
    have ih := sum_due (p := t) (fun y hy => h y (List.mem_cons_of_mem _ hy)) hB
    have hx := h x (List.mem_cons_self ..)
    have e : B * ((x :: t).length : Int) = B * (t.length : Int) + B := by rw [List.length_cons, Int.natCast_succ, Int.mul_add, Int.mul_one]
    rw [List.sum_cons, e]
    omega
theorem take_due {p : List Int} (h : Dues 2097152 p) (k : Nat) : 0 ≤ (p.take k).sum ∧ (p.take k).sum ≤ 2097152 * k := by
  have h1 := sum_due (p := p.take k) (fun x hx => h x (List.mem_of_mem_take hx)) (by omega)
  rw [List.length_take] at h1
  omega

set_option maxHeartbeats 600000 in
theorem sumB_any (r : Row) (w : World) (hr : r.At w) (hb : Dues 2097152 r.l) (hn : r.l.length ≤ 1048576) :
    Calls Try.prog 47 #[.slice r.a r.l.length r.c] w fun e w' => e = .returned (.int .i64 r.l.sum) ∧ w' = w := by
  obtain ⟨a, c, l⟩ := r
  obtain ⟨h1, h2, h3⟩ := hr
  simp only at h1 h2 h3 hb hn ⊢
  have hni : (l.length : Int) ≤ 1048576 := by omega
  have HR := Lib.hid h3
  have HB := Lib.hid hb
  clear h3 hb
  go_enter Try.func47, Try.ntmps47
  go_wp2
  go_loopw [3, 8] (fun sv i wr => ∃ k : Nat, k ≤ l.length ∧ i = .int .i64 k ∧ sv = .int .i64 (l.take k).sum ∧ w = wr) (fun _ i _ => l.length - (intOf i).toNat)
  case atStart => exact ⟨0, Nat.zero_le _, rfl, by simp, rfl⟩
  case round =>
    obtain ⟨k, hk, rfl, rfl, rfl⟩ := hrel
    by_cases hlt : k < l.length
    · have hlti : (k : Int) < (l.length : Int) := by omega
      rcases HR.out with h3 | ⟨b, o, rfl, hbb, hcell⟩
      · have h3' := congrArg List.length (iv_nil h3); rw [List.length_nil] at h3'; omega
      obtain ⟨x, hx⟩ : ∃ x, x = l[k] := ⟨_, rfl⟩
      have hcl : w.cell? ⟨b, o + k, none⟩ = some (.int .i64 x) := by rw [hx]; exact hcell k _ (iv_at hlt)
      have hx2 := HB.out x (by rw [hx]; exact List.getElem_mem hlt)
      obtain ⟨y, hy⟩ : ∃ y, y = (l.take k).sum := ⟨_, rfl⟩
      have hy2 := take_due HB.out k
      rw [← hy] at hy2 ⊢
      have HS : Hid ((l.take (k + 1)).sum = y + x) := Lib.hid (by rw [sum_step hlt, hy, hx])
      have e1 : (0 : Int) ≤ y + x := by omega
      have e2 : y + x ≤ 9223372036854775807 := by omega
      clear hx hcell hy
      go_wp2
      go_roundw
      case rel => exact ⟨k + 1, by omega, by go_num, by rw [HS.out], by first | rfl | trivial⟩
      case measure => simp [intOf]; omega
    · obtain rfl : k = l.length := by omega
      go_wp2
      go_ret
      exact ⟨by rw [List.take_length]; rfl, rfl⟩

set_option maxHeartbeats 600000 in
theorem l3Sum_any (r : Row) (w : World) (hr : r.At w) (hb : Dues 2097152 r.l) (hn : r.l.length ≤ 1048576) :
    Calls Try.prog 45 #[.slice r.a r.l.length r.c] w fun e w' => e = .returned (.int .i64 r.l.sum) ∧ w' = w := by
  obtain ⟨a, c, l⟩ := r
  obtain ⟨h1, h2, h3⟩ := hr
  simp only at h1 h2 h3 hb hn ⊢
  have hni : (l.length : Int) ≤ 1048576 := by omega
  have HR := Lib.hid h3
  have HB := Lib.hid hb
  clear h3 hb
  go_enter Try.func45, Try.ntmps45
  go_wp2
  go_loopw [3, 4] (fun sv i wr => ∃ k : Nat, k ≤ l.length ∧ i = .int .i64 k ∧ sv = .int .i64 (l.take k).sum ∧ w = wr) (fun _ i _ => l.length - (intOf i).toNat)
  case atStart => exact ⟨0, Nat.zero_le _, rfl, by simp, rfl⟩
  case round =>
    obtain ⟨k, hk, rfl, rfl, rfl⟩ := hrel
    by_cases hlt : k < l.length
    · have hlti : (k : Int) < (l.length : Int) := by omega
      rcases HR.out with h3 | ⟨b, o, rfl, hbb, hcell⟩
      · have h3' := congrArg List.length (iv_nil h3); rw [List.length_nil] at h3'; omega
      obtain ⟨x, hx⟩ : ∃ x, x = l[k] := ⟨_, rfl⟩
      have hcl : w.cell? ⟨b, o + k, none⟩ = some (.int .i64 x) := by rw [hx]; exact hcell k _ (iv_at hlt)
      have hx2 := HB.out x (by rw [hx]; exact List.getElem_mem hlt)
      obtain ⟨y, hy⟩ : ∃ y, y = (l.take k).sum := ⟨_, rfl⟩
      have hy2 := take_due HB.out k
      rw [← hy] at hy2 ⊢
      have HS : Hid ((l.take (k + 1)).sum = y + x) := Lib.hid (by rw [sum_step hlt, hy, hx])
      have e1 : (0 : Int) ≤ y + x := by omega
      have e2 : y + x ≤ 9223372036854775807 := by omega
      clear hx hcell hy
      go_wp2
      go_roundw
      case rel => exact ⟨k + 1, by omega, by go_num, by rw [HS.out], by first | rfl | trivial⟩
      case measure => simp [intOf]; omega
    · obtain rfl : k = l.length := by omega
      go_wp2
      go_ret
      exact ⟨by rw [List.take_length]; rfl, rfl⟩

end Go.Proofs.Ytjabdcallfipeaa
