/- How many elements of a set are new: the contract of the model's count. Condition: the lists read as such. -/
import Derived.Test.YtbngmjmcmdfphaaCovered
import Derived.Test.YtbngmjmcmdfphaaSwap
namespace Go.Proofs.Ytbngmjmcmdfphaa
open Go.RowKit Go.Shelf

def newE (cov l : List Int) : List Int := l.filter fun x => !cov.contains x
theorem newE_step {cov l : List Int} {k : Nat} (h : k < l.length) : newE cov (l.take (k + 1)) = if cov.contains l[k] then newE cov (l.take k) else newE cov (l.take k) ++ [l[k]] := by
  unfold newE
  rw [List.take_succ_eq_append_getElem h, List.filter_append]
  by_cases hc : cov.contains l[k] = true
  · rw [if_pos hc]; simpa using hc
  · rw [if_neg hc]; simpa using hc
theorem newE_le (cov l : List Int) : (newE cov l).length ≤ l.length := List.length_filter_le _ _

set_option maxHeartbeats 1000000 in
theorem l6New_any (r c : Row) (w : World) (hr : r.At w) (hc : c.At w) (hs : r.l.length ≤ 1048576) :
    Calls Try.prog 59 #[.slice r.a r.l.length r.c, .slice c.a c.l.length c.c] w fun e w' => e = .returned (.int .i64 ((newE c.l r.l).length : Int)) ∧ w' = w := by
  have hni : (r.l.length : Int) ≤ 1048576 := by omega
  have HR := Lib.hid hr
  have CH := Lib.hid fun x => l1Has_any c x w hc
  have HB : Hid (∀ k, (newE c.l (r.l.take k)).length ≤ k) := Lib.hid fun k => by
    have := newE_le c.l (r.l.take k)
    rw [List.length_take] at this; omega
  have HST : Hid (∀ k, (h : k < r.l.length) → (newE c.l (r.l.take (k + 1))).length = if c.l.contains r.l[k] then (newE c.l (r.l.take k)).length else (newE c.l (r.l.take k)).length + 1) := Lib.hid fun k h => by
    rw [newE_step h]; split <;> simp
  have HF : Hid (newE c.l (r.l.take r.l.length) = newE c.l r.l) := Lib.hid (by rw [List.take_length])
  clear hr hc hs
  go_enter Try.func59, Try.ntmps59
  go_wp2
  go_loopw [5, 6] (fun cv i wr => ∃ k : Nat, k ≤ r.l.length ∧ i = .int .i64 k ∧ cv = .int .i64 ((newE c.l (r.l.take k)).length : Int) ∧ w = wr) (fun _ i _ => r.l.length - (intOf i).toNat)
  case atStart => exact ⟨0, Nat.zero_le _, rfl, by simp [newE], rfl⟩
  case round =>
    obtain ⟨k, hk, rfl, rfl, rfl⟩ := hrel
    by_cases hlt : k < r.l.length
    · have hlti : (k : Int) < (r.l.length : Int) := by omega
      obtain ⟨b, o, ha, hcl⟩ : ∃ b o, r.a = some ⟨b, o, none⟩ ∧ w.cell? ⟨b, o + k, none⟩ = some (.int .i64 r.l[k]) := by
        rcases HR.out.2.2 with h3 | ⟨b, o, h5, _, hc5⟩
        · have := congrArg List.length (iv_nil h3); rw [List.length_nil] at this; omega
        · exact ⟨b, o, h5, hc5 k _ (iv_at hlt)⟩
      have hst := HST.out k hlt
      have hbk := HB.out k
      obtain ⟨x, hx⟩ : ∃ x, x = r.l[k] := ⟨_, rfl⟩
      obtain ⟨q, hq⟩ : ∃ q, q = (newE c.l (r.l.take k)).length := ⟨_, rfl⟩
      rw [← hx] at hcl hst
      rw [← hq] at hst hbk ⊢
      obtain ⟨v, hv⟩ : ∃ v, v = c.l.contains x := ⟨_, rfl⟩
      have C1 := Lib.hid (by have := CH.out x; rw [show hasI c.l x = v from hv.symm] at this; exact this)
      rw [← hv] at hst
      have HS := Lib.hid hst
      have hqi : (q : Int) ≤ 1048576 := by omega
      rw [ha]
      clear hst hx hq hv ha
      go_wp2_with fail
      refine (show Calls _ _ _ _ _ from C1.out).mono ?_
      rintro e W ⟨rfl, rfl⟩
      cases v with
      | true =>
        have HE : Hid ((newE c.l (r.l.take (k + 1))).length = q) := Lib.hid (by rw [HS.out]; rfl)
        go_wp2
        go_roundw
        case rel => exact ⟨k + 1, by omega, by go_num, by rw [HE.out], by first | rfl | trivial⟩
        case measure => simp [intOf]; omega
      | false =>
        have HE : Hid ((newE c.l (r.l.take (k + 1))).length = q + 1) := Lib.hid (by rw [HS.out]; rfl)
        go_wp2
        go_roundw
        case rel => exact ⟨k + 1, by omega, by go_num, by rw [HE.out]; first | done | (push_cast; rfl) | go_num, by first | rfl | trivial⟩
        case measure => simp [intOf]; omega
    · obtain rfl : k = r.l.length := by omega
      rw [HF.out]
      go_wp2
      go_ret
      exact ⟨rfl, rfl⟩

end Go.Proofs.Ytbngmjmcmdfphaa
