/- The contract of the model's list of claims. Condition: Field and prices read as such and are valid. -/
import Derived.Test.YtjabdcallfipeaaClaim
namespace Go.Proofs.Ytjabdcallfipeaa
open Go.RowKit

theorem row_of_ownN {w : World} {B n : Nat} {e : TypeId} {v : Value} {l : List Int} (hn : n = l.length) (h : w.ownsRow B e 1 v n (iv l)) : ∃ t : Row, v = .slice t.a t.l.length t.c ∧ t.l = l ∧ t.Own e w ∧ t.In B w.heap.size w := by subst hn; exact row_of_own h

set_option maxHeartbeats 2000000 in
theorem l3Claims_any (F : Fld) (p : Row) (w : World) (hF : F.At w) (hp : p.At w) (hq : Priced F p.l) :
    Calls Try.prog 71 #[F.val, .slice p.a p.l.length p.c] w fun e w' => ∃ t : Row, e = .returned (.slice t.a t.l.length t.c) ∧ t.l = clmsTo F 1 p.l F.o.l.length ∧ t.Own 3 w' ∧ t.In w.heap.size w'.heap.size w' ∧ Below w.heap.size w w' := by
  obtain ⟨i0, hi, hz0, hz1, hz2⟩ := info_parts infoInt
  obtain ⟨wA, hA, hbA, bx, hFA, hszA⟩ := laid_fld F w 29 hF
  have HPA := Lib.hid (hp.on hbA)
  have HFA := Lib.hid hFA
  have HBX := Lib.hid bx
  have hsz := good_sizes hq.good
  have hni : (F.o.l.length : Int) ≤ 7 := by omega
  have HQ := Lib.hid hq
  have HA := Lib.hid hA
  have hown0 := empty_own wA
  have hb0 := below_alloc wA (.cells #[] 3)
  have x0 : (wA.alloc (.cells #[] 3)).cell? ⟨w.heap.size, 0, none⟩ = some (.slice F.o.a F.o.l.length F.o.c) := ((Box2.later bx _)).c0
  have H0 := Lib.hid hown0
  have HB0 := Lib.hid hb0
  clear hF hp hA hFA bx hown0 hb0 hq
  show Calls _ _ #[.agg #[.slice F.o.a F.o.l.length F.o.c, .slice F.t.a F.t.R.length F.t.c], _] w _
  rw [HA.out] at x0
  go_enter Try.func71, Try.ntmps71
  go_wp2
  go_loopw [5, 6] (fun out i wr => ∃ k : Nat, k ≤ F.o.l.length ∧ i = .int .i64 k ∧ wr.ownsRow wA.heap.size 3 1 out k (iv (clmsTo F 1 p.l k)) ∧ Below wA.heap.size wA wr) (fun _ i _ => F.o.l.length - (intOf i).toNat)
  case atStart =>
    have e := HA.out
    have h0 := H0.out
    have h1 := HB0.out
    clear HA H0 HB0 HPA HFA HBX x0
    subst e
    have hsz : (w.alloc (Obj.cells #[F.o.val, F.t.val] 29)).heap.size = w.heap.size + 1 := size_alloc _ _
    rw [hsz] at h0
    exact ⟨0, Nat.zero_le _, rfl, by rw [hsz]; exact h0, h1⟩
  case round =>
    obtain ⟨k, hk, rfl, hown0, hnx⟩ := hrel
    clear x0
    have y0 : wr.cell? ⟨w.heap.size, 0, none⟩ = some (.slice F.o.a F.o.l.length F.o.c) := (HBX.out.on hnx).c0
    by_cases hlt : k < F.o.l.length
    · have hlti : (k : Int) < (F.o.l.length : Int) := by omega
      obtain ⟨v, hv⟩ : ∃ v, v = clmTo F 1 p.l k p.l.length := ⟨_, rfl⟩
      have CC := Lib.hid (fun u (hu : Below wA.heap.size wA u) => by have := l3Claim_any F p k 1 u (HFA.out.on hu) (HPA.out.on hu) HQ.out.good (fun x hx => by have := HQ.out.due x hx; omega) HQ.out.len hlt (by omega) (by omega); rw [← hv] at this; exact this : ∀ u, Below wA.heap.size wA u → Calls Try.prog 80 #[F.val, .slice p.a p.l.length p.c, .int .i64 k, .int .i64 1] u fun e w' => e = .returned (.int .i64 v) ∧ Below u.heap.size u w')
      have HL : Hid (clmsTo F 1 p.l (k + 1) = clmsTo F 1 p.l k ++ [v]) := Lib.hid (by rw [clms_step, hv])
      have hkl : (clmsTo F 1 p.l k).length = k := clms_length _ _ _ _
      have HKL := Lib.hid hkl
      have y1 := (HBX.out.on hnx).c1
      have y0 := (HBX.out.on hnx).c0
      have HO := Lib.hid hown0
      have HN := Lib.hid hnx
      have hszr := hnx.size
      have CC1 := Lib.hid (CC.out wr hnx)
      clear hv hkl hown0 hnx CC
      go_wp2_with fail
      refine (show Calls _ _ _ _ _ from CC1.out).mono ?_
      rintro e W1 ⟨rfl, hb1⟩
      have hown := owns_below HO.out hb1
      have hnx1 := HN.out.trans (hb1.mono hszr)
      have hsz1 := hb1.size
      clear y0 y1 hb1
      go_wp2_with (at_builtin; refine wpList_append_own _ rfl _ _ 22 rfl wA.heap.size 3 i0 (.int .i64 0) 1 8 Try.underlying22 hi hz0 hz1 hz2 rfl (by decide) _ _ _ rfl (hown.alloc _) ⟨W1.heap.size, 0, none⟩ 1 1 [.int .i64 v] rfl rfl (one_cell _ _ _) (by simp [Value.oneCell']) (by unfold maxLen; omega) (by omega) (by simp; omega) ?_; intro v' w1 hown' hgrow _)
      have R1 : w1.ownsRow wA.heap.size 3 1 v' (k + 1) (iv (clmsTo F 1 p.l (k + 1))) := by rw [HL.out]; simpa [iv] using hown'
      have R2 : Below wA.heap.size wA w1 := (hnx1.alloc (by omega) _).grown hgrow (by simp; omega) (fun j hj => (hown.lt j hj).1)
      clear hown' hgrow hown hnx1
      go_wp2
      go_roundw
      case rel => exact ⟨k + 1, by omega, by go_num, R1, R2⟩
      case measure => simp [intOf]; omega
    · obtain rfl : k = F.o.l.length := by omega
      go_wp2
      go_ret
      obtain ⟨t, ht, htl, hto, hti⟩ := row_of_ownN (clms_length F 1 p.l F.o.l.length).symm hown0
      exact ⟨t, congrArg Ending.returned ht, htl, hto, hti.wide hbA.size (Nat.le_refl _), hbA.trans (hnx.mono hbA.size)⟩

end Go.Proofs.Ytjabdcallfipeaa
