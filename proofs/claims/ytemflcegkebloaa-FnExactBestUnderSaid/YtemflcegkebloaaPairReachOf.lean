/- The contracts of reaches, on both sides. Condition: Field and set read as such. -/
import Derived.Test.YtemflcegkebloaaPairServiceOf
namespace Go.Proofs.Ytemflcegkebloaa
open Go.RowKit

theorem most_any (x y : Int) (w : World) :
    Calls Try.prog 63 #[.int .i64 x, .int .i64 y] w fun e w' => e = .returned (.int .i64 (max x y)) ∧ w' = w := by
  by_cases h : y < x
  · have hm : Hid (max x y = x) := Lib.hid (by omega)
    go_enter Try.func63, Try.ntmps63
    go_wp2
    go_ret
    exact ⟨by rw [hm.out]; rfl, rfl⟩
  · have hm : Hid (max x y = y) := Lib.hid (by omega)
    go_enter Try.func63, Try.ntmps63
    go_wp2
    go_ret
    exact ⟨by rw [hm.out]; rfl, rfl⟩

set_option maxHeartbeats 1000000 in
theorem l2Far_any (F : Fld) (s : Row) (T : List Nat) (w : World) (hF : F.At w) (hs : s.At w) (hf : Fine F s T) :
    Calls Try.prog 52 #[F.val, .slice s.a s.l.length s.c] w fun e w' => e = .returned (.int .i64 (maxOf (lens F.t.con T))) ∧ Below w.heap.size w w' := by
  obtain ⟨wA, hA, hbA, bx, hFA, hszA⟩ := laid_fld F w 29 hF
  have HSA := Lib.hid (hs.on hbA)
  have HFA := Lib.hid hFA
  have HBX := Lib.hid bx
  have HA := Lib.hid hA
  have hsz := good_sizes hf.good
  have hRi : (F.t.R.length : Int) ≤ 7 := by omega
  have HFI := Lib.hid hf
  clear hF hs hA hFA bx hf
  show Calls _ _ #[.agg #[F.o.val, .slice F.t.a F.t.R.length F.t.c], _] w _
  go_enter Try.func52, Try.ntmps52
  go_wp2
  go_loopw [5, 6] (fun sv i wr => ∃ k : Nat, k ≤ F.t.R.length ∧ i = .int .i64 k ∧ sv = .int .i64 (maxOf ((lens F.t.con T).take k)) ∧ Below wA.heap.size wA wr) (fun _ i _ => F.t.R.length - (intOf i).toNat)
  case atStart => exact ⟨0, Nat.zero_le _, rfl, by simp [maxOf], by rw [HA.out]; exact Below.refl _ _⟩
  case round =>
    obtain ⟨k, hk, rfl, rfl, hnx⟩ := hrel
    have y0 := (HBX.out.on hnx).c0
    have y1 : wr.cell? ⟨w.heap.size, 1, none⟩ = some (.slice F.t.a F.t.R.length F.t.c) := (HBX.out.on hnx).c1
    by_cases hlt : k < F.t.R.length
    · have hlti : (k : Int) < (F.t.R.length : Int) := by omega
      obtain ⟨x, hx⟩ : ∃ x, x = F.t.R[k].l.getD (near F.t.R[k].l T) 0 := ⟨_, rfl⟩
      have cn := l2Nearest_any F s T k wr (HFA.out.on hnx) (HSA.out.on hnx) HFI.out.good HFI.out.set HFI.out.some HFI.out.lt hlt
      rw [← hx] at cn
      have CN := Lib.hid cn
      have hx2 : (lens F.t.con T)[k]'(by rw [lens_length]; exact hlt) = x := by rw [lens_at F T hlt, hx]
      obtain ⟨y, hy⟩ : ∃ y, y = maxOf ((lens F.t.con T).take k) := ⟨_, rfl⟩
      rw [← hy]
      have HS : Hid (maxOf ((lens F.t.con T).take (k + 1)) = max y x) := Lib.hid (by rw [max_step (by rw [lens_length]; exact hlt), hx2, hy])
      have CM := Lib.hid fun W => most_any y x W
      clear hx cn hx2 hy
      go_wp2_with fail
      refine (show Calls _ _ _ _ _ from CN.out).mono ?_
      rintro e W1 ⟨rfl, hb1⟩
      have R2 := hnx.trans (hb1.mono hnx.size)
      clear hb1 hnx y0 y1
      go_wp2_with fail
      refine (CM.out W1).mono ?_
      rintro e W2 ⟨rfl, rfl⟩
      obtain ⟨z, hz⟩ : ∃ z, z = max y x := ⟨_, rfl⟩
      rw [← hz] at HS ⊢
      clear hz
      go_wp2
      go_roundw
      case rel => exact ⟨k + 1, by omega, by go_num, by rw [HS.out], R2⟩
      case measure => simp [intOf]; omega
    · obtain rfl : k = F.t.R.length := by omega
      have HT : Hid ((lens F.t.con T).take F.t.R.length = lens F.t.con T) := Lib.hid (List.take_of_length_le (by rw [lens_length]; exact Nat.le_refl _))
      go_wp2
      go_ret
      exact ⟨by rw [HT.out]; rfl, hbA.trans (hnx.mono hbA.size)⟩

end Go.Proofs.Ytemflcegkebloaa
