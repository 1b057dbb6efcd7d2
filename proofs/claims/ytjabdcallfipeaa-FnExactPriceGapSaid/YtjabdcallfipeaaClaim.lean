/- The contracts of prices and claims, the model's side. Condition: Field and prices read as such. -/
import Derived.Test.YtjabdcallfipeaaPlainClaim
import Derived.IntWalk
import Derived.Deep.AppendLies
import Derived.Deep.RegionHeld3
namespace Go.Proofs.Ytjabdcallfipeaa
open Go.RowKit

theorem l1Most_any (a b : Int) (w : World) :
    Calls Try.prog 81 #[.int .i64 a, .int .i64 b] w fun e w' => e = .returned (.int .i64 (max a b)) ∧ w' = w := by
  by_cases h : b < a
  · go_enter Try.func81, Try.ntmps81
    go_wp2
    go_ret
    exact ⟨by rw [show max a b = a by omega]; rfl, rfl⟩
  · go_enter Try.func81, Try.ntmps81
    go_wp2
    go_ret
    exact ⟨by rw [show max a b = b by omega]; rfl, rfl⟩

set_option maxRecDepth 8000 in
set_option maxHeartbeats 1000000 in
theorem l3Prices_any (F : Fld) (p : Row) (w : World) (hF : F.At w) (hp : p.At w) :
    Calls Try.prog 70 #[F.val, .slice p.a p.l.length p.c] w fun e w' => e = .returned (.bool (pricesB F p.l)) ∧ Below w.heap.size w w' := by
  obtain ⟨wA, hA, hbA, bx, hFA, hszA⟩ := laid_fld F w 29 hF
  have hpA := hp.on hbA
  have HA := Lib.hid hA
  have HBX := Lib.hid bx
  have CG := Lib.hid (l2Good_any F wA hFA)
  obtain ⟨hr1, hr2, _⟩ := hFA.2.1
  rw [tv_length] at hr1
  have hRi : (F.t.R.length : Int) ≤ 9223372036854775807 := by unfold maxLen at hr2; omega
  have y0 := bx.c0
  have y1 := bx.c1
  have HT1 := Lib.hid (fun u (hu : Below wA.heap.size wA u) => (bx.on hu).c1 : ∀ u, Below wA.heap.size wA u → u.cell? ⟨w.heap.size, 1, none⟩ = some (.slice F.t.a F.t.R.length F.t.c))
  obtain ⟨a, c, l⟩ := p
  obtain ⟨h1, h2, h3⟩ := hpA
  simp only at h1 h2 h3 ⊢
  rw [iv_length] at h1
  unfold maxLen at h2
  have hni : (l.length : Int) ≤ 9223372036854775807 := by omega
  have HR := Lib.hid h3
  have ci := Lib.hid fun x W => l1In_any x 0 500 W
  obtain ⟨g, hg⟩ : ∃ g, g = F.good := ⟨_, rfl⟩
  have HG := Lib.hid hg
  rw [← hg] at CG
  clear hF hp hA hFA bx h3 hg y0 y1 hr1 hr2
  show Calls _ _ #[.agg #[F.o.val, F.t.val], _] w _
  go_enter Try.func70, Try.ntmps70
  go_wp2
  go_loopw [5] (fun i wr => ∃ k : Nat, k ≤ l.length ∧ i = .int .i64 k ∧ wA = wr ∧ (l.take k).all (upTo 500) = true) (fun i _ => l.length - (intOf i).toNat)
  case atStart => exact ⟨0, Nat.zero_le _, rfl, HA.out, by simp⟩
  case round =>
    obtain ⟨k, hk, rfl, rfl, hall⟩ := hrel
    have HALL := Lib.hid hall
    clear hall
    by_cases hlt : k < l.length
    · have hlti : (k : Int) < (l.length : Int) := by omega
      rcases HR.out with h3 | ⟨b, o, rfl, hb, hcell⟩
      · have h3' := congrArg List.length (iv_nil h3); rw [List.length_nil] at h3'; omega
      obtain ⟨x, hx⟩ : ∃ x, x = l[k] := ⟨_, rfl⟩
      have hcl : wA.cell? ⟨b, o + k, none⟩ = some (.int .i64 x) := by rw [hx]; exact hcell k _ (iv_at hlt)
      have HX := Lib.hid hx
      clear hx hcell
      by_cases hp : upTo 500 x = true
      · have hp' : (decide (0 ≤ x) && decide (x ≤ 500)) = true := hp
        have ci1 := Lib.hid (fun W => by have := ci.out x W; rw [hp'] at this; exact this : ∀ W, Calls Try.prog 49 #[.int .i64 x, .int .i64 0, .int .i64 500] W fun e w' => e = .returned (.bool true) ∧ w' = W)
        have HS : Hid ((l.take (k + 1)).all (upTo 500) = true) := Lib.hid (all_take hlt HALL.out (by rw [← HX.out]; exact hp))
        clear hp hp'
        go_wp2_with fail
        refine (ci1.out _).mono ?_
        rintro e W ⟨rfl, rfl⟩
        go_wp2
        go_roundw
        case rel => exact ⟨k + 1, by omega, by go_num, by first | rfl | trivial, HS.out⟩
        case measure => simp [intOf]; omega
      · have hp1 : upTo 500 x = false := by simpa using hp
        have hp' : (decide (0 ≤ x) && decide (x ≤ 500)) = false := hp1
        have ci1 := Lib.hid (fun W => by have := ci.out x W; rw [hp'] at this; exact this : ∀ W, Calls Try.prog 49 #[.int .i64 x, .int .i64 0, .int .i64 500] W fun e w' => e = .returned (.bool false) ∧ w' = W)
        have HS : Hid (l.all (upTo 500) = false) := Lib.hid (all_out hlt (by rw [← HX.out]; exact hp1))
        clear hp hp' hp1
        go_wp2_with fail
        refine (ci1.out _).mono ?_
        rintro e W ⟨rfl, rfl⟩
        go_wp2
        go_ret
        exact ⟨by unfold pricesB; rw [HS.out]; rfl, hbA⟩
    · obtain rfl : k = l.length := by omega
      have HS := Lib.hid (all_end HALL.out)
      have y0 := HBX.out.c0
      have y1 := HBX.out.c1
      go_wp2_with fail
      refine (show Calls _ _ _ _ _ from CG.out).mono ?_
      rintro e W1 ⟨rfl, hb1⟩
      have z1 : W1.cell? ⟨w.heap.size, 1, none⟩ = some (.slice F.t.a F.t.R.length F.t.c) := HT1.out W1 hb1
      have HV : Hid (pricesB F l = (g && decide (l.length = F.t.R.length))) := Lib.hid (by unfold pricesB; rw [HS.out, HG.out]; rfl)
      obtain ⟨v, hv⟩ : ∃ v, v = decide (l.length = F.t.R.length) := ⟨_, rfl⟩
      have hle := nat_eqB l.length F.t.R.length
      rw [← hv] at hle HV
      clear y0 y1 hv
      cases g with
      | false =>
        go_wp2
        go_ret
        exact ⟨by rw [HV.out]; rfl, hbA.trans (hb1.mono hbA.size)⟩
      | true =>
        cases v with
        | false =>
          go_wp2
          go_ret
          exact ⟨by rw [HV.out]; rfl, hbA.trans (hb1.mono hbA.size)⟩
        | true =>
          go_wp2
          go_ret
          exact ⟨by rw [HV.out]; rfl, hbA.trans (hb1.mono hbA.size)⟩

set_option maxHeartbeats 2000000 in
theorem l3Claim_any (F : Fld) (p : Row) (a : Nat) (u : Int) (w : World) (hF : F.At w) (hp : p.At w) (hg : F.good = true) (hd : Dues 2097152 p.l) (hl : p.l.length = F.t.R.length) (ha : a < F.o.l.length) (hu : 0 ≤ u) (hu2 : u ≤ 2520) :
    Calls Try.prog 80 #[F.val, .slice p.a p.l.length p.c, .int .i64 a, .int .i64 u] w fun e w' => e = .returned (.int .i64 (clmTo F u p.l a p.l.length)) ∧ Below w.heap.size w w' := by
  obtain ⟨wA, hA, hbA, bx, hFA, _⟩ := laid_fld F w 29 hF
  have hpA := hp.on hbA
  have hsz := good_sizes hg
  have HC := Lib.hid fun wr (hd : DrewTo wA wr) i (hi : i < F.t.R.length) => row_cells hFA hg hd hi
  have HLB := Lib.hid fun i (hi : i < F.t.R.length) a => len_bound hg hi a
  have HX1 := Lib.hid (fun wr (hd : DrewTo wA wr) => by rw [hd.cell]; exact bx.c1 : ∀ wr, DrewTo wA wr → wr.cell? ⟨w.heap.size, 1, none⟩ = some (.slice F.t.a F.t.R.length F.t.c))
  have HA := Lib.hid hA
  have HDU := Lib.hid fun k => due_at hd (by omega) k
  have HCB := Lib.hid fun k hk => clm_bound hg hu hd (by omega) a k hk
  have hoi : (F.o.l.length : Int) ≤ 7 := by omega
  have hmi : (F.t.R.length : Int) ≤ 7 := by omega
  have hai : (a : Int) < (F.o.l.length : Int) := by omega
  obtain ⟨pa, pc, l⟩ := p
  obtain ⟨h1, h2, h3⟩ := hpA
  simp only at h1 h2 h3 hl hd HDU HCB ⊢
  have hni : (l.length : Int) ≤ 7 := by omega
  have HL := Lib.hid hl
  have HR := Lib.hid h3
  have CM := Lib.hid fun x W => l1Most_any 0 x W
  have HGD := Lib.hid hg
  have HAA := Lib.hid ha
  clear hF hp hA hFA bx h3 hg h1 h2 hd hl hsz ha
  show Calls _ _ #[.agg #[F.o.val, .slice F.t.a F.t.R.length F.t.c], _, _, _] w _
  go_enter Try.func80, Try.ntmps80
  go_wp2
  go_loopw [9, 10] (fun sv i wr => ∃ k : Nat, k ≤ l.length ∧ i = .int .i64 k ∧ sv = .int .i64 (clmTo F u l a k) ∧ DrewTo wA wr) (fun _ i _ => l.length - (intOf i).toNat)
  case atStart => exact ⟨0, Nat.zero_le _, rfl, rfl, by rw [HA.out]; exact DrewTo.refl _⟩
  case round =>
    obtain ⟨k, hk, rfl, rfl, hdw⟩ := hrel
    by_cases hlt : k < l.length
    · have hlti : (k : Int) < (l.length : Int) := by omega
      have hkm : k < F.t.R.length := by rw [← HL.out]; exact hlt
      have hkmi : (k : Int) < (F.t.R.length : Int) := by omega
      rcases HR.out with h3 | ⟨b, o, hpa, hb, hcell⟩
      · have h3' := congrArg List.length (iv_nil h3); rw [List.length_nil] at h3'; omega
      obtain ⟨x, hx⟩ : ∃ x, x = l.getD k 0 := ⟨_, rfl⟩
      have hcl : wr.cell? ⟨b, o + k, none⟩ = some (.int .i64 x) := by rw [hdw.cell, hx, getD_at hlt]; exact hcell k _ (iv_at hlt)
      obtain ⟨bt, ot, bi, oi, ci, hta, hci, hri⟩ := HC.out wr hdw k hkm
      have y1 := HX1.out wr hdw
      rw [hta] at y1
      obtain ⟨y, hy⟩ : ∃ y, y = F.len k a := ⟨_, rfl⟩
      have hcy := hri a HAA.out
      have hyb := HLB.out k hkm a
      have hxb := HDU.out k
      rw [← hy] at hcy hyb
      rw [← hx] at hxb
      have hz1 : 0 ≤ u * y := Int.mul_nonneg hu hyb.1
      have hz2 : u * y ≤ 2520 * 99 := Int.mul_le_mul hu2 hyb.2 hyb.1 (by omega)
      obtain ⟨s, hs⟩ : ∃ s, s = clmTo F u l a k := ⟨_, rfl⟩
      have hsb := HCB.out k (by omega)
      rw [← hs] at hsb ⊢
      have HST : Hid (clmTo F u l a (k + 1) = s + max 0 (x - u * y)) := Lib.hid (by rw [hs, hx, hy]; rfl)
      obtain ⟨z, hz⟩ : ∃ z, z = u * y := ⟨_, rfl⟩
      have w1 : IntKind.i64.wrap (u * y) = z := by rw [hz]; exact IntWalk.i64_in _ (by omega)
      rw [← hz] at HST hz1 hz2
      have w2 : IntKind.i64.wrap (x - z) = x - z := IntWalk.i64_in _ (by omega)
      obtain ⟨m, hm⟩ : ∃ m, m = max 0 (x - z) := ⟨_, rfl⟩
      have CM1 := Lib.hid (fun W => by have := CM.out (x - z) W; rw [← hm] at this; exact this : ∀ W, Calls Try.prog 81 #[.int .i64 0, .int .i64 (x - z)] W fun e w' => e = .returned (.int .i64 m) ∧ w' = W)
      have hmb : 0 ≤ m ∧ m ≤ 2097152 := by omega
      rw [← hm] at HST
      have w3 : IntKind.i64.wrap (s + m) = s + m := IntWalk.i64_in _ (by omega)
      have e1 : (0 : Int) ≤ s + m := by omega
      have e2 : s + m ≤ 9223372036854775807 := by omega
      rw [hpa, hta]
      clear hx hy hs hz hm hcell hri hpa hta
      go_wp2
      go_quiet ((go_at_call 81; exact Calls.quiet_of_same (CM1.out _)))
      go_wp2
      go_roundw
      case rel => exact ⟨k + 1, by omega, by go_num, by rw [HST.out], hdw.more _⟩
      case measure => simp [intOf]; omega
    · obtain rfl : k = l.length := by omega
      go_wp2
      go_ret
      exact ⟨rfl, hbA.trans (hdw.below.mono hbA.size)⟩

end Go.Proofs.Ytjabdcallfipeaa
