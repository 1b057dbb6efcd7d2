/- The contracts of the search of the best swap, on both sides. Condition: the Field and the set read as such. -/
import Derived.Test.YtfmodibahpgkmaaPlainBest
import Derived.Test.YtfmodibahpgkmaaGain
namespace Go.Proofs.Ytfmodibahpgkmaa
open Go.RowKit

set_option maxRecDepth 32000 in
set_option maxHeartbeats 2000000 in
theorem l4Find_any (F : Fld) (s : Row) (w : World) (hF : F.At w) (hs : s.At w) (hsm : s.l.length ≤ 1048576) (h2 : twoB F s = true) (p q g : Int) (hv : bestS F s.l s.l.length = (p, q, g)) :
    Calls Try.prog 71 #[F.val, .slice s.a s.l.length s.c] w fun e w' => e = .returned (.tuple #[.int .i64 p, .int .i64 q, .int .i64 g]) ∧ Below w.heap.size w w' := by
  obtain ⟨wA, hA, hbA, bx, hFA, hszA⟩ := laid_fld F w 29 hF
  have HSA := Lib.hid (hs.on hbA)
  have HFA := Lib.hid hFA
  have HBX := Lib.hid bx
  have HA := Lib.hid hA
  have hg := (twoB_iff.1 h2).1
  have hsz := good_sizes hg
  have hoi : (F.o.l.length : Int) ≤ 7 := by omega
  obtain ⟨q1, q2, q3⟩ := hs.on hbA
  have hni : (s.l.length : Int) ≤ 1048576 := by omega
  have hpos := (twoB_iff.1 h2).2.2
  rcases q3 with h3 | ⟨b, o, ha, hbb, hcell0⟩
  · have h3' := congrArg List.length (iv_nil h3); rw [List.length_nil] at h3'; omega
  have HCE := Lib.hid (fun k (hk : k < s.l.length) => hcell0 k _ (iv_at hk))
  have HG := Lib.hid hg
  have H2 := Lib.hid h2
  have HV := Lib.hid hv
  obtain ⟨n, hn⟩ : ∃ n, n = F.o.l.length := ⟨_, rfl⟩
  have HN := Lib.hid hn
  rw [← hn] at hoi
  have HA3 := Lib.hid ha
  rw [ha]
  clear hF hs hA hFA bx q1 q2 hg h2 hsz hv hn hpos hcell0 ha
  show Calls _ _ #[.agg #[F.o.val, F.t.val], _] w _
  go_enter Try.func71, Try.ntmps71
  go_wp2
  go_loopw [7, 8, 9, 10, 11, 12] (fun a b c i _ _ wr => ∃ k : Nat, k ≤ s.l.length ∧ i = .int .i64 k ∧ a = .int .i64 (bestS F s.l k).1 ∧ b = .int .i64 (bestS F s.l k).2.1 ∧ c = .int .i64 (bestS F s.l k).2.2 ∧ Below wA.heap.size wA wr) (fun _ _ _ i _ _ _ => s.l.length - (intOf i).toNat)
  case atStart => exact ⟨0, Nat.zero_le _, rfl, rfl, rfl, rfl, by rw [HA.out]; exact Below.refl _ _⟩
  case round =>
    obtain ⟨k, hk, rfl, rfl, rfl, rfl, hnx⟩ := hrel
    by_cases hlt : k < s.l.length
    · have hlti : (k : Int) < (s.l.length : Int) := by omega
      have HNX := Lib.hid hnx
      go_wp2
      go_loopw [7, 8, 9, 11, 12] (fun a b c i _ wr => ∃ m : Nat, m ≤ n ∧ i = .int .i64 m ∧ a = .int .i64 (rowS F s.l s.l[k] (bestS F s.l k) m).1 ∧ b = .int .i64 (rowS F s.l s.l[k] (bestS F s.l k) m).2.1 ∧ c = .int .i64 (rowS F s.l s.l[k] (bestS F s.l k) m).2.2 ∧ Below wA.heap.size wA wr) (fun _ _ _ i _ _ => n - (intOf i).toNat)
      case atStart => exact ⟨0, Nat.zero_le _, rfl, rfl, rfl, rfl, HNX.out⟩
      case round =>
        obtain ⟨m, hm, rfl, rfl, rfl, rfl, hnx2⟩ := hrel
        have y0 : wr.cell? ⟨w.heap.size, 0, none⟩ = some (.slice F.o.a n F.o.c) := by rw [HN.out]; exact (HBX.out.on hnx2).c0
        have y1 := (HBX.out.on hnx2).c1
        obtain ⟨x, hx⟩ : ∃ x, x = s.l[k] := ⟨_, rfl⟩
        rw [← hx]
        obtain ⟨st, hst⟩ : ∃ st, st = rowS F s.l x (bestS F s.l k) m := ⟨_, rfl⟩
        rw [← hst]
        have HCL0 : Hid (wA.cell? ⟨b, o + k, none⟩ = some (.int .i64 x)) := Lib.hid (by rw [hx]; exact HCE.out k hlt)
        have hcl : wr.cell? ⟨b, o + k, none⟩ = some (.int .i64 x) := (hnx2.cell (p := ⟨b, o + k, none⟩) hbb).trans (by rw [hx]; exact HCE.out k hlt)
        by_cases hlm : m < n
        · have hmi : (m : Int) < (n : Int) := by omega
          obtain ⟨t, ht⟩ : ∃ t, t = hasI s.l (m : Int) := ⟨_, rfl⟩
          have C1 := Lib.hid (by have := l1Has_any s (m : Int) wr (HSA.out.on hnx2); rw [← ht, HA3.out] at this; exact this : Calls Try.prog 67 #[.slice (some ⟨b, o, none⟩) s.l.length s.c, .int .i64 m] wr fun e w' => e = .returned (.bool t) ∧ w' = wr)
          have HST := Lib.hid (show rowS F s.l x (bestS F s.l k) (m + 1) = stepS F s.l x st m by rw [rowS_step, hst])
          have HT := Lib.hid ht
          have HX := Lib.hid hx
          have HNX2 := Lib.hid hnx2
          have Y0 := Lib.hid y0
          have Y1 := Lib.hid y1
          have HCL := Lib.hid hcl
          have hkp := kept_part (HG.out) (l := s.l) (i := k) (k := m) hlt (by rw [← HN.out]; omega)
          rw [← hx, ← hst] at hkp
          have g1 := hkp.1
          have g2 := hkp.2.1
          clear ht hx hst hcl hkp y1 hnx2
          go_wp2_with fail
          refine C1.out.mono ?_
          rintro e wr ⟨rfl, rfl⟩
          cases t with
          | true =>
            have HS := Lib.hid (HST.out.trans (step_no HT.out.symm))
            go_wp2
            go_roundw
            case rel => exact ⟨m + 1, by omega, by go_num, by rw [HS.out], by rw [HS.out], by rw [HS.out], HNX2.out⟩
            case measure => simp [intOf]; omega
          | false =>
            obtain ⟨v, hv⟩ : ∃ v, v = gain F s.l x m := ⟨_, rfl⟩
            have C2 := Lib.hid (by have := l4Gain_any F s x m wr (HFA.out.on HNX2.out) (HSA.out.on HNX2.out) hsm (swapAt_of H2.out (by rw [HX.out]; exact List.getElem_mem _) (by rw [← HN.out]; exact hlm) HT.out.symm); rw [← hv, HA3.out] at this; exact this : Calls Try.prog 69 #[F.val, .slice (some ⟨b, o, none⟩) s.l.length s.c, .int .i64 x, .int .i64 m] wr fun e w' => e = .returned (.int .i64 v) ∧ Below wr.heap.size wr w')
            have HVV := Lib.hid hv
            have hvb := gain_bounds HG.out s.l x m
            rw [← hv] at hvb
            have HS : Hid (∀ u, Below wr.heap.size wr u → ((u.cell? ⟨w.heap.size, 0, none⟩ = some (.slice F.o.a n F.o.c) ∧ u.cell? ⟨w.heap.size, 1, none⟩ = some F.t.val ∧ u.cell? ⟨b, o + k, none⟩ = some (.int .i64 x)) ∧ Below wr.heap.size wr u)) := Lib.hid fun u hu => ⟨⟨(hu.cell (p := ⟨w.heap.size, 0, none⟩) (HBX.out.on HNX2.out).lt).trans Y0.out, (hu.cell (p := ⟨w.heap.size, 1, none⟩) (HBX.out.on HNX2.out).lt).trans Y1.out, (hu.cell (p := ⟨b, o + k, none⟩) (Nat.lt_of_lt_of_le hbb HNX2.out.size)).trans HCL.out⟩, hu⟩
            have s0 := HS.out wr.drew (Below.refl _ _).drew
            have C3 := Lib.hid fun u (hu : Below wr.heap.size wr u) => (by have := l4Gain_any F s x m u ((HFA.out.on HNX2.out).on hu) ((HSA.out.on HNX2.out).on hu) hsm (swapAt_of H2.out (by rw [HX.out]; exact List.getElem_mem _) (by rw [← HN.out]; exact hlm) HT.out.symm); rw [← hv, HA3.out] at this; unfold Fld.val Row.val at this; rw [← HN.out] at this; exact this : Calls Try.prog 69 #[.agg #[.slice F.o.a n F.o.c, F.t.val], .slice (some ⟨b, o, none⟩) s.l.length s.c, .int .i64 x, .int .i64 m] u fun e w' => e = .returned (.int .i64 v) ∧ Below u.heap.size u w')
            have hsz1 := HNX2.out.size
            clear hv y0 C2
            go_wp2_with fail
            go_region_held3 (fun u => ((u.cell? ⟨w.heap.size, 0, none⟩ = some (.slice F.o.a n F.o.c) ∧ u.cell? ⟨w.heap.size, 1, none⟩ = some F.t.val ∧ u.cell? ⟨b, o + k, none⟩ = some (.int .i64 x)) ∧ Below wr.heap.size wr u)) (first | exact s0 | exact keep_reg HS.out (by first | assumption | exact And.right (by assumption)) hb1) (first | (go_at_call 69; refine (show Calls _ _ _ _ _ from C3.out _ (by first | assumption | exact And.right (by assumption))).mono ?_; rintro e u1 ⟨rfl, hb1⟩))
            refine at_exit (W := wr) (by first | assumption | exact And.right (by assumption)) ?_
            intro W8 hb8
            have R2 := HNX2.out.trans (hb8.mono hsz1)
            clear hb8 s0
            by_cases hgt : st.2.2 < v
            · have HSS := Lib.hid (HST.out.trans (step_more HT.out.symm (by rw [← HVV.out]; exact hgt)))
              have hc8 : W8.cell? ⟨b, o + k, none⟩ = some (.int .i64 x) := (R2.cell (p := ⟨b, o + k, none⟩) hbb).trans HCL0.out
              go_wp2
              go_roundw
              case rel => exact ⟨m + 1, by omega, by go_num, by rw [HSS.out], by rw [HSS.out], by rw [HSS.out, ← HVV.out], R2⟩
              case measure => simp [intOf]; omega
            · have HSS := Lib.hid (HST.out.trans (step_less (by rw [← HVV.out]; exact hgt)))
              go_wp2
              go_roundw
              case rel => exact ⟨m + 1, by omega, by go_num, by rw [HSS.out], by rw [HSS.out], by rw [HSS.out], R2⟩
              case measure => simp [intOf]; omega
        · obtain rfl : m = n := by omega
          have HS := Lib.hid (show bestS F s.l (k + 1) = st by rw [bestS_step hlt, hst, hx, HN.out])
          have HNX2 := Lib.hid hnx2
          clear hst hx
          go_wp2
          go_roundw
          case rel => exact ⟨k + 1, by omega, by go_num, by rw [HS.out], by rw [HS.out], by rw [HS.out], HNX2.out⟩
          case measure => simp [intOf]; omega
    · obtain rfl : k = s.l.length := by omega
      go_wp2
      go_ret3
      exact ⟨by rw [HV.out]; rfl, hbA.trans (hnx.mono hbA.size)⟩
end Go.Proofs.Ytfmodibahpgkmaa
