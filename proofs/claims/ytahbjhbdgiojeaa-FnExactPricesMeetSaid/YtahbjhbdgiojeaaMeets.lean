/- The contracts of the test whether a price is right for a set, on both sides. Condition: a valid Field and a valid set with at least one site. -/
import Derived.Test.YtahbjhbdgiojeaaPairPriceGap
import Derived.Test.YtahbjhbdgiojeaaPairRestCosts
import Derived.BigQuiet
namespace Go.Proofs.Ytahbjhbdgiojeaa
open Go.RowKit

/-- The price is above the length to a site other than the one that serves. -/
def passB (row : List Int) (x : Int) (q m : Nat) : Bool := decide (m ≠ q) && decide (row.getD m 0 < x)
/-- A price is right for the sites of a set. -/
def meetB (row : List Int) (x : Int) (T : List Nat) : Bool := decide (row.getD (near row T) 0 ≤ x) && !T.any (passB row x (near row T))
theorem meet_no1 {row : List Int} {x : Int} {T : List Nat} (h : x < row.getD (near row T) 0) : meetB row x T = false := by unfold meetB; rw [decide_eq_false (by omega)]; rfl
theorem meet_no2 {row : List Int} {x : Int} {T : List Nat} {k : Nat} (hk : k < T.length) (h : passB row x (near row T) T[k] = true) : meetB row x T = false := by
  unfold meetB; rw [show T.any (passB row x (near row T)) = true from List.any_eq_true.2 ⟨_, List.getElem_mem hk, h⟩]; simp
theorem any_end {α : Type} {T : List α} {p : α → Bool} (h : (T.take T.length).any p = false) : T.any p = false := by rw [List.take_length] at h; exact h

set_option maxRecDepth 8000 in
set_option maxHeartbeats 2000000 in
theorem l3Meets_any (F : Fld) (s : Row) (T : List Nat) (x : Int) (j : Nat) (w : World) (hF : F.At w) (hs : s.At w) (hf : Fine F s T) (hfew : T.length ≤ 1048576) (hj : j < F.t.R.length) :
    Calls Try.prog 71 #[F.val, .int .i64 x, .int .i64 j, .slice s.a s.l.length s.c] w fun e w' => e = .returned (.bool (meetB F.t.R[j].l x T)) ∧ Below w.heap.size w w' := by
  obtain ⟨wA, hA, hbA, bx, hFA, _⟩ := laid_fld F w 29 hF
  have hsz := good_sizes hf.good
  obtain ⟨q, hq⟩ : ∃ q, q = near F.t.R[j].l T := ⟨_, rfl⟩
  have hqm : q ∈ T := by rw [hq]; exact near_mem hf.some _ (Nat.le_refl _)
  have hqb := hf.lt q hqm
  have CS := Lib.hid (by have := l2Site_any F s T j wA hFA (hs.on hbA) hf.good hf.set hf.some hf.lt hj; rw [← hq] at this; exact this : Calls Try.prog 44 #[F.val, .int .i64 j, .slice s.a s.l.length s.c] wA fun e w' => e = .returned (.int .i64 (q : Int)) ∧ Below wA.heap.size wA w')
  have hsl : s.l.length = T.length := by rw [hf.set, up_length]
  have hti : (T.length : Int) ≤ 1048576 := by omega
  have HSA := Lib.hid (hs.on hbA)
  have HFA := Lib.hid hFA
  have HBX := Lib.hid bx
  have HA := Lib.hid hA
  have HFI := Lib.hid hf
  have HQ := Lib.hid hq
  obtain ⟨row, hrow⟩ : ∃ r, r = F.t.R[j].l := ⟨_, rfl⟩
  have HLN : Hid (∀ m, F.len j m = row.getD m 0) := Lib.hid fun m => by rw [len_at F hj, hrow]
  have HQR : Hid (q = near row T) := Lib.hid (by rw [hrow]; exact hq)
  rw [← hrow]
  have hji : (j : Int) < (F.t.R.length : Int) := by omega
  have hRi : (F.t.R.length : Int) ≤ 7 := by omega
  have hoi : (F.o.l.length : Int) ≤ 7 := by omega
  have hqi : (q : Int) < (F.o.l.length : Int) := by omega
  have y00 := bx.c0
  have y01 := bx.c1
  rw [hA] at y00 y01
  rw [hsl] at CS ⊢
  clear hF hs hA hFA bx hf hq hqm hrow hsz
  show Calls _ _ #[.agg #[F.o.val, .slice F.t.a F.t.R.length F.t.c], _, _, _] w _
  go_enter Try.func71, Try.ntmps71
  go_wp2_with fail
  rw [show w.alloc (Obj.cells #[F.o.val, .slice F.t.a F.t.R.length F.t.c] 29) = wA from HA.out.symm]
  refine (show Calls _ _ _ _ _ from CS.out).mono ?_
  rintro e W1 ⟨rfl, hb1⟩
  have hbw := hbA.trans (hb1.mono hbA.size)
  have HC := Lib.hid fun wr (hd : DrewTo W1 wr) => row_cells (HFA.out.on hb1) HFI.out.good hd hj
  have HX1 := Lib.hid (fun wr (hd : DrewTo W1 wr) => by rw [hd.cell]; exact (HBX.out.on hb1).c1 : ∀ wr, DrewTo W1 wr → wr.cell? ⟨w.heap.size, 1, none⟩ = some (.slice F.t.a F.t.R.length F.t.c))
  obtain ⟨_, _, h3⟩ := HSA.out.on hb1
  have HS := Lib.hid h3
  have HBW := Lib.hid hbw
  have hsz1 := hbw.size
  obtain ⟨bt, ot, bi, oi, ci, hta, hci, hri⟩ := HC.out W1 (DrewTo.refl _)
  have y1 := HX1.out W1 (DrewTo.refl _)
  have hcq := hri q hqb
  obtain ⟨z, hz⟩ : ∃ z, z = F.len j q := ⟨_, rfl⟩
  rw [← hz] at hcq
  have HZ : Hid (row.getD (near row T) 0 = z) := Lib.hid (by rw [hz, HLN.out, ← HQR.out])
  rw [hta] at y1
  rw [hta]
  have HTA := Lib.hid hta
  clear h3 hb1 hri hta hz y00 y01 hbw
  by_cases hxz : x < z
  · have HV : Hid (meetB row x T = false) := Lib.hid (meet_no1 (by rw [HZ.out]; exact hxz))
    go_wp2
    go_ret
    exact ⟨by rw [HV.out]; rfl, HBW.out⟩
  · go_wp2
    clear y1 hci hcq
    go_loopw [10] (fun i wr => ∃ k : Nat, k ≤ T.length ∧ i = .int .i64 k ∧ DrewTo W1 wr ∧ (T.take k).any (passB row x q) = false) (fun i _ => T.length - (intOf i).toNat)
    case atStart => exact ⟨0, Nat.zero_le _, rfl, DrewTo.refl _, by simp⟩
    case round =>
      obtain ⟨k, hk, rfl, hdw, hall⟩ := hrel
      have HALL := Lib.hid hall
      clear hall
      by_cases hlt : k < T.length
      · have hlti : (k : Int) < (T.length : Int) := by omega
        obtain ⟨m, hm⟩ : ∃ m, m = T[k] := ⟨_, rfl⟩
        have hmb : m < F.o.l.length := HFI.out.lt m (by rw [hm]; exact List.getElem_mem hlt)
        have hmi : (m : Int) < (F.o.l.length : Int) := by omega
        rcases HS.out with h3 | ⟨b, o, ha, hbb, hcell⟩
        · have h3' := congrArg List.length (iv_nil h3); rw [hsl, List.length_nil] at h3'; omega
        have hcm : wr.cell? ⟨b, o + k, none⟩ = some (.int .i64 (m : Int)) := by
          rw [hdw.cell]; refine hcell k _ ?_
          rw [HFI.out.set, iv_at (by rw [up_length]; exact hlt), up_at hlt, hm]
        obtain ⟨bt', ot', bi, oi, ci, hta, hci, hri⟩ := HC.out wr hdw
        have y1 := HX1.out wr hdw
        rw [hta] at y1
        obtain ⟨u, hu⟩ : ∃ z, z = F.len j m := ⟨_, rfl⟩
        have hcu := hri m hmb
        rw [← hu] at hcu
        have HPB : Hid (passB row x q m = (decide (m ≠ q) && decide (u < x))) := Lib.hid (by unfold passB; rw [← HLN.out, ← hu])
        have HM := Lib.hid hm
        have hta0 := HTA.out
        rw [hta] at hta0
        simp only [Option.some.injEq, Addr.mk.injEq] at hta0
        obtain ⟨rfl, rfl, _⟩ := hta0
        rw [ha]
        clear hm hu hcell ha hri hta
        by_cases hmq : m = q
        · have hne : ((m : Int) != (q : Int)) = false := by rw [nat_neB, hmq]; simp
          have HST : Hid ((T.take (k + 1)).any (passB row x q) = false) := Lib.hid (any_take hlt HALL.out (by rw [← HM.out, HPB.out, hmq]; simp))
          clear hmq
          go_wp2
          go_quiet (fail)
          go_wp2
          go_roundw
          case rel => exact ⟨k + 1, by omega, by go_num, hdw.more _, HST.out⟩
          case measure => simp [intOf]; omega
        · have hne : ((m : Int) != (q : Int)) = true := by rw [nat_neB]; simp [hmq]
          by_cases hux : u < x
          · have HV : Hid (meetB row x T = false) := Lib.hid (meet_no2 hlt (by rw [← HQR.out, ← HM.out, HPB.out]; simp [hmq, hux]))
            clear hmq
            go_wp2
            go_quiet (fail)
            go_wp2
            go_ret
            exact ⟨by rw [HV.out]; rfl, HBW.out.trans ((hdw.more _).below.mono hsz1)⟩
          · have HST : Hid ((T.take (k + 1)).any (passB row x q) = false) := Lib.hid (any_take hlt HALL.out (by rw [← HM.out, HPB.out]; simp [hux]))
            clear hmq
            go_wp2
            go_quiet (fail)
            go_wp2
            go_roundw
            case rel => exact ⟨k + 1, by omega, by go_num, hdw.more _, HST.out⟩
            case measure => simp [intOf]; omega
      · obtain rfl : k = T.length := by omega
        have HV : Hid (meetB row x T = true) := Lib.hid (by
          unfold meetB; rw [HZ.out, ← HQR.out, any_end HALL.out, decide_eq_true (by omega)]; rfl)
        go_wp2
        go_ret
        exact ⟨by rw [HV.out]; rfl, HBW.out.trans (hdw.below.mono hsz1)⟩

end Go.Proofs.Ytahbjhbdgiojeaa
