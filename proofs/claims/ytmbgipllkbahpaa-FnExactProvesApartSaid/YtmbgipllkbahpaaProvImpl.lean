/- Whether lists are groups that prove a number: the program's side. Condition: the tables read as such. -/
import Derived.Test.YtmbgipllkbahpaaNearG
import Derived.Test.YtmbgipllkbahpaaLess
import Derived.Test.YtmbgipllkbahpaaNext
namespace Go.Proofs.Ytmbgipllkbahpaa
open Go.RowKit

def numB (d : List (List Int)) (D : Int) : Bool := grdB d && (decide (1 ≤ D) && decide (D ≤ 100))
set_option maxHeartbeats 1000000 in
theorem hasNumber_any (T : Tab) (D : Int) (w : World) (hT : T.At w) :
    Calls Try.prog 40 #[.slice T.a T.R.length T.c, .int .i64 D] w fun e w' => e = .returned (.bool (numB T.con D)) ∧ Below w.heap.size w w' := by
  have C := Lib.hid (isValid_any T w hT)
  obtain ⟨g, hg⟩ : ∃ g, g = grdB T.con := ⟨_, rfl⟩
  have HE : Hid (numB T.con D = (g && (decide (1 ≤ D) && decide (D ≤ 100)))) := Lib.hid (by unfold numB; rw [hg])
  rw [← hg] at C
  rw [HE.out]
  clear hT hg HE
  cases g with
  | false =>
    go_enter Try.func40, Try.ntmps40
    go_wp2_with fail
    refine (show Calls _ _ _ _ _ from C.out).mono ?_
    rintro e W ⟨rfl, hb⟩
    go_wp2
    go_ret
    exact ⟨rfl, hb⟩
  | true =>
    by_cases h2 : 1 ≤ D
    · have hge : D ≥ 1 := h2
      have HD : Hid ((true && (decide (1 ≤ D) && decide (D ≤ 100))) = decide (D ≤ 100)) := Lib.hid (by rw [decide_eq_true h2]; rfl)
      rw [HD.out]
      go_enter Try.func40, Try.ntmps40
      go_wp2_with fail
      refine (show Calls _ _ _ _ _ from C.out).mono ?_
      rintro e W ⟨rfl, hb⟩
      go_wp2
      go_ret
      exact ⟨rfl, hb⟩
    · have hge : ¬ D ≥ 1 := h2
      have HD : Hid ((true && (decide (1 ≤ D) && decide (D ≤ 100))) = false) := Lib.hid (by rw [decide_eq_false h2]; rfl)
      rw [HD.out]
      go_enter Try.func40, Try.ntmps40
      go_wp2_with fail
      refine (show Calls _ _ _ _ _ from C.out).mono ?_
      rintro e W ⟨rfl, hb⟩
      go_wp2
      go_ret
      exact ⟨rfl, hb⟩

set_option maxRecDepth 16000 in
set_option maxHeartbeats 2000000 in
theorem isProof_any (T Q : Tab) (D : Int) (w : World) (hT : T.At w) (hQ : Q.At w) (hg : Grd T.con) (hsm : ∀ r ∈ Q.R, r.l.length ≤ 1048576) :
    Calls Try.prog 41 #[.slice T.a T.R.length T.c, .slice Q.a Q.R.length Q.c, .int .i64 D] w fun e w' => e = .returned (.bool (provB T.con Q.con D)) ∧ Below w.heap.size w w' := by
  have hn7 : T.R.length ≤ 7 := by have := hg.few; rw [con_length] at this; exact this
  have hlimQ := tab_lim0 hQ
  have CN := Lib.hid (numbers_any T.R.length w hn7)
  have HT := Lib.hid hT
  have HQ := Lib.hid hQ
  have HG := Lib.hid hg
  have HSM := Lib.hid hsm
  have HTN : Hid (T.con.length = T.R.length) := Lib.hid (con_length T)
  have HQN : Hid (Q.con.length = Q.R.length) := Lib.hid (con_length Q)
  have HQC : Hid (∀ k (h : k < Q.R.length), ∃ q : k < Q.con.length, Q.con[k] = Q.R[k].l) := Lib.hid fun k h => con_row Q h
  have HROWS : Hid (0 < Q.R.length → ∃ b o, Q.a = some ⟨b, o, none⟩ ∧ ∀ u, Below w.heap.size w u → ∀ k (h : k < Q.R.length), u.cell? ⟨b, o + k, none⟩ = some (.slice Q.R[k].a Q.R[k].l.length Q.R[k].c)) := Lib.hid fun h => by
    obtain ⟨b, o, h1, _, h3⟩ := tab_rows hQ h; exact ⟨b, o, h1, h3⟩
  clear hT hQ hg hsm
  go_enter Try.func41, Try.ntmps41
  go_wp2_with fail
  refine (show Calls _ _ _ _ _ from CN.out).mono ?_
  rintro e W1 ⟨t0, rfl, ht0, -, hti, hb⟩
  have HB := Lib.hid hb
  have HT0 : Hid (t0.l = leftL T.con.length (flatG (Q.con.take 0))) := Lib.hid (by rw [ht0, HTN.out, show flatG (Q.con.take 0) = [] by simp [flatG], left_zero])
  have HTA := Lib.hid hti.at
  have HP0 := Lib.hid (provTo_zero T.con Q.con D)
  clear CN ht0 hti hb
  go_wp2
  go_loopw [7, 9, 10, 16] (fun lv _ _ iv wr => ∃ (i : Nat) (t : Row), i ≤ Q.R.length ∧ iv = .int .i64 i ∧ lv = .slice t.a t.l.length t.c ∧ Hid (t.l = leftL T.con.length (flatG (Q.con.take i))) ∧ Hid (t.At wr) ∧ Below w.heap.size w wr ∧ Hid (ProvTo T.con Q.con D i)) (fun _ _ _ iv _ => Q.R.length - (intOf iv).toNat)
  case atStart => exact ⟨0, t0, Nat.zero_le _, rfl, rfl, HT0, HTA, HB.out, HP0⟩
  case round =>
    obtain ⟨i, t, hi, rfl, rfl, HL, HA, hnx, HP⟩ := hrel
    by_cases hlt : i < Q.R.length
    · have hlti : (i : Int) < (Q.R.length : Int) := by omega
      obtain ⟨b, o, ha, hc⟩ := HROWS.out (by omega)
      obtain ⟨x, hx⟩ : ∃ x, x = Q.R[i] := ⟨_, rfl⟩
      have hcl := hc wr hnx i hlt
      rw [← hx] at hcl
      obtain ⟨hqi, hqe⟩ := HQC.out i hlt
      rw [← hx] at hqe
      have hxA : x.At wr := by rw [hx]; exact (HQ.out.2 _ (List.getElem_mem hlt)).on hnx
      have hxs : x.l.length ≤ 1048576 := HSM.out x (by rw [hx]; exact List.getElem_mem hlt)
      have ht7 : t.l.length ≤ 7 := by have := left_len T.con.length (flatG (Q.con.take i)); rw [← HL.out, HTN.out] at this; omega
      have CL := Lib.hid (less_any t x wr HA.out hxA ht7 hxs)
      have HXA := Lib.hid hxA
      have HNX := Lib.hid hnx
      have HQE : Hid (∃ h : i < Q.con.length, Q.con[i] = x.l) := Lib.hid ⟨hqi, hqe⟩
      rw [ha]
      clear hx hqe hqi hxA hnx hc ha
      go_wp2_with fail
      refine (show Calls _ _ _ _ _ from CL.out).mono ?_
      rintro e W2 ⟨t2, rfl, ht2, -, hti2, hb2⟩
      have HR2 := Lib.hid (HNX.out.trans (hb2.mono HNX.out.size))
      have HT2A := Lib.hid hti2.at
      have HXA2 := Lib.hid (HXA.out.on hb2)
      have HL2 : Hid (t2.l = leftL T.con.length (flatG (Q.con.take (i + 1)))) := Lib.hid (by
        obtain ⟨h1, h2⟩ := HQE.out
        rw [ht2, HL.out, left_step, flatG_step h1, h2])
      have hle : t2.l.length ≤ t.l.length := by rw [ht2]; unfold keepL; exact List.length_filter_le _ _
      have e1 : IntKind.i64.wrap ((t.l.length : Int) - (t2.l.length : Int)) = (t.l.length : Int) - (t2.l.length : Int) := IntWalk.i64_in _ (by omega)
      clear ht2 hti2 hb2 hcl
      by_cases heq : t.l.length - t2.l.length = x.l.length
      · have hne : (((t.l.length : Int) - (t2.l.length : Int)) != (x.l.length : Int)) = false := by simp; omega
        have HGOOD : Hid ((leftL T.con.length (flatG (Q.con.take i))).length - (leftL T.con.length (flatG (Q.con.take (i + 1)))).length = x.l.length) := Lib.hid (by rw [← HL.out, ← HL2.out]; exact heq)
        have HIN : Hid (∀ y ∈ x.l, InG T.R.length y) := Lib.hid (by
          obtain ⟨h1, h2⟩ := HQE.out
          have := (take_good (d := T.con) h1 (by rw [h2]; exact HGOOD.out)).2
          rw [h2] at this
          exact fun y hy => by have := (this y hy).1; rw [HTN.out] at this; exact this)
        obtain ⟨v, hv⟩ : ∃ v, v = groupB T.con D x.l := ⟨_, rfl⟩
        have CG := Lib.hid (by have := isNearGroup_any T x D W2 (HT.out.on HR2.out) HXA2.out HG.out HIN.out; rw [← hv] at this; exact this)
        have HV := Lib.hid hv
        clear heq hv
        go_wp2_with fail
        refine (show Calls _ _ _ _ _ from CG.out).mono ?_
        rintro e W3 ⟨rfl, hb3⟩
        have HR3 := HR2.out.trans (hb3.mono HR2.out.size)
        have HT3A := Lib.hid (HT2A.out.on hb3)
        clear hb3
        cases v with
        | false =>
          have HE : Hid (provB T.con Q.con D = false) := Lib.hid (by obtain ⟨h1, h2⟩ := HQE.out; exact each_no h1 (by rw [h2]; exact HV.out.symm))
          go_wp2
          go_ret
          exact ⟨by rw [HE.out]; rfl, HR3⟩
        | true =>
          have HS : Hid (ProvTo T.con Q.con D (i + 1)) := Lib.hid (by obtain ⟨h1, h2⟩ := HQE.out; exact take_next h1 HP.out (by rw [h2]; exact HGOOD.out) (by rw [h2]; exact HV.out.symm))
          go_wp2
          go_roundw
          case rel => exact ⟨i + 1, t2, by omega, by go_num, rfl, HL2, HT3A, HR3, HS⟩
          case measure => simp [intOf]; omega
      · have hne : (((t.l.length : Int) - (t2.l.length : Int)) != (x.l.length : Int)) = true := by simp; omega
        have HE : Hid (provB T.con Q.con D = false) := Lib.hid (by
          obtain ⟨h1, h2⟩ := HQE.out
          refine take_bad h1 fun hc => heq ?_
          rw [← HL.out, ← HL2.out, h2] at hc
          exact hc)
        clear heq
        go_wp2
        go_ret
        exact ⟨by rw [HE.out]; rfl, HR2.out⟩
    · obtain rfl : i = Q.R.length := by omega
      have HE : Hid (provB T.con Q.con D = ((t.l.length : Int) == 0)) := Lib.hid (by
        have h1 := HP.out
        rw [← HQN.out] at h1
        have h2 := HL.out
        rw [← HQN.out, List.take_length] at h2
        rw [left_end h1, ← h2, Bool.eq_iff_iff]; simp)
      go_wp2
      go_ret
      exact ⟨by rw [HE.out]; rfl, hnx⟩

set_option maxHeartbeats 1000000 in
theorem implProv_any (T Q : Tab) (D : Int) (w : World) (hT : T.At w) (hQ : Q.At w) (hsm : ∀ r ∈ Q.R, r.l.length ≤ 1048576) :
    Calls Try.prog 21 #[.slice T.a T.R.length T.c, .slice Q.a Q.R.length Q.c, .int .i64 D] w (PBool2 (numB T.con D && provB T.con Q.con D) (numB T.con D) w) := by
  have C := Lib.hid (hasNumber_any T D w hT)
  obtain ⟨g, hg⟩ : ∃ g, g = numB T.con D := ⟨_, rfl⟩
  have C2 := Lib.hid (fun u (hu : Below w.heap.size w u) (h : g = true) => isProof_any T Q D u (hT.on hu) (hQ.on hu) (grdB_iff.1 (by rw [hg] at h; unfold numB at h; rw [Bool.and_eq_true] at h; exact h.1)) hsm)
  rw [← hg] at C ⊢
  clear hT hQ hsm hg
  show Calls _ _ _ _ fun e w' => e = .returned (.tuple #[.bool (g && provB T.con Q.con D), .bool g]) ∧ Below w.heap.size w w'
  cases g with
  | false =>
    go_enter Try.func21, Try.ntmps21
    go_wp2_with fail
    refine (show Calls _ _ _ _ _ from C.out).mono ?_
    rintro e W ⟨rfl, hb⟩
    go_wp2
    go_ret2
    exact ⟨rfl, hb⟩
  | true =>
    go_enter Try.func21, Try.ntmps21
    go_wp2_with fail
    refine (show Calls _ _ _ _ _ from C.out).mono ?_
    rintro e W ⟨rfl, hb⟩
    go_wp2_with fail
    refine (show Calls _ _ _ _ _ from C2.out W hb (by first | rfl | trivial)).mono ?_
    rintro e W2 ⟨rfl, hb2⟩
    go_wp2
    go_ret2
    exact ⟨rfl, hb.trans (hb2.mono hb.size)⟩
end Go.Proofs.Ytmbgipllkbahpaa
