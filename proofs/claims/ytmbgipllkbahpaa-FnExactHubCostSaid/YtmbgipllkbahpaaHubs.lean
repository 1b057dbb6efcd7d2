/- Whether a list is an allocation: the contracts of both sides. Condition: table and list read as such. -/
import Derived.Test.YtmbgipllkbahpaaGroundI
import Derived.RangeFuncBox
namespace Go.Proofs.Ytmbgipllkbahpaa
open Go.RowKit

set_option maxHeartbeats 1000000 in
theorem indexHub_any (T : Row) (w : World) (hT : T.At w) (p : Int → Bool) (x0 : Value) (CO : ∀ x ∈ T.l, ∀ u, Below w.heap.size w u → Calls Try.prog 61 #[.int .i64 x, x0] u fun e w' => e = .returned (.bool (!p x)) ∧ Below u.heap.size u w') :
    Calls Try.prog 70 #[.slice T.a T.l.length T.c, .func (.func 61) #[] #[x0]] w fun e w' => (∃ i : Int, e = .returned (.int .i64 i) ∧ decide (0 ≤ i) = !T.l.all p) ∧ Below w.heap.size w w' := by
  obtain ⟨a, c, R⟩ := T
  obtain ⟨h1, h2, h3⟩ := hT
  simp only at h1 h2 h3 CO ⊢
  rw [iv_length] at h1
  unfold maxLen at h2
  have hni : (R.length : Int) ≤ 9223372036854775807 := by omega
  have HR := Lib.hid h3
  have HCO := Lib.hid CO
  obtain ⟨L, hL⟩ : ∃ L, L = R := ⟨_, rfl⟩
  have HLL := Lib.hid hL
  have HCON : Hid (R.all p = L.all p) := Lib.hid (by rw [hL])
  rw [HCON.out]
  clear h3 CO hL HCON
  go_enter Try.func70, Try.ntmps70
  go_wp2
  go_loopw [8] (fun i wr => ∃ k : Nat, k ≤ R.length ∧ i = .int .i64 k ∧ Below w.heap.size w wr ∧ Hid ((L.take k).all p = true)) (fun i _ => R.length - (intOf i).toNat)
  case atStart => exact ⟨0, Nat.zero_le _, rfl, Below.refl _ _, Lib.hid (by simp)⟩
  case round =>
    obtain ⟨k, hk, rfl, hnx, HALL⟩ := hrel
    have HNX := Lib.hid hnx
    by_cases hlt : k < R.length
    · have hlti : (k : Int) < (R.length : Int) := by omega
      rcases HR.out with h3 | ⟨b, o, ha, hb, hcell⟩
      · have h3' := congrArg List.length (iv_nil h3); rw [List.length_nil] at h3'; omega
      obtain ⟨x, hx⟩ : ∃ x, x = R[k] := ⟨_, rfl⟩
      have hxm : x ∈ R := by rw [hx]; exact List.getElem_mem hlt
      have hcl : wr.cell? ⟨b, o + k, none⟩ = some (.int .i64 x) := (hnx.cell (p := ⟨b, o + k, none⟩) hb).trans (by rw [hx]; exact hcell k _ (iv_at hlt))
      obtain ⟨v, hv⟩ : ∃ v, v = p x := ⟨_, rfl⟩
      have C1 := Lib.hid (by have := HCO.out x hxm wr hnx; rw [← hv] at this; exact this)
      have HX : Hid (∃ h : k < L.length, p L[k] = v) := Lib.hid ⟨by rw [HLL.out]; exact hlt, by simp only [HLL.out]; rw [← hx, hv]⟩
      rw [ha]
      clear hx hcell hxm hv ha hnx
      go_wp2_with fail
      refine (show Calls _ _ _ _ _ from C1.out).mono ?_
      rintro e W1 ⟨rfl, hb1⟩
      have HB1 := Lib.hid (HNX.out.trans (hb1.mono HNX.out.size))
      clear hb1 hcl
      cases v with
      | true =>
        have HS : Hid ((L.take (k + 1)).all p = true) := Lib.hid (by obtain ⟨h1, h2⟩ := HX.out; exact all_take h1 HALL.out h2)
        go_wp2
        go_roundw
        case rel => exact ⟨k + 1, by omega, by go_num, HB1.out, HS⟩
        case measure => simp [intOf]; omega
      | false =>
        have HS : Hid (L.all p = false) := Lib.hid (by obtain ⟨h1, h2⟩ := HX.out; exact all_out h1 h2)
        go_wp2
        go_ret
        exact ⟨⟨(k : Int), rfl, by rw [HS.out]; simp⟩, HB1.out⟩
    · obtain rfl : k = R.length := by omega
      have HS : Hid (L.all p = true) := Lib.hid (by
        have h := HALL.out
        rw [List.take_of_length_le (by rw [HLL.out]; exact Nat.le_refl _)] at h; exact h)
      go_wp2
      go_ret
      exact ⟨⟨-1, rfl, by rw [HS.out]; rfl⟩, hnx⟩

theorem containsHub_any (T : Row) (w : World) (hT : T.At w) (p : Int → Bool) (x0 : Value) (CO : ∀ x ∈ T.l, ∀ u, Below w.heap.size w u → Calls Try.prog 61 #[.int .i64 x, x0] u fun e w' => e = .returned (.bool (!p x)) ∧ Below u.heap.size u w') :
    Calls Try.prog 60 #[.slice T.a T.l.length T.c, .func (.func 61) #[] #[x0]] w fun e w' => e = .returned (.bool (!T.l.all p)) ∧ Below w.heap.size w w' := by
  have CI := Lib.hid (indexHub_any T w hT p x0 CO)
  clear hT CO
  go_enter Try.func60, Try.ntmps60
  go_wp2_with fail
  refine (show Calls _ _ _ _ _ from CI.out).mono ?_
  rintro e W ⟨⟨i, rfl, hi⟩, hb⟩
  have HI := Lib.hid hi
  clear hi
  go_wp2
  go_ret
  exact ⟨by rw [← HI.out]; rfl, hb⟩

/-- Each number names one that names itself. -/
def selfB (l : List Int) (x : Int) : Bool := decide (l.getD x.toNat 0 = x)
/-- An allocation for n places. -/
def hubB (n : Nat) (l : List Int) : Bool := decide (l.length = n) && l.all (upTo ((n : Int) - 1)) && l.all (selfB l)
def smallG (d : List (List Int)) : Bool := grdB d && decide ((d.length : Int) ≤ 5)

set_option maxHeartbeats 1000000 in
theorem hubTest_any (r : Row) (x : Int) (g : Nat) (w : World) (hr : r.At w) (h0 : 0 ≤ x) (hx : x < (r.l.length : Int)) (hg : w.cell? ⟨g, 0, none⟩ = some (.slice r.a r.l.length r.c)) :
    Calls Try.prog 61 #[.int .i64 x, .pointer (some ⟨g, 0, none⟩)] w fun e w' => e = .returned (.bool (!selfB r.l x)) ∧ Below w.heap.size w w' := by
  obtain ⟨m, rfl⟩ : ∃ m : Nat, x = m := ⟨x.toNat, by omega⟩
  obtain ⟨b, o, ha, _, hc⟩ := row_cell hr (by omega)
  have hlim := row_lim0 hr
  obtain ⟨y, hy⟩ : ∃ y, y = r.l.getD m 0 := ⟨_, rfl⟩
  have c1 := hc w (Below.refl _ _) m (by omega)
  rw [← hy] at c1
  have HE : Hid (selfB r.l (m : Int) = (y == (m : Int))) := Lib.hid (by unfold selfB; rw [Int.toNat_natCast, ← hy]; rfl)
  rw [HE.out]
  rw [ha] at hg
  obtain ⟨n, hn⟩ : ∃ n, n = r.l.length := ⟨_, rfl⟩
  rw [← hn] at hx hg hlim
  clear hr ha hc hy hn HE h0
  go_enter Try.func61, Try.ntmps61
  go_wp2
  go_ret
  exact ⟨rfl, Below.refl _ _⟩
theorem mem_upTo {l : List Int} {n : Nat} (h : l.all (upTo ((n : Int) - 1)) = true) {x : Int} (hx : x ∈ l) : 0 ≤ x ∧ x < (n : Int) := by
  have := upTo_iff.1 (List.all_eq_true.1 h x hx); omega

set_option maxRecDepth 16000 in
set_option maxHeartbeats 1500000 in
theorem isAllocation_any (T : Tab) (s : Row) (w : World) (hT : T.At w) (hs : s.At w) :
    Calls Try.prog 45 #[.slice T.a T.R.length T.c, .slice s.a s.l.length s.c] w fun e w' => e = .returned (.bool (hubB T.R.length s.l)) ∧ Below w.heap.size w w' := by
  have hlim := row_lim0 hs
  have hlimT := tab_lim0 hT
  obtain ⟨wA, hA⟩ : ∃ u, u = w.alloc (.cells #[.slice s.a s.l.length s.c] 29) := ⟨_, rfl⟩
  have hbA : Below w.heap.size w wA := by rw [hA]; exact below_alloc _ _
  have hc := (Boxed.new w 29 (.slice s.a s.l.length s.c)).cell
  rw [← hA] at hc
  obtain ⟨n, hn⟩ : ∃ n, n = T.R.length := ⟨_, rfl⟩
  have HS := Lib.hid (hs.on hbA)
  have HCL := Lib.hid hc
  have HA := Lib.hid hA
  have y0 := hc
  rw [hA] at y0
  rw [← hn] at hlimT ⊢
  by_cases hl : s.l.length = n
  · have hne : ((s.l.length : Int) != (n : Int)) = false := by rw [nat_neB, hl]; simp
    obtain ⟨v, hv⟩ : ∃ v, v = s.l.all (upTo ((n : Int) - 1)) := ⟨_, rfl⟩
    have CA := Lib.hid (by have := allWithinM_any ((n : Int) - 1) s wA (hs.on hbA); rw [← hv] at this; exact this)
    have hw1 : IntKind.i64.wrap ((n : Int) - 1) = (n : Int) - 1 := IntWalk.i64_in _ (by omega)
    have HL := Lib.hid hl
    cases v with
    | false =>
      have HE : Hid (hubB n s.l = false) := Lib.hid (by unfold hubB; rw [← hv]; simp)
      rw [HE.out]
      clear hT hs hA hc hn hl hv HE
      go_enter Try.func45, Try.ntmps45
      go_wp2_with fail
      rw [← HA.out]
      refine (show Calls _ _ _ _ _ from CA.out).mono ?_
      rintro e W ⟨rfl, hb⟩
      clear y0
      go_wp2
      go_ret
      exact ⟨rfl, hbA.trans (hb.mono hbA.size)⟩
    | true =>
      have HV := Lib.hid hv
      have HE : Hid (hubB n s.l = s.l.all (selfB s.l)) := Lib.hid (by unfold hubB; rw [← hv, decide_eq_true hl]; simp)
      rw [HE.out]
      clear hT hs hA hc hn hl hv HE
      go_enter Try.func45, Try.ntmps45
      go_wp2_with fail
      rw [← HA.out]
      refine (show Calls _ _ _ _ _ from CA.out).mono ?_
      rintro e W ⟨rfl, hb⟩
      clear y0
      have z0 := (hb.cell (p := ⟨w.heap.size, 0, none⟩) (World.block_lt_of_cell? _ _ HCL.out)).trans HCL.out
      have CC := Lib.hid (containsHub_any s W (HS.out.on hb) (selfB s.l) (.pointer (some ⟨w.heap.size, 0, none⟩)) (fun x hx u hu => hubTest_any s x w.heap.size u ((HS.out.on hb).on hu) (mem_upTo HV.out.symm hx).1 (by rw [HL.out]; exact (mem_upTo HV.out.symm hx).2) ((hu.cell (p := ⟨w.heap.size, 0, none⟩) (World.block_lt_of_cell? _ _ z0)).trans z0)))
      go_wp2_with fail
      refine (show Calls _ _ _ _ _ from CC.out).mono ?_
      rintro e W2 ⟨rfl, hb2⟩
      have hbw := hbA.trans (hb.mono hbA.size)
      clear z0
      go_wp2
      go_ret
      exact ⟨by simp, hbw.trans (hb2.mono hbw.size)⟩
  · have hne : ((s.l.length : Int) != (n : Int)) = true := by rw [nat_neB]; simp [hl]
    have HE : Hid (hubB n s.l = false) := Lib.hid (by unfold hubB; rw [decide_eq_false hl]; rfl)
    rw [HE.out]
    clear hT hs hA hc hn hl HE
    go_enter Try.func45, Try.ntmps45
    go_wp2
    go_ret
    rw [← HA.out]
    exact ⟨rfl, hbA⟩

set_option maxRecDepth 16000 in
set_option maxHeartbeats 1500000 in
theorem l11Hubs_any (T : Tab) (s : Row) (w : World) (hT : T.At w) (hs : s.At w) :
    Calls Try.prog 43 #[.slice T.a T.R.length T.c, .slice s.a s.l.length s.c] w fun e w' => e = .returned (.bool (hubB T.R.length s.l)) ∧ DrewTo w w' := by
  have hlim := row_lim0 hs
  have hlimT := tab_lim0 hT
  obtain ⟨n, hn⟩ : ∃ n, n = T.R.length := ⟨_, rfl⟩
  obtain ⟨m, hm⟩ : ∃ m, m = s.l.length := ⟨_, rfl⟩
  have HM := Lib.hid hm
  rw [← hn] at hlimT ⊢
  rw [← hm] at hlim ⊢
  have CI := Lib.hid (fun x W => l1In_any x 0 ((m : Int) - 1) W)
  have HNO : Hid ((m ≠ n ∨ s.l.all (upTo ((m : Int) - 1)) = false ∨ s.l.all (selfB s.l) = false) → hubB n s.l = false) := Lib.hid fun h => by
    unfold hubB
    rw [← hm]
    by_cases e : m = n
    · rw [← e]
      rcases h with h | h | h
      · exact absurd e h
      · rw [h]; simp
      · rw [h]; simp
    · rw [decide_eq_false e]; rfl
  by_cases h0 : m = 0
  · have HE : Hid (hubB n s.l = ((m : Int) == (n : Int))) := Lib.hid (by
      have : s.l = [] := List.eq_nil_of_length_eq_zero (by omega)
      unfold hubB
      rw [← hm, nat_eqB, this]; simp)
    rw [HE.out]
    clear hT hs hn hm HE HNO
    subst h0
    go_enter Try.func43, Try.ntmps43
    go_wp2
    go_loopw [5] (fun i wr => i = .int .i64 0 ∧ w = wr) (fun _ _ => 0)
    case atStart => exact ⟨rfl, rfl⟩
    case round =>
      obtain ⟨rfl, rfl⟩ := hrel
      go_wp2
      go_loopw [6] (fun i wr => i = .int .i64 0 ∧ w = wr) (fun _ _ => 0)
      case atStart => exact ⟨rfl, rfl⟩
      case round =>
        obtain ⟨rfl, rfl⟩ := hrel
        go_wp2
        go_ret
        exact ⟨rfl, DrewTo.refl _⟩
  obtain ⟨b, o, ha, _, hc⟩ := row_cell hs (by omega)
  rw [← hm] at hc
  have HC := Lib.hid (fun u (hu : DrewTo w u) => hc u hu.below)
  have hw1 : IntKind.i64.wrap ((m : Int) - 1) = (m : Int) - 1 := IntWalk.i64_in _ (by omega)
  rw [ha]
  clear hT hs hn hm ha hc h0
  go_enter Try.func43, Try.ntmps43
  go_wp2
  go_loopw [5] (fun i wr => ∃ k : Nat, k ≤ m ∧ i = .int .i64 k ∧ w = wr ∧ Hid ((s.l.take k).all (upTo ((m : Int) - 1)) = true)) (fun i _ => m - (intOf i).toNat)
  case atStart => exact ⟨0, Nat.zero_le _, rfl, rfl, Lib.hid (by simp)⟩
  case round =>
    obtain ⟨k, hk, rfl, rfl, HALL⟩ := hrel
    by_cases hlt : k < m
    · have hlti : (k : Int) < (m : Int) := by omega
      have hkl : k < s.l.length := by rw [← HM.out]; exact hlt
      obtain ⟨x, hx⟩ : ∃ x, x = s.l.getD k 0 := ⟨_, rfl⟩
      have hcl := HC.out w (DrewTo.refl _) k hlt
      rw [← hx] at hcl
      have hx2 : s.l[k] = x := by rw [hx, getD_at hkl]
      obtain ⟨v, hv⟩ : ∃ v, v = upTo ((m : Int) - 1) x := ⟨_, rfl⟩
      have C1 := Lib.hid (by have := CI.out x w; rw [show (decide (0 ≤ x) && decide (x ≤ (m : Int) - 1)) = upTo ((m : Int) - 1) x from rfl, ← hv] at this; exact this)
      cases v with
      | false =>
        have HE := Lib.hid (HNO.out (.inr (.inl (all_out hkl (by rw [hx2]; exact hv.symm)))))
        clear hx hx2 hv hkl
        go_wp2_with fail
        refine (show Calls _ _ _ _ _ from C1.out).mono ?_
        rintro e W ⟨rfl, rfl⟩
        go_wp2
        go_ret
        exact ⟨by rw [HE.out]; rfl, DrewTo.refl _⟩
      | true =>
        have HS := Lib.hid (all_take hkl HALL.out (by rw [hx2]; exact hv.symm))
        clear hx hx2 hv hkl
        go_wp2_with fail
        refine (show Calls _ _ _ _ _ from C1.out).mono ?_
        rintro e W ⟨rfl, rfl⟩
        go_wp2
        go_roundw
        case rel => exact ⟨k + 1, by omega, by go_num, by first | rfl | trivial, HS⟩
        case measure => simp [intOf]; omega
    · obtain rfl : k = m := by omega
      have HU : Hid (s.l.all (upTo ((k : Int) - 1)) = true) := Lib.hid (by have := HALL.out; rw [HM.out, List.take_length] at this; rw [HM.out]; exact this)
      go_wp2
      go_loopw [6] (fun i wr => ∃ j : Nat, j ≤ k ∧ i = .int .i64 j ∧ DrewTo w wr ∧ Hid ((s.l.take j).all (selfB s.l) = true)) (fun i _ => k - (intOf i).toNat)
      case atStart => exact ⟨0, Nat.zero_le _, rfl, DrewTo.refl _, Lib.hid (by simp)⟩
      case round =>
        obtain ⟨j, hj, rfl, hdw, HALL2⟩ := hrel
        by_cases hltj : j < k
        · have hltji : (j : Int) < (k : Int) := by omega
          have hjl : j < s.l.length := by rw [← HM.out]; exact hltj
          obtain ⟨x, hx⟩ : ∃ x, x = s.l.getD j 0 := ⟨_, rfl⟩
          have hx2 : s.l[j] = x := by rw [hx, getD_at hjl]
          have hxb := mem_upTo HU.out (by rw [← hx2]; exact List.getElem_mem hjl : x ∈ s.l)
          obtain ⟨p, rfl⟩ : ∃ p : Nat, x = p := ⟨x.toNat, by omega⟩
          have hpk : p < k := by omega
          have hpki : (p : Int) < (k : Int) := by omega
          have hc1 := HC.out wr hdw j hltj
          rw [← hx] at hc1
          obtain ⟨y, hy⟩ : ∃ y, y = s.l.getD p 0 := ⟨_, rfl⟩
          have hc2 := HC.out wr hdw p hpk
          rw [← hy] at hc2
          by_cases hyp : y = (p : Int)
          · have hne : (y != (p : Int)) = false := by rw [hyp]; simp
            have HS := Lib.hid (all_take (p := selfB s.l) hjl HALL2.out (by rw [hx2]; unfold selfB; rw [Int.toNat_natCast, ← hy]; exact decide_eq_true hyp))
            clear hx hx2 hy hyp hjl hxb
            go_wp2
            go_quiet (fail)
            go_wp2
            go_roundw
            case rel => exact ⟨j + 1, by omega, by go_num, hdw.more _, HS⟩
            case measure => simp [intOf]; omega
          · have hne : (y != (p : Int)) = true := by simp [hyp]
            have HE := Lib.hid (HNO.out (.inr (.inr (all_out (p := selfB s.l) hjl (by rw [hx2]; unfold selfB; rw [Int.toNat_natCast, ← hy]; exact decide_eq_false hyp)))))
            clear hx hx2 hy hyp hjl hxb
            go_wp2
            go_quiet (fail)
            go_wp2
            go_ret
            exact ⟨by rw [HE.out]; rfl, hdw.more _⟩
        · obtain rfl : j = k := by omega
          have HE : Hid (hubB n s.l = ((j : Int) == (n : Int))) := Lib.hid (by
            have h2 := HALL2.out
            rw [HM.out, List.take_length] at h2
            have h1 := HU.out
            unfold hubB
            rw [← HM.out, nat_eqB, h2]
            by_cases e : j = n
            · rw [← e, h1]; simp
            · simp [e])
          go_wp2
          go_ret
          exact ⟨by rw [HE.out]; rfl, hdw⟩
end Go.Proofs.Ytmbgipllkbahpaa
