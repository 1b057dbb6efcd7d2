/- Whether two lists are a line: the model's side. Condition: both lists read as such. -/
import Derived.Test.YtfgedolngcdjpaaLineValid
import Derived.BigQuiet
namespace Go.Proofs.Ytfgedolngcdjpaa
open Go.RowKit Go.Shelf

/-- The first k clients are fit. -/
def fitTo (l : List Int) (k : Nat) : Prop := ∀ i, i < k → (0 ≤ l.getD i 0 ∧ l.getD i 0 ≤ 99) ∧ (0 < i → l.getD (i - 1) 0 ≤ l.getD i 0)
theorem fit_iff (l : List Int) : (l.all (upTo 99) && sortedB l) = true ↔ fitTo l l.length := by
  rw [Bool.and_eq_true, sortedB_iff, List.all_eq_true]
  constructor
  · intro ⟨h1, h2⟩ i hi
    have e : l.getD i 0 = l[i] := by rw [List.getD_eq_getElem?_getD, List.getElem?_eq_getElem hi]; rfl
    have h3 := h1 _ (List.getElem_mem hi)
    unfold upTo at h3
    simp only [Bool.and_eq_true, decide_eq_true_eq] at h3
    refine ⟨by rw [e]; exact h3, fun h0 => ?_⟩
    have := h2 (i - 1) (Nat.zero_le _) (by omega)
    rwa [show i - 1 + 1 = i by omega] at this
  · intro h
    refine ⟨fun x hx => ?_, fun i _ hi => ?_⟩
    · obtain ⟨i, hi, rfl⟩ := List.mem_iff_getElem.1 hx
      have e : l.getD i 0 = l[i] := by rw [List.getD_eq_getElem?_getD, List.getElem?_eq_getElem hi]; rfl
      have := (h i hi).1
      rw [e] at this
      unfold upTo; simp [this]
    · have := (h (i + 1) hi).2 (by omega)
      rwa [Nat.add_sub_cancel] at this

theorem drew_trans2 {a b c : World} (h : DrewTo a b) (k : DrewTo b c) : DrewTo a c := by
  obtain ⟨d, rfl⟩ := h
  obtain ⟨e, rfl⟩ := k
  exact ⟨d + e, by rw [World.drewN_drewN]⟩

set_option maxRecDepth 16000 in
set_option maxHeartbeats 3000000 in
theorem l4Line_any (s c : Row) (w : World) (hs : s.At w) (hc : c.At w) (hcm : c.l.length ≤ 1048576) :
    Calls Try.prog 25 #[.slice s.a s.l.length s.c, .slice c.a c.l.length c.c] w fun e w' => e = .returned (.bool (lineB s.l c.l)) ∧ DrewTo w w' := by
  obtain ⟨a, cc, l⟩ := c
  obtain ⟨q1, q2, q3⟩ := hc
  simp only at q1 q2 q3 hcm ⊢
  obtain ⟨n, hn⟩ : ∃ n, n = l.length := ⟨_, rfl⟩
  have hni : (n : Int) ≤ 1048576 := by omega
  have HN := Lib.hid hn
  have HR := Lib.hid q3
  obtain ⟨m, hm⟩ : ∃ m, m = s.l.length := ⟨_, rfl⟩
  have HM := Lib.hid hm
  have hmi : (m : Int) ≤ 9223372036854775807 := by obtain ⟨q1, q2, _⟩ := hs; rw [iv_length] at q1; unfold maxLen at q2; omega
  have hs2 := Lib.hid (fun u (hu : DrewTo w u) => hs.on hu.below)
  have CI := Lib.hid (fun x a b W => l1In_any x a b W)
  have HLB : Hid (lineB s.l l = (decide (1 ≤ m) && (decide (m ≤ 7) && (decide (n ≤ 7) && (setB 100 s.l && (l.all (upTo 99) && sortedB l)))))) := Lib.hid (by rw [hm, hn]; rfl)
  rw [← hn, ← hm]
  clear q1 q2 q3 hn hm hs hcm
  go_enter Try.func25, Try.ntmps25
  go_wp2
  go_loopw [5] (fun i wr => ∃ k : Nat, k ≤ n ∧ i = .int .i64 k ∧ Hid (fitTo l k) ∧ DrewTo w wr) (fun i _ => n - (intOf i).toNat)
  case atStart => exact ⟨0, Nat.zero_le _, rfl, Lib.hid (fun i hi => absurd hi (Nat.not_lt_zero _)), DrewTo.refl _⟩
  case round =>
    obtain ⟨k, hk, rfl, HF, hdw⟩ := hrel
    by_cases hlt : k < n
    · have hlti : (k : Int) < (n : Int) := by omega
      have hkl : k < l.length := by rw [← HN.out]; exact hlt
      rcases HR.out with h3 | ⟨b, o, rfl, hb, hcell⟩
      · have h3' := congrArg List.length (iv_nil h3); rw [List.length_nil] at h3'; omega
      obtain ⟨x, hx⟩ : ∃ x, x = l.getD k 0 := ⟨_, rfl⟩
      have c1 : wr.cell? ⟨b, o + k, none⟩ = some (.int .i64 x) := by
        rw [hdw.cell, hcell k _ (iv_at hkl), hx, List.getD_eq_getElem?_getD, List.getElem?_eq_getElem hkl]; rfl
      have HXX := Lib.hid hx
      obtain ⟨v, hv⟩ : ∃ v, v = (decide ((0 : Int) ≤ x) && decide (x ≤ 99)) := ⟨_, rfl⟩
      have C1 := Lib.hid (fun W => by have := CI.out x 0 99 W; rw [← hv] at this; exact this : ∀ W, Calls Try.prog 26 #[.int .i64 x, .int .i64 0, .int .i64 99] W fun e w' => e = .returned (.bool v) ∧ w' = W)
      have HVV := Lib.hid hv
      clear hx hv
      cases v with
      | false =>
        have HE : Hid (lineB s.l l = false) := Lib.hid (by
          rw [HLB.out]
          by_cases h : (l.all (upTo 99) && sortedB l) = true
          · have := ((fit_iff l).1 h k hkl).1
            rw [← HXX.out] at this
            have h2 := HVV.out
            rw [decide_eq_true this.1, decide_eq_true this.2] at h2; cases h2
          · rw [show (l.all (upTo 99) && sortedB l) = false by simpa using h]; simp)
        clear hcell
        go_wp2
        go_quiet ((go_at_call 26; exact Calls.quiet_of_same (C1.out _)))
        have HD := Lib.hid (hdw.more nq)
        go_wp2
        go_ret
        exact ⟨by rw [HE.out]; rfl, HD.out⟩
      | true =>
        have hxr : 0 ≤ x ∧ x ≤ 99 := by have := HVV.out.symm; simpa using this
        have HXR := Lib.hid hxr
        by_cases hk0 : 0 < k
        · have hki : (0 : Int) < (k : Int) := by omega
          obtain ⟨q, rfl⟩ : ∃ q, k = q + 1 := ⟨k - 1, by omega⟩
          obtain ⟨y, hy⟩ : ∃ y, y = l.getD q 0 := ⟨_, rfl⟩
          have c2 : wr.cell? ⟨b, o + q, none⟩ = some (.int .i64 y) := by
            rw [hdw.cell, hcell q _ (iv_at (by omega)), hy, List.getD_eq_getElem?_getD, List.getElem?_eq_getElem (by omega)]; rfl
          have HYY := Lib.hid hy
          have hsub : ((q + 1 : Nat) : Int) - 1 = (q : Int) := by omega
          have hq0 : 0 ≤ (q : Int) := by omega
          have hqn : (q : Int) < (n : Int) := by omega
          clear hy hcell hxr
          by_cases hxy : x < y
          · have HE : Hid (lineB s.l l = false) := Lib.hid (by
              rw [HLB.out]
              by_cases h : (l.all (upTo 99) && sortedB l) = true
              · have := ((fit_iff l).1 h (q + 1) hkl).2 (by omega)
                rw [Nat.add_sub_cancel, ← HXX.out, ← HYY.out] at this; omega
              · rw [show (l.all (upTo 99) && sortedB l) = false by simpa using h]; simp)
            go_wp2
            go_quiet ((go_at_call 26; exact Calls.quiet_of_same (C1.out _)))
            have HD := Lib.hid (hdw.more nq)
            go_wp2
            go_ret
            exact ⟨by rw [HE.out]; rfl, HD.out⟩
          · have HFN : Hid (fitTo l (q + 1 + 1)) := Lib.hid (fun i hi => by
              by_cases e : i = q + 1
              · subst e
                rw [Nat.add_sub_cancel, ← HXX.out, ← HYY.out]
                exact ⟨HXR.out, fun _ => by omega⟩
              · exact HF.out i (by omega))
            go_wp2
            go_quiet ((go_at_call 26; exact Calls.quiet_of_same (C1.out _)))
            have HD := Lib.hid (hdw.more nq)
            go_wp2
            go_roundw
            case rel => exact ⟨q + 1 + 1, by omega, by go_num, HFN, HD.out⟩
            case measure => simp [intOf]; omega
        · have HK0 : Hid (k = 0) := Lib.hid (by omega)
          have HFN : Hid (fitTo l (k + 1)) := Lib.hid (fun i hi => by
            have h0 := HK0.out
            obtain rfl : i = k := by omega
            rw [← HXX.out]
            exact ⟨HXR.out, fun h => by omega⟩)
          clear hcell hxr hk0
          go_wp2
          have hki : decide (0 < k) = false := decide_eq_false (by have := HK0.out; omega)
          go_quiet ((go_at_call 26; exact Calls.quiet_of_same (C1.out _)))
          have HD := Lib.hid (hdw.more nq)
          go_wp2
          go_roundw
          case rel => exact ⟨k + 1, by omega, by go_num, HFN, HD.out⟩
          case measure => simp [intOf]; omega
    · obtain rfl : k = n := by omega
      have hfit : (l.all (upTo 99) && sortedB l) = true := (fit_iff l).2 (by rw [← HN.out]; exact HF.out)
      have HLC : Hid (lineB s.l l = (decide (1 ≤ m) && (decide (m ≤ 7) && (decide (k ≤ 7) && setB 100 s.l)))) := Lib.hid (by rw [HLB.out, hfit]; simp)
      have CM := Lib.hid (fun W => CI.out (m : Int) 1 7 W)
      have CR := Lib.hid (rising_any s 100 wr (hs2.out wr hdw) (by decide))
      clear hfit
      obtain ⟨g1, hg1⟩ : ∃ g, g = (decide ((1 : Int) ≤ (m : Int)) && decide ((m : Int) ≤ 7)) := ⟨_, rfl⟩
      have HG1 := Lib.hid hg1
      have CM1 := Lib.hid (by have := CM.out wr; rw [← hg1] at this; exact this)
      clear hg1
      go_wp2_with fail
      refine (show Calls _ _ _ _ _ from CM1.out).mono ?_
      rintro e W5 ⟨rfl, rfl⟩
      cases g1 with
      | false =>
        have HE : Hid (lineB s.l l = false) := Lib.hid (by
          rw [HLC.out]
          have h := HG1.out.symm
          rw [Bool.and_eq_false_iff, decide_eq_false_iff_not, decide_eq_false_iff_not] at h
          rcases h with h | h
          · rw [decide_eq_false (show ¬ 1 ≤ m by omega)]; rfl
          · rw [decide_eq_false (show ¬ m ≤ 7 by omega)]; simp)
        go_wp2
        go_ret
        exact ⟨by rw [HE.out]; rfl, hdw⟩
      | true =>
        have hm17 : 1 ≤ m ∧ m ≤ 7 := by have h := HG1.out.symm; simp at h; omega
        have HLD : Hid (lineB s.l l = (decide (k ≤ 7) && setB 100 s.l)) := Lib.hid (by rw [HLC.out, decide_eq_true hm17.1, decide_eq_true hm17.2]; simp)
        obtain ⟨g2, hg2⟩ : ∃ g, g = setB 100 s.l := ⟨_, rfl⟩
        rw [← hg2] at HLD CR
        clear hg2
        rw [show s.l.length = m from HM.out.symm] at CR
        go_wp2_with fail
        refine (show Calls _ _ _ _ _ from CR.out).mono ?_
        rintro e W6 ⟨rfl, hd6⟩
        have HD6 := Lib.hid (drew_trans2 hdw hd6)
        clear hd6
        cases g2 with
        | false =>
          have HE : Hid (lineB s.l l = false) := Lib.hid (by rw [HLD.out]; simp)
          go_wp2
          go_ret
          exact ⟨by rw [HE.out]; rfl, HD6.out⟩
        | true =>
          have HE : Hid (lineB s.l l = decide (k ≤ 7)) := Lib.hid (by rw [HLD.out]; simp)
          go_wp2
          go_ret
          exact ⟨by rw [HE.out]; congr 2; simp; omega, HD6.out⟩
end Go.Proofs.Ytfgedolngcdjpaa
