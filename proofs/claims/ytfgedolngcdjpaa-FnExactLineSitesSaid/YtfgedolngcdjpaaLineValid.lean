/- Whether two lists are a line: the program's side. Condition: both lists read as such. -/
import Derived.Test.YtfgedolngcdjpaaSets
import Derived.Test.YtfgedolngcdjpaaShelf
namespace Go.Proofs.Ytfgedolngcdjpaa
open Go.RowKit Go.Shelf

/-- No number is less than the one before it. -/
def sortedB (l : List Int) : Bool := (List.range (l.length - 1)).all fun i => decide (l.getD i 0 ≤ l.getD (i + 1) 0)
/-- From the place k on upwards, no number is less than the one before it. -/
def sortedFrom (l : List Int) (k : Nat) : Prop := ∀ i, k ≤ i → i + 1 < l.length → l.getD i 0 ≤ l.getD (i + 1) 0
theorem sortedB_iff (l : List Int) : sortedB l = true ↔ sortedFrom l 0 := by
  unfold sortedB sortedFrom
  rw [List.all_eq_true]
  constructor
  · intro h i _ hi
    simpa using h i (List.mem_range.2 (by omega))
  · intro h i hi
    have := List.mem_range.1 hi
    simpa using h i (Nat.zero_le _) (by omega)

set_option maxRecDepth 16000 in
set_option maxHeartbeats 2000000 in
theorem isSorted_any (s : Row) (w : World) (hs : s.At w) (h7 : s.l.length ≤ 7) :
    Calls Try.prog 52 #[.slice s.a s.l.length s.c] w fun e w' => e = .returned (.bool (sortedB s.l)) ∧ Below w.heap.size w w' := by
  obtain ⟨a, c, l⟩ := s
  obtain ⟨q1, q2, q3⟩ := hs
  simp only at q1 q2 q3 h7 ⊢
  obtain ⟨n, hn⟩ : ∃ n, n = l.length := ⟨_, rfl⟩
  have hni : (n : Int) ≤ 7 := by omega
  rcases q3 with h3 | ⟨b, o, rfl, hb, hcell⟩
  · have hl0 : l = [] := iv_nil h3
    subst hl0
    have HE : Hid (sortedB [] = true) := Lib.hid rfl
    clear hn h3
    go_enter Try.func52, Try.ntmps52
    go_wp2
    go_loopw [3] (fun i wr => i = .int .i64 (-1) ∧ wr = w) (fun _ _ => 0)
    case atStart => exact ⟨rfl, rfl⟩
    case round =>
      obtain ⟨rfl, rfl⟩ := hrel
      go_wp2
      go_ret
      exact ⟨by rw [HE.out]; rfl, Below.refl _ _⟩
  · have HC := Lib.hid (fun j (hj : j < l.length) => hcell j _ (iv_at hj))
    have HN := Lib.hid hn
    rw [← hn]
    have hnp : 0 ≤ (n : Int) := by omega
    by_cases h0 : n = 0
    · have HE : Hid (sortedB l = true) := Lib.hid (by
        have : l = [] := List.eq_nil_of_length_eq_zero (by rw [← hn, h0])
        rw [this]; rfl)
      subst h0
      clear hn hcell q1
      go_enter Try.func52, Try.ntmps52
      go_wp2
      go_loopw [3] (fun i wr => i = .int .i64 (-1) ∧ wr = w) (fun _ _ => 0)
      case atStart => exact ⟨rfl, rfl⟩
      case round =>
        obtain ⟨rfl, rfl⟩ := hrel
        go_wp2
        go_ret
        exact ⟨by rw [HE.out]; rfl, Below.refl _ _⟩
    · have hnm : ((n - 1 : Nat) : Int) = (n : Int) - 1 := by omega
      have HNM := Lib.hid hnm
      clear hn hcell q1 hnm
      go_enter Try.func52, Try.ntmps52
      go_wp2
      go_loopw [3] (fun i wr => ∃ k : Nat, k ≤ n - 1 ∧ i = .int .i64 (k : Int) ∧ Hid (sortedFrom l k) ∧ DrewTo w wr) (fun i _ => (intOf i).toNat)
      case atStart => exact ⟨n - 1, Nat.le_refl _, by rw [HNM.out], Lib.hid (fun i h1 h2 => by have := HN.out; omega), DrewTo.refl _⟩
      case round =>
        obtain ⟨k, hk, rfl, HSF, hdw⟩ := hrel
        by_cases hk0 : 0 < k
        · have hki : (0 : Int) < (k : Int) := by omega
          have hkn : (k : Int) < (n : Int) := by omega
          obtain ⟨q, rfl⟩ : ∃ q, k = q + 1 := ⟨k - 1, by omega⟩
          obtain ⟨x, hx⟩ : ∃ x, x = l.getD (q + 1) 0 := ⟨_, rfl⟩
          obtain ⟨y, hy⟩ : ∃ y, y = l.getD q 0 := ⟨_, rfl⟩
          have hql : q + 1 < l.length := by have := HN.out; omega
          have c1 : wr.cell? ⟨b, o + (q + 1), none⟩ = some (.int .i64 x) := by
            rw [hdw.cell, HC.out (q + 1) hql, hx, List.getD_eq_getElem?_getD, List.getElem?_eq_getElem hql]; rfl
          have c2 : wr.cell? ⟨b, o + q, none⟩ = some (.int .i64 y) := by
            rw [hdw.cell, HC.out q (by omega), hy, List.getD_eq_getElem?_getD, List.getElem?_eq_getElem (by omega)]; rfl
          have HXX := Lib.hid hx
          have HYY := Lib.hid hy
          have hsub : ((q + 1 : Nat) : Int) - 1 = (q : Int) := by omega
          have hq0 : 0 ≤ (q : Int) := by omega
          have hqn : (q : Int) < (n : Int) := by omega
          clear hx hy
          by_cases hxy : x < y
          · have HE : Hid (sortedB l = false) := Lib.hid (by
              by_cases h : sortedB l = true
              · have := (sortedB_iff l).1 h q (Nat.zero_le _) hql
                rw [← HXX.out, ← HYY.out] at this; omega
              · simpa using h)
            have CL := Lib.hid (fun W => by have := Try.cmp_Less_int2 x y W; rw [decide_eq_true hxy] at this; exact this : ∀ W, Calls Try.prog 77 #[.int .i64 x, .int .i64 y] W fun e w' => e = .returned (.bool true) ∧ w' = W)
            clear hxy
            go_wp2
            go_quiet ((go_at_call 77; exact Calls.quiet_of_same (CL.out _)))
            have HD := Lib.hid (hdw.more nq)
            go_wp2
            go_ret
            exact ⟨by rw [HE.out]; rfl, HD.out.below⟩
          · have CL := Lib.hid (fun W => by have := Try.cmp_Less_int2 x y W; rw [decide_eq_false hxy] at this; exact this : ∀ W, Calls Try.prog 77 #[.int .i64 x, .int .i64 y] W fun e w' => e = .returned (.bool false) ∧ w' = W)
            have HSN : Hid (sortedFrom l q) := Lib.hid (fun i h1 h2 => by
              by_cases e : i = q
              · subst e; rw [← HXX.out, ← HYY.out]; omega
              · exact HSF.out i (by omega) h2)
            have HSB := Lib.hid hsub
            clear hxy
            go_wp2
            go_quiet ((go_at_call 77; exact Calls.quiet_of_same (CL.out _)))
            have HD := Lib.hid (hdw.more nq)
            go_wp2
            go_roundw
            case rel => exact ⟨q, by omega, by first | rfl | (congr 1; omega), HSN, HD.out⟩
            case measure => simp [intOf]
        · obtain rfl : k = 0 := by omega
          have HE : Hid (sortedB l = true) := Lib.hid ((sortedB_iff l).2 HSF.out)
          go_wp2
          go_ret
          exact ⟨by rw [HE.out]; rfl, hdw.below⟩

/-- A line. -/
def lineB (s c : List Int) : Bool := decide (1 ≤ s.length) && (decide (s.length ≤ 7) && (decide (c.length ≤ 7) && (setB 100 s && (c.all (upTo 99) && sortedB c))))

set_option maxRecDepth 16000 in
set_option maxHeartbeats 2000000 in
theorem lineValid_any (s c : Row) (w : World) (hs : s.At w) (hc : c.At w) :
    Calls Try.prog 33 #[.agg #[.slice s.a s.l.length s.c, .slice c.a c.l.length c.c]] w fun e w' => e = .returned (.bool (lineB s.l c.l)) ∧ Below w.heap.size w w' := by
  obtain ⟨wA, hA⟩ : ∃ u, u = w.alloc (Obj.cells #[.slice s.a s.l.length s.c, .slice c.a c.l.length c.c] 49) := ⟨_, rfl⟩
  have hbA : Below w.heap.size w wA := by rw [hA]; exact below_alloc _ _
  have bx : Box2 wA w.heap.size (.slice s.a s.l.length s.c) (.slice c.a c.l.length c.c) 49 := by rw [hA]; exact Box2.made w _ _ _
  have HA := Lib.hid hA
  have HBX := Lib.hid bx
  have x0 := bx.c0
  have x1 := bx.c1
  rw [hA] at x0 x1
  have hsl : (s.l.length : Int) ≤ 9223372036854775807 := by obtain ⟨q1, q2, _⟩ := hs; rw [iv_length] at q1; unfold maxLen at q2; omega
  have hcl : (c.l.length : Int) ≤ 9223372036854775807 := by obtain ⟨q1, q2, _⟩ := hc; rw [iv_length] at q1; unfold maxLen at q2; omega
  obtain ⟨r1, hr1⟩ : ∃ r, r = setB 100 s.l := ⟨_, rfl⟩
  obtain ⟨r2, hr2⟩ : ∃ r, r = c.l.all (upTo 99) := ⟨_, rfl⟩
  obtain ⟨r3, hr3⟩ : ∃ r, r = sortedB c.l := ⟨_, rfl⟩
  have CA := Lib.hid (by have := ascends_any s 100 wA (hs.on hbA) (by decide); rw [← hr1] at this; exact this)
  have CW := Lib.hid (by have := allWithin_any c wA (hc.on hbA); rw [← hr2] at this; exact this)
  have CS := Lib.hid (fun (h7 : c.l.length ≤ 7) u (hu : Below wA.heap.size wA u) => by have := isSorted_any c u ((hc.on hbA).on hu) h7; rw [← hr3] at this; exact this : c.l.length ≤ 7 → ∀ u, Below wA.heap.size wA u → Calls Try.prog 52 #[.slice c.a c.l.length c.c] u fun e w' => e = .returned (.bool r3) ∧ Below u.heap.size u w')
  have HL : Hid (lineB s.l c.l = (decide (1 ≤ s.l.length) && (decide (s.l.length ≤ 7) && (decide (c.l.length ≤ 7) && (r1 && (r2 && r3)))))) := Lib.hid (by rw [hr1, hr2, hr3]; rfl)
  have hwA := hbA.size
  clear hs hc hA bx hr1 hr2 hr3
  by_cases h1 : (s.l.length : Int) < 1
  · have HE : Hid (lineB s.l c.l = false) := Lib.hid (by rw [HL.out, decide_eq_false (by omega)]; rfl)
    go_enter Try.func33, Try.ntmps33
    go_wp2
    go_ret
    rw [← HA.out]
    exact ⟨by rw [HE.out]; rfl, hbA⟩
  by_cases h2 : (7 : Int) < (s.l.length : Int)
  · have HE : Hid (lineB s.l c.l = false) := Lib.hid (by rw [HL.out, decide_eq_false (show ¬ s.l.length ≤ 7 by omega)]; simp)
    go_enter Try.func33, Try.ntmps33
    go_wp2
    go_ret
    rw [← HA.out]
    exact ⟨by rw [HE.out]; rfl, hbA⟩
  by_cases h3 : (7 : Int) < (c.l.length : Int)
  · have HE : Hid (lineB s.l c.l = false) := Lib.hid (by rw [HL.out, decide_eq_false (show ¬ c.l.length ≤ 7 by omega)]; simp)
    go_enter Try.func33, Try.ntmps33
    go_wp2
    go_ret
    rw [← HA.out]
    exact ⟨by rw [HE.out]; rfl, hbA⟩
  have HE : Hid (lineB s.l c.l = (r1 && (r2 && r3))) := Lib.hid (by rw [HL.out, decide_eq_true (show 1 ≤ s.l.length by omega), decide_eq_true (show s.l.length ≤ 7 by omega), decide_eq_true (show c.l.length ≤ 7 by omega)]; simp)
  have CS1 := Lib.hid (CS.out (by omega))
  clear CS HL
  go_enter Try.func33, Try.ntmps33
  go_wp2_with fail
  rw [← HA.out]
  refine (show Calls _ _ _ _ _ from CA.out).mono ?_
  rintro e W1 ⟨rfl, rfl⟩
  clear x0 x1
  have x0 := HBX.out.c0
  have x1 := HBX.out.c1
  cases r1 with
  | false =>
    go_wp2
    go_ret
    exact ⟨by rw [HE.out]; rfl, hbA⟩
  | true =>
    go_wp2_with fail
    refine (show Calls _ _ _ _ _ from CW.out).mono ?_
    rintro e W2 ⟨rfl, hb2⟩
    have HB2 := Lib.hid hb2
    clear x0 x1 hb2
    cases r2 with
    | false =>
      go_wp2
      go_ret
      exact ⟨by rw [HE.out]; rfl, hbA.trans (HB2.out.mono hwA)⟩
    | true =>
      have x1 := (HBX.out.on HB2.out).c1
      have CS2 := Lib.hid (CS1.out _ HB2.out)
      have hW2 := HB2.out.size
      go_wp2_with fail
      refine (show Calls _ _ _ _ _ from CS2.out).mono ?_
      rintro e W3 ⟨rfl, hb3⟩
      go_wp2
      go_ret
      exact ⟨by rw [HE.out]; simp, (hbA.trans (HB2.out.mono hwA)).trans (hb3.mono (by omega))⟩
end Go.Proofs.Ytfgedolngcdjpaa
