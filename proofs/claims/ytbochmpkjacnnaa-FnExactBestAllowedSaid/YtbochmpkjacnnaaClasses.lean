/- Classes and limits: plain, and the contracts of both sides' tests. Condition: the lists read as such. -/
import Derived.Test.YtbochmpkjacnnaaTable
import Derived.Test.YtbochmpkjacnnaaWithin
import Derived.Test.YtbochmpkjacnnaaServe
import Derived.Test.YtbochmpkjacnnaaPlainWorth
namespace Go.Proofs.Ytbochmpkjacnnaa
open Go.RowKit Go.Shelf

/-- Classes for n sites and limits. -/
def classB (n : Nat) (cl lm : List Int) : Bool := (cl.all (upTo 6) && decide (cl.length = n)) && (lm.all (upTo 7) && decide (lm.length = 7))
theorem classB_iff {n : Nat} {cl lm : List Int} : classB n cl lm = true ↔ ((∀ x ∈ cl, 0 ≤ x ∧ x ≤ 6) ∧ cl.length = n) ∧ ((∀ x ∈ lm, 0 ≤ x ∧ x ≤ 7) ∧ lm.length = 7) := by
  unfold classB; simp [List.all_eq_true, upTo_iff]
/-- How many of some sites are of a class. -/
def cntC (cl : List Int) (T : List Nat) (c : Nat) : Nat := (T.filter fun m => decide (cl.getD m 0 = (c : Int))).length
theorem cntC_step {cl : List Int} {T : List Nat} {k : Nat} (h : k < T.length) (c : Nat) : cntC cl (T.take (k + 1)) c = cntC cl (T.take k) c + (if cl.getD T[k] 0 = (c : Int) then 1 else 0) := by
  unfold cntC
  rw [List.take_succ_eq_append_getElem h, List.filter_append, List.length_append]
  congr 1
  rw [List.filter_cons]
  split <;> simp_all
theorem cntC_le (cl : List Int) (T : List Nat) (c k : Nat) : cntC cl (T.take k) c ≤ k := by
  unfold cntC
  exact Nat.le_trans (List.length_filter_le _ _) (by rw [List.length_take]; omega)
def allowB (cl lm : List Int) (T : List Nat) : Bool := (List.range 7).all fun c => decide ((cntC cl T c : Int) ≤ lm.getD c 0)
/-- What is left of the limits behind the first k sites. -/
def leftL (cl lm : List Int) (T : List Nat) (k : Nat) : List Int := (List.range 7).map fun c => lm.getD c 0 - (cntC cl (T.take k) c : Int)
theorem left_len (cl lm : List Int) (T : List Nat) (k : Nat) : (leftL cl lm T k).length = 7 := by simp [leftL]
theorem left_at (cl lm : List Int) (T : List Nat) (k : Nat) {c : Nat} (h : c < 7) : (leftL cl lm T k)[c]'(by rw [left_len]; exact h) = lm.getD c 0 - (cntC cl (T.take k) c : Int) := by simp [leftL]
theorem left_zero {cl lm : List Int} {T : List Nat} (h : lm.length = 7) : leftL cl lm T 0 = lm := by
  refine List.ext_getElem (by rw [left_len, h]) fun i h1 h2 => ?_
  rw [left_at _ _ _ _ (by rw [left_len] at h1; exact h1), getD_at h2]
  simp [cntC]
theorem left_step {cl lm : List Int} {T : List Nat} {k q : Nat} (h : k < T.length) (hq : cl.getD T[k] 0 = (q : Int)) (hq7 : q < 7) : (leftL cl lm T k).set q ((leftL cl lm T k)[q]'(by rw [left_len]; exact hq7) - 1) = leftL cl lm T (k + 1) := by
  refine List.ext_getElem (by rw [List.length_set, left_len, left_len]) fun i h1 h2 => ?_
  rw [left_len] at h2
  rw [List.getElem_set]
  split
  · next e =>
    subst e
    rw [left_at _ _ _ _ h2, left_at _ _ _ _ h2, cntC_step h, if_pos hq]
    omega
  · next e =>
    rw [left_at _ _ _ _ h2, left_at _ _ _ _ h2, cntC_step h, if_neg (by rw [hq]; omega)]
    omega
theorem left_min (cl lm : List Int) (T : List Nat) : decide (0 ≤ Lib.minOf (leftL cl lm T T.length)) = allowB cl lm T := by
  rw [Bool.eq_iff_iff, decide_eq_true_iff]
  unfold allowB
  rw [List.all_eq_true]
  have hl := left_len cl lm T T.length
  constructor
  · intro h c hc
    have hc7 := List.mem_range.1 hc
    have h1 := mn_le (List.getElem_mem (l := leftL cl lm T T.length) (n := c) (by rw [hl]; exact hc7))
    rw [left_at _ _ _ _ hc7, List.take_length] at h1
    exact decide_eq_true (by omega)
  · intro h
    have h1 := mn_mem (l := leftL cl lm T T.length) (by rw [hl]; omega)
    obtain ⟨c, hc, e⟩ := List.mem_iff_getElem.1 h1
    rw [hl] at hc
    have := of_decide_eq_true (h c (List.mem_range.2 hc))
    rw [← e, left_at _ _ _ _ hc, List.take_length]
    omega

theorem l2RowM_any (r : Row) (n : Nat) (m : Int) (w : World) (hr : r.At w) :
    Calls Try.prog 74 #[.slice r.a r.l.length r.c, .int .i64 n, .int .i64 m] w fun e w' => e = .returned (.bool (r.l.all (upTo m) && decide (r.l.length = n))) ∧ w' = w := by
  obtain ⟨a, c, l⟩ := r
  obtain ⟨h1, h2, h3⟩ := hr
  simp only at h1 h2 h3 ⊢
  rw [iv_length] at h1
  unfold maxLen at h2
  have hni : (l.length : Int) ≤ 9223372036854775807 := by omega
  have HR := Lib.hid h3
  clear h3
  have ci := Lib.hid fun x W => l1In_any x 0 m W
  go_enter Try.func74, Try.ntmps74
  go_wp2
  go_loopw [7] (fun i wr => ∃ k : Nat, k ≤ l.length ∧ i = .int .i64 k ∧ w = wr ∧ (l.take k).all (upTo m) = true) (fun i _ => l.length - (intOf i).toNat)
  case atStart => exact ⟨0, Nat.zero_le _, rfl, rfl, by simp⟩
  case round =>
    obtain ⟨k, hk, rfl, rfl, hall⟩ := hrel
    have HALL := Lib.hid hall
    clear hall
    by_cases hlt : k < l.length
    · have hlti : (k : Int) < (l.length : Int) := by omega
      rcases HR.out with h3 | ⟨b, o, rfl, hb, hcell⟩
      · have h3' := congrArg List.length (iv_nil h3); rw [List.length_nil] at h3'; omega
      obtain ⟨x, hx⟩ : ∃ x, x = l[k] := ⟨_, rfl⟩
      have hcl : w.cell? ⟨b, o + k, none⟩ = some (.int .i64 x) := by rw [hx]; exact hcell k _ (iv_at hlt)
      have HX := Lib.hid hx
      clear hx hcell
      by_cases hp : upTo m x = true
      · have hp' : (decide (0 ≤ x) && decide (x ≤ m)) = true := hp
        have ci1 := Lib.hid (fun W => by have := ci.out x W; rw [hp'] at this; exact this : ∀ W, Calls Try.prog 69 #[.int .i64 x, .int .i64 0, .int .i64 m] W fun e w' => e = .returned (.bool true) ∧ w' = W)
        have HS : Hid ((l.take (k + 1)).all (upTo m) = true) := Lib.hid (all_take hlt HALL.out (by rw [← HX.out]; exact hp))
        clear hp hp'
        go_wp2_with fail
        refine (ci1.out _).mono ?_
        rintro e W ⟨rfl, rfl⟩
        go_wp2
        go_roundw
        case rel => exact ⟨k + 1, by omega, by go_num, by first | rfl | trivial, HS.out⟩
        case measure => simp [intOf]; omega
      · have hp1 : upTo m x = false := by simpa using hp
        have hp' : (decide (0 ≤ x) && decide (x ≤ m)) = false := hp1
        have ci1 := Lib.hid (fun W => by have := ci.out x W; rw [hp'] at this; exact this : ∀ W, Calls Try.prog 69 #[.int .i64 x, .int .i64 0, .int .i64 m] W fun e w' => e = .returned (.bool false) ∧ w' = W)
        have HS : Hid (l.all (upTo m) = false) := Lib.hid (all_out hlt (by rw [← HX.out]; exact hp1))
        clear hp hp' hp1
        go_wp2_with fail
        refine (ci1.out _).mono ?_
        rintro e W ⟨rfl, rfl⟩
        go_wp2
        go_ret
        exact ⟨by rw [HS.out]; rfl, rfl⟩
    · obtain rfl : k = l.length := by omega
      have HS := Lib.hid (all_end HALL.out)
      go_wp2
      go_ret
      exact ⟨by rw [HS.out, Bool.true_and, ← nat_eqB]; rfl, rfl⟩

set_option maxRecDepth 16000 in
set_option maxHeartbeats 1000000 in
theorem l8Classes_any (F : Fld) (c m : Row) (w : World) (hF : F.At w) (hc : c.At w) (hm : m.At w) :
    Calls Try.prog 45 #[.agg #[.slice F.o.a F.o.l.length F.o.c, .slice F.t.a F.t.R.length F.t.c], .slice c.a c.l.length c.c, .slice m.a m.l.length m.c] w fun e w' => e = .returned (.bool (classB F.o.l.length c.l m.l)) ∧ Below w.heap.size w w' := by
  obtain ⟨wA, hA, hbA, bx, hFA, hszA⟩ := laid_fld F w 29 hF
  have x0 : wA.cell? ⟨w.heap.size, 0, none⟩ = some (.slice F.o.a F.o.l.length F.o.c) := bx.c0
  rw [hA] at x0
  change (w.alloc (Obj.cells #[.slice F.o.a F.o.l.length F.o.c, .slice F.t.a F.t.R.length F.t.c] 29)).cell? _ = _ at x0
  obtain ⟨v, hv⟩ : ∃ v, v = (c.l.all (upTo 6) && decide (c.l.length = F.o.l.length)) := ⟨_, rfl⟩
  obtain ⟨u, hu⟩ : ∃ u, u = (m.l.all (upTo 7) && decide (m.l.length = 7)) := ⟨_, rfl⟩
  have hoi := rowLim hF.1
  have C1 := Lib.hid (by have := l2RowM_any c F.o.l.length 6 wA (hc.on hbA); rw [← hv] at this; exact this)
  have C2 := Lib.hid (by have := l2RowM_any m 7 7 wA (hm.on hbA); rw [← hu] at this; exact this)
  have HE : Hid (classB F.o.l.length c.l m.l = (v && u)) := Lib.hid (by rw [hv, hu]; rfl)
  have HA : Hid ((w.alloc (Obj.cells #[.slice F.o.a F.o.l.length F.o.c, .slice F.t.a F.t.R.length F.t.c] 29)) = wA) := Lib.hid hA.symm
  have HB := Lib.hid hbA
  clear hF hc hm hA bx hFA hszA hv hu hbA
  go_enter Try.func45, Try.ntmps45
  go_wp2_with fail
  rw [HA.out]
  clear x0
  refine (show Calls _ _ _ _ _ from C1.out).mono ?_
  rintro e W1 ⟨rfl, rfl⟩
  cases v with
  | false =>
    go_wp2
    go_ret
    exact ⟨by rw [HE.out]; rfl, HB.out⟩
  | true =>
    go_wp2_with fail
    refine (show Calls _ _ _ _ _ from C2.out).mono ?_
    rintro e W1 ⟨rfl, rfl⟩
    go_wp2
    go_ret
    exact ⟨by rw [HE.out]; rfl, HB.out⟩

/-- What is asked of classes, limits and a list of sites. -/
structure Classed (n : Nat) (c m s : Row) (T : List Nat) : Prop where
  ok : classB n c.l m.l = true
  set : s.l = up T
  lt : ∀ x ∈ T, x < n
  few : T.length ≤ 1048576
theorem Classed.cls {n : Nat} {c m s : Row} {T : List Nat} (h : Classed n c m s T) {x : Nat} (hx : x < n) : ∃ q : Nat, c.l.getD x 0 = (q : Int) ∧ q < 7 := by
  obtain ⟨⟨h1, h2⟩, _⟩ := classB_iff.1 h.ok
  have := h1 _ (List.getElem_mem (l := c.l) (n := x) (by omega))
  refine ⟨(c.l.getD x 0).toNat, ?_, ?_⟩
  · rw [getD_at (by omega)]; omega
  · rw [getD_at (by omega)]; omega
theorem Classed.lim {n : Nat} {c m s : Row} {T : List Nat} (h : Classed n c m s T) {x : Nat} (hx : x < 7) : 0 ≤ m.l.getD x 0 ∧ m.l.getD x 0 ≤ 7 := by
  obtain ⟨_, h1, h2⟩ := classB_iff.1 h.ok
  rw [getD_at (by omega)]
  exact h1 _ (List.getElem_mem _)

set_option maxRecDepth 100000 in
set_option maxHeartbeats 1500000 in
theorem l8Allowed_any (n : Nat) (c m s : Row) (T : List Nat) (w : World) (hc : c.At w) (hm : m.At w) (hs : s.At w) (hf : Classed n c m s T) :
    Calls Try.prog 46 #[.slice c.a c.l.length c.c, .slice m.a m.l.length m.c, .slice s.a s.l.length s.c] w fun e w' => e = .returned (.bool (allowB c.l m.l T)) ∧ Below w.heap.size w w' := by
  obtain ⟨⟨-, hcl⟩, -, hml⟩ := classB_iff.1 hf.ok
  have hsl : s.l.length = T.length := by rw [hf.set, up_length]
  obtain ⟨mb, mo, hma, _, hmc⟩ := rowCells hm (by omega)
  have HM : Hid (∀ q, q < 7 → w.cell? ⟨mb, mo + q, none⟩ = some (.int .i64 (m.l.getD q 0))) := Lib.hid fun q hq => hmc q (by omega)
  have HC : Hid (∀ k (hk : k < T.length), ∃ b o b2 o2, s.a = some ⟨b, o, none⟩ ∧ c.a = some ⟨b2, o2, none⟩ ∧ w.cell? ⟨b, o + k, none⟩ = some (.int .i64 (T[k] : Int)) ∧ w.cell? ⟨b2, o2 + T[k], none⟩ = some (.int .i64 (c.l.getD T[k] 0))) := Lib.hid fun k hk => by
    obtain ⟨b, o, h1, _, h2⟩ := rowCells hs (by omega)
    have hT := hf.lt _ (List.getElem_mem hk)
    obtain ⟨b2, o2, h3, _, h4⟩ := rowCells hc (by omega)
    refine ⟨b, o, b2, o2, h1, h3, ?_, h4 _ (by omega)⟩
    have := h2 k (by omega)
    rw [this]; congr 2
    rw [getD_at (by omega)]
    simp only [hf.set, up_at hk]
  have hTi : (T.length : Int) ≤ 1048576 := by have := hf.few; omega
  have hcli := rowLim hc
  have HF := Lib.hid hf
  have HLT : Hid (∀ k (hk : k < T.length), (T[k] : Int) < (c.l.length : Int)) := Lib.hid fun k hk => by have := hf.lt _ (List.getElem_mem hk); omega
  rw [hsl, hml, hma]
  clear hc hm hs hf hcl hml hsl hma hmc
  go_enter Try.func46, Try.ntmps46
  go_wp2
  go_loopw [7, 8, 9] (fun qv _ _ wr => ∃ q : Nat, q ≤ 7 ∧ qv = .int .i64 q ∧ w = wr ∧ Hid (∀ q', q' < q → (cntC c.l T q' : Int) ≤ m.l.getD q' 0)) (fun qv _ _ _ => 7 - (intOf qv).toNat)
  case atStart => exact ⟨0, Nat.zero_le _, rfl, rfl, Lib.hid fun i' h => by omega⟩
  case round =>
    obtain ⟨q, hq, rfl, rfl, HQ⟩ := hrel
    by_cases hlt : q < 7
    · have hlti : (q : Int) < 7 := by omega
      go_wp2
      go_loopw [8, 9] (fun nv iv wr => ∃ k : Nat, k ≤ T.length ∧ iv = .int .i64 k ∧ nv = .int .i64 (cntC c.l (T.take k) q : Nat) ∧ w = wr) (fun _ iv _ => T.length - (intOf iv).toNat)
      case atStart => exact ⟨0, Nat.zero_le _, rfl, rfl, rfl⟩
      case round =>
        obtain ⟨k, hk, rfl, rfl, rfl⟩ := hrel
        by_cases hlt2 : k < T.length
        · have hlti2 : (k : Int) < (T.length : Int) := by omega
          obtain ⟨b, o, b2, o2, ha, ha2, hc1, hc2⟩ := HC.out k hlt2
          obtain ⟨z, hz, hz7⟩ := HF.out.cls (HF.out.lt _ (List.getElem_mem hlt2))
          have hml := HLT.out k hlt2
          have HST := Lib.hid (cntC_step (cl := c.l) hlt2 q)
          rw [hz] at hc2
          obtain ⟨t, ht⟩ : ∃ t, t = T[k] := ⟨_, rfl⟩
          rw [← ht] at hc1 hc2 hml
          have hcb := cntC_le c.l T q k
          obtain ⟨n0, hn0⟩ : ∃ n0, n0 = cntC c.l (T.take k) q := ⟨_, rfl⟩
          rw [← hn0] at hcb ⊢
          have e2 : (n0 : Int) + 1 ≤ 9223372036854775807 := by omega
          have HN0 := Lib.hid hn0
          have HZ := Lib.hid hz
          rw [ha, ha2]
          clear ht hz hn0 ha ha2
          by_cases hzq : z = q
          · have hzqi : (z : Int) = (q : Int) := by omega
            have HNEW : Hid (cntC c.l (T.take (k + 1)) q = n0 + 1) := Lib.hid (by rw [HST.out, if_pos (by rw [HZ.out]; omega), HN0.out])
            clear hzq
            go_wp2
            go_roundw
            case rel => exact ⟨k + 1, by omega, by go_num, by rw [HNEW.out]; go_num, by first | rfl | trivial⟩
            case measure => simp [intOf]; omega
          · have hzqi : ¬ (z : Int) = (q : Int) := by omega
            have HNEW : Hid (cntC c.l (T.take (k + 1)) q = n0) := Lib.hid (by rw [HST.out, if_neg (by rw [HZ.out]; omega), HN0.out]; rfl)
            have he : ((z : Int) == (q : Int)) = false := by simp; omega
            clear hzq hzqi
            go_wp2
            go_roundw
            case rel => exact ⟨k + 1, by omega, by go_num, by rw [HNEW.out], by first | rfl | trivial⟩
            case measure => simp [intOf]; omega
        · obtain rfl : k = T.length := by omega
          have HT : Hid (cntC c.l (T.take T.length) q = cntC c.l T q) := Lib.hid (by rw [List.take_length])
          have hcq := HM.out q hlt
          obtain ⟨x, hx⟩ : ∃ x, x = m.l.getD q 0 := ⟨_, rfl⟩
          rw [← hx] at hcq
          obtain ⟨n0, hn0⟩ : ∃ n0, n0 = cntC c.l T q := ⟨_, rfl⟩
          rw [HT.out, ← hn0]
          have HX := Lib.hid hx
          have HN0 := Lib.hid hn0
          clear hx hn0
          by_cases hgt : (n0 : Int) ≤ x
          · have hgt' : ¬ (n0 : Int) > x := by omega
            have HQ2 : Hid (∀ q', q' < q + 1 → (cntC c.l T q' : Int) ≤ m.l.getD q' 0) := Lib.hid fun q' h' => by
              by_cases e : q' = q
              · rw [e, ← HX.out, ← HN0.out]; exact hgt
              · exact HQ.out q' (by omega)
            go_wp2
            go_roundw
            case rel => exact ⟨q + 1, by omega, by go_num, by first | rfl | trivial, HQ2⟩
            case measure => simp [intOf]; omega
          · have hgt' : (n0 : Int) > x := by omega
            have HE : Hid (allowB c.l m.l T = false) := Lib.hid (by unfold allowB; exact allOut hlt (decide_eq_false (by rw [← HX.out, ← HN0.out]; exact hgt)))
            go_wp2
            go_ret
            exact ⟨by rw [HE.out]; rfl, Below.refl _ _⟩
    · obtain rfl : q = 7 := by omega
      have HE : Hid (allowB c.l m.l T = true) := Lib.hid (by unfold allowB; exact allIn fun i hi => decide_eq_true (HQ.out i hi))
      go_wp2
      go_ret
      exact ⟨by rw [HE.out]; rfl, Below.refl _ _⟩
end Go.Proofs.Ytbochmpkjacnnaa
