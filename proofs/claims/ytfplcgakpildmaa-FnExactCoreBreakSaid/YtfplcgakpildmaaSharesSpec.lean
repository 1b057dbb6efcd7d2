/- Shares: whether they are valid, and the sums less the costs of all sets of clients, on both sides. Condition: the Field and the list read as such. -/
import Derived.Test.YtfplcgakpildmaaPairCostTable
namespace Go.Proofs.Ytfplcgakpildmaa
open Go.RowKit

def shareIn (x : Int) : Bool := decide (-1400 ≤ x) && decide (x ≤ 1400)
/-- Whether they are shares of the Field. -/
def sharesB (F : Fld) (p : List Int) : Bool := F.good && (decide (p.length = F.t.R.length) && p.all shareIn)
theorem like_len9 {F G : Fld} (h : G.Like F) : G.t.R.length = F.t.R.length := by have := congrArg List.length h.2; rw [con_length, con_length] at this; exact this
theorem sharesB_like {F G : Fld} (h : G.Like F) (p : List Int) : sharesB G p = sharesB F p := by unfold sharesB; rw [h.good, like_len9 h]
theorem sharesB_iff {F : Fld} {p : List Int} : sharesB F p = true ↔ F.good = true ∧ p.length = F.t.R.length ∧ ∀ x ∈ p, -1400 ≤ x ∧ x ≤ 1400 := by
  unfold sharesB shareIn
  simp [List.all_eq_true]
/-- The sums of the shares less the costs, by the codes of the sets. -/
def excess (F : Fld) (p : List Int) (c : Nat) : Int := subS p (bitsTo c F.t.R.length) - costC F c
def excessL (F : Fld) (p : List Int) : List Int := (List.range (2 ^ F.t.R.length)).map (excess F p)
theorem excessL_len (F : Fld) (p : List Int) : (excessL F p).length = 2 ^ F.t.R.length := by unfold excessL; simp
theorem excessL_at (F : Fld) (p : List Int) {c : Nat} (h : c < 2 ^ F.t.R.length) : (excessL F p)[c]'(by rw [excessL_len]; exact h) = excess F p c := by simp [excessL]

theorem share1_any (x : Int) (w : World) : Calls Try.prog 89 #[.int .i64 x] w fun e w' => e = .returned (.bool (!shareIn x)) ∧ w' = w := by
  unfold shareIn
  by_cases h1 : x < -1400
  · go_enter Try.func89, Try.ntmps89
    go_wp2
    go_ret
    exact ⟨by simp; try omega, rfl⟩
  · by_cases h2 : 1400 < x
    · go_enter Try.func89, Try.ntmps89
      go_wp2
      go_ret
      exact ⟨by simp; try omega, rfl⟩
    · go_enter Try.func89, Try.ntmps89
      go_wp2
      go_ret
      exact ⟨by simp; try omega, rfl⟩

set_option maxHeartbeats 600000 in
theorem indexShare_any (r : Row) (w : World) (hr : r.At w) :
    Calls Try.prog 97 #[.slice r.a r.l.length r.c, .func (.func 89) #[] #[]] w fun e w' => (∃ i : Int, e = .returned (.int .i64 i) ∧ decide (0 ≤ i) = !r.l.all shareIn) ∧ w' = w := by
  obtain ⟨a, c, l⟩ := r
  obtain ⟨h1, h2, h3⟩ := hr
  simp only at h1 h2 h3 ⊢
  rw [iv_length] at h1
  unfold maxLen at h2
  have hni : (l.length : Int) ≤ 9223372036854775807 := by omega
  have HR := Lib.hid h3
  have CO := Lib.hid fun x => share1_any x w
  clear h3
  show Calls _ _ #[_, .func (.func 89) #[] #[]] _ _
  go_enter Try.func97, Try.ntmps97
  go_wp2
  go_loopw [8] (fun i wr => ∃ k : Nat, k ≤ l.length ∧ i = .int .i64 k ∧ w = wr ∧ (l.take k).all shareIn = true) (fun i _ => l.length - (intOf i).toNat)
  case atStart => exact ⟨0, Nat.zero_le _, rfl, rfl, by simp⟩
  case round =>
    obtain ⟨k, hk, rfl, rfl, hall⟩ := hrel
    have HALL := Lib.hid hall
    clear hall
    by_cases hlt : k < l.length
    · have hlti : (k : Int) < (l.length : Int) := by omega
      rcases HR.out with h3 | ⟨b, o, rfl, hb, hcell⟩
      · have h3' := congrArg List.length (iv_nil h3); rw [List.length_nil] at h3'; omega
      obtain ⟨x, hx⟩ : ∃ x, x = l[k] := ⟨_, rfl⟩
      have hcl : w.cell? ⟨b, o + k, none⟩ = some (.int .i64 x) := by rw [hx]; exact hcell k _ (iv_at hlt)
      have HX := Lib.hid hx
      clear hx hcell
      by_cases hp : shareIn x = true
      · have ci1 := Lib.hid (by have := CO.out x; rw [hp] at this; exact this : Calls Try.prog 89 #[.int .i64 x] w fun e w' => e = .returned (.bool false) ∧ w' = w)
        have HS : Hid ((l.take (k + 1)).all shareIn = true) := Lib.hid (all_take hlt HALL.out (by rw [← HX.out]; exact hp))
        clear hp
        go_wp2_with fail
        refine ci1.out.mono ?_
        rintro e W ⟨rfl, rfl⟩
        go_wp2
        go_roundw
        case rel => exact ⟨k + 1, by omega, by go_num, by first | rfl | trivial, HS.out⟩
        case measure => simp [intOf]; omega
      · have hp1 : shareIn x = false := by simpa using hp
        have ci1 := Lib.hid (by have := CO.out x; rw [hp1] at this; exact this : Calls Try.prog 89 #[.int .i64 x] w fun e w' => e = .returned (.bool true) ∧ w' = w)
        have HS : Hid (l.all shareIn = false) := Lib.hid (all_out hlt (by rw [← HX.out]; exact hp1))
        clear hp hp1
        go_wp2_with fail
        refine ci1.out.mono ?_
        rintro e W ⟨rfl, rfl⟩
        go_wp2
        go_ret
        exact ⟨⟨(k : Int), rfl, by rw [HS.out]; simp⟩, rfl⟩
    · obtain rfl : k = l.length := by omega
      have HS := Lib.hid (all_end HALL.out)
      go_wp2
      go_ret
      exact ⟨⟨-1, rfl, by rw [HS.out]; rfl⟩, rfl⟩

theorem containsShare_any (r : Row) (w : World) (hr : r.At w) :
    Calls Try.prog 85 #[.slice r.a r.l.length r.c, .func (.func 89) #[] #[]] w fun e w' => e = .returned (.bool (!r.l.all shareIn)) ∧ w' = w := by
  have CI := Lib.hid (indexShare_any r w hr)
  clear hr
  go_enter Try.func85, Try.ntmps85
  go_wp2_with fail
  refine CI.out.mono ?_
  rintro e W ⟨⟨i, rfl, hi⟩, rfl⟩
  have HI := Lib.hid hi
  clear hi
  go_wp2
  go_ret
  exact ⟨by rw [← HI.out]; rfl, rfl⟩

set_option maxHeartbeats 1000000 in
theorem areSharesOf_any (F : Fld) (s : Row) (w : World) (hF : F.At w) (hs : s.At w) :
    Calls Try.prog 73 #[.agg #[.slice F.o.a F.o.l.length F.o.c, .slice F.t.a F.t.R.length F.t.c], .slice s.a s.l.length s.c] w fun e w' => e = .returned (.bool (sharesB F s.l)) ∧ Below w.heap.size w w' := by
  obtain ⟨wA, hA, hbA, bx, hFA, hszA⟩ := laid_fld F w 29 hF
  have HSA := Lib.hid (hs.on hbA)
  have HBX : Hid (Box2 wA w.heap.size (.slice F.o.a F.o.l.length F.o.c) (.slice F.t.a F.t.R.length F.t.c) 29) := Lib.hid bx
  have HA : Hid (wA = w.alloc (Obj.cells #[.slice F.o.a F.o.l.length F.o.c, .slice F.t.a F.t.R.length F.t.c] 29)) := Lib.hid hA
  have CT := implIsField_any F wA hFA
  obtain ⟨g, hg⟩ : ∃ g, g = F.good := ⟨_, rfl⟩
  rw [← hg] at CT
  have CT1 := Lib.hid CT
  have HBA := Lib.hid hbA
  have x0 := HBX.out.c0
  have x1 := HBX.out.c1
  rw [HA.out] at x0 x1
  have hmi : (F.t.R.length : Int) ≤ 9223372036854775807 := by obtain ⟨q1, q2, _⟩ := hF.2.1; rw [tv_length] at q1; unfold maxLen at q2; omega
  have hsi : (s.l.length : Int) ≤ 9223372036854775807 := by obtain ⟨q1, q2, _⟩ := hs; rw [iv_length] at q1; unfold maxLen at q2; omega
  have HV : Hid (sharesB F s.l = (g && (decide (s.l.length = F.t.R.length) && s.l.all shareIn))) := Lib.hid (by rw [hg]; rfl)
  obtain ⟨n, hn⟩ : ∃ n, n = s.l.length := ⟨_, rfl⟩
  obtain ⟨m, hm⟩ : ∃ m, m = F.t.R.length := ⟨_, rfl⟩
  have HN := Lib.hid hn
  have HM := Lib.hid hm
  rw [← hn] at hsi
  rw [← hm] at hmi x1
  have CT2 : Hid (Calls Try.prog 38 #[.agg #[.slice F.o.a F.o.l.length F.o.c, .slice F.t.a m F.t.c]] wA fun e w' => e = .returned (.bool g) ∧ Below wA.heap.size wA w') := Lib.hid (by rw [hm]; exact CT1.out)
  have HA1 : Hid (wA = w.alloc (Obj.cells #[.slice F.o.a F.o.l.length F.o.c, .slice F.t.a m F.t.c] 29)) := Lib.hid (by rw [hm]; exact HA.out)
  have x0' : (w.alloc (Obj.cells #[.slice F.o.a F.o.l.length F.o.c, .slice F.t.a m F.t.c] 29)).cell? ⟨w.heap.size, 0, none⟩ = some (.slice F.o.a F.o.l.length F.o.c) := by rw [hm]; exact x0
  have x1' : (w.alloc (Obj.cells #[.slice F.o.a F.o.l.length F.o.c, .slice F.t.a m F.t.c] 29)).cell? ⟨w.heap.size, 1, none⟩ = some (.slice F.t.a m F.t.c) := by rw [← HA1.out, hm]; exact HBX.out.c1
  rw [← hn, ← hm]
  clear hF hs hA hbA bx hFA hszA CT hg hn hm x0 x1
  go_enter Try.func73, Try.ntmps73
  go_wp2_with fail
  rw [← HA1.out]
  refine (show Calls _ _ _ _ _ from CT2.out).mono ?_
  rintro e W1 ⟨rfl, hb1⟩
  have HBW1 := Lib.hid (HBA.out.trans (hb1.mono HBA.out.size))
  have y1 : W1.cell? ⟨w.heap.size, 1, none⟩ = some (.slice F.t.a m F.t.c) := by rw [HM.out]; exact (HBX.out.on hb1).c1
  have CC := containsShare_any s W1 (HSA.out.on hb1)
  obtain ⟨q, hq⟩ : ∃ q, q = s.l.all shareIn := ⟨_, rfl⟩
  rw [← hq, ← HN.out] at CC
  have CC1 := Lib.hid CC
  rw [← hq, ← HN.out, ← HM.out] at HV
  clear hb1 x0' x1' CC hq
  cases g with
  | false =>
    go_wp2
    go_ret
    exact ⟨by rw [HV.out]; rfl, HBW1.out⟩
  | true =>
    by_cases hnm : n = m
    · have he : ((n : Int) == (m : Int)) = true := by rw [hnm]; simp
      have HD : Hid (decide (n = m) = true) := Lib.hid (decide_eq_true hnm)
      clear hnm
      go_wp2_with fail
      refine (show Calls _ _ _ _ _ from CC1.out).mono ?_
      rintro e W2 ⟨rfl, rfl⟩
      go_wp2
      go_ret
      exact ⟨by rw [HV.out, HD.out]; simp, HBW1.out⟩
    · have he : ((n : Int) == (m : Int)) = false := beq_false_of_ne (by omega)
      have HD : Hid (decide (n = m) = false) := Lib.hid (decide_eq_false hnm)
      clear hnm
      go_wp2
      go_ret
      exact ⟨by rw [HV.out, HD.out]; rfl, HBW1.out⟩

theorem subS_between {p : List Int} (hp : ∀ x ∈ p, -1400 ≤ x ∧ x ≤ 1400) (T : List Nat) : -(1400 * T.length : Int) ≤ subS p T ∧ subS p T ≤ 1400 * T.length := by
  induction T with
  | nil => simp [subS]
  | cons k T ih =>
    have hk : -1400 ≤ p.getD k 0 ∧ p.getD k 0 ≤ 1400 := by
      by_cases hk : k < p.length
      · rw [getD_at hk]; exact hp _ (List.getElem_mem hk)
      · rw [List.getD_eq_getElem?_getD, List.getElem?_eq_none (by omega)]; simp
    unfold subS at ih ⊢
    rw [List.map_cons, List.sum_cons, List.length_cons]
    push_cast
    omega
theorem excess_bound {F : Fld} {p : List Int} (h : sharesB F p = true) (c : Nat) : -11186 ≤ excess F p c ∧ excess F p c ≤ 9800 := by
  obtain ⟨hg, _, hp⟩ := sharesB_iff.1 h
  have h1 := subS_between hp (bitsTo c F.t.R.length)
  have h2 := bitsTo_len c F.t.R.length
  have h3 := costC_bound hg c
  have h4 := good_sizes hg
  unfold excess; omega

def Excesses (F : Fld) (p : List Int) (l : List Int) (b : Bool) : Prop := (sharesB F p = false ∧ l = [] ∧ b = false) ∨ (sharesB F p = true ∧ l = excessL F p ∧ b = true)

set_option maxRecDepth 16000 in
set_option maxHeartbeats 1500000 in
theorem excessesOf_any (F : Fld) (s : Row) (w : World) (hF : F.At w) (hs : s.At w) (l : List Int) (b : Bool) (hv : Excesses F s.l l b) :
    Calls Try.prog 48 #[.agg #[.slice F.o.a F.o.l.length F.o.c, .slice F.t.a F.t.R.length F.t.c], .slice s.a s.l.length s.c] w (PInts l b w) := by
  obtain ⟨wA, hA, hbA, bx, hFA, hszA⟩ := laid_fld F w 29 hF
  have HFA := Lib.hid hFA
  have HSA := Lib.hid (hs.on hbA)
  have HBX : Hid (Box2 wA w.heap.size (.slice F.o.a F.o.l.length F.o.c) (.slice F.t.a F.t.R.length F.t.c) 29) := Lib.hid bx
  have HA : Hid (wA = w.alloc (Obj.cells #[.slice F.o.a F.o.l.length F.o.c, .slice F.t.a F.t.R.length F.t.c] 29)) := Lib.hid hA
  have CT := areSharesOf_any F s wA hFA (hs.on hbA)
  have HBA := Lib.hid hbA
  have x0 := HBX.out.c0
  have x1 := HBX.out.c1
  rw [HA.out] at x0 x1
  rcases hv with ⟨hg, rfl, rfl⟩ | ⟨hg, rfl, rfl⟩
  · rw [hg] at CT
    have CT1 := Lib.hid CT
    clear hF hs hA hbA bx hFA hszA CT hg
    go_enter Try.func48, Try.ntmps48
    go_wp2_with fail
    rw [← HA.out]
    refine (show Calls _ _ _ _ _ from CT1.out).mono ?_
    rintro e W1 ⟨rfl, hb1⟩
    have HBW1 := Lib.hid (HBA.out.trans (hb1.mono HBA.out.size))
    have HO1 := Lib.hid (empty_own W1)
    have hb0 := below_alloc W1 (.cells #[] 3)
    have hsz1 := HBW1.out.size
    clear hb1 x0 x1
    go_wp2
    go_ret2
    exact ints_end rfl HO1.out hsz1 (HBW1.out.trans (hb0.mono hsz1))
  · rw [hg] at CT
    have CT1 := Lib.hid CT
    obtain ⟨hgd, hpl, hpb⟩ := sharesB_iff.1 hg
    have hsz := good_sizes hgd
    have HG := Lib.hid hg
    have HGD := Lib.hid hgd
    obtain ⟨N, hN⟩ : ∃ N, N = 2 ^ F.t.R.length := ⟨_, rfl⟩
    have hN7 : N ≤ 128 := by rw [hN]; exact pow_le128 hsz.2.2
    have CS := Lib.hid (fun u (hu : Below wA.heap.size wA u) => sumsOf_any s u (HSA.out.on hu) (by omega) hpb)
    have HPL : Hid (2 ^ s.l.length = N) := Lib.hid (by rw [hpl, hN])
    have HPN := Lib.hid hpl
    have HN := Lib.hid hN
    have HPB := Lib.hid hpb
    have hNi : (N : Int) ≤ 128 := by omega
    clear hF hs hA hbA bx hFA hszA CT hg hgd hpl hpb hsz hN
    go_enter Try.func48, Try.ntmps48
    go_wp2_with fail
    rw [← HA.out]
    refine (show Calls _ _ _ _ _ from CT1.out).mono ?_
    rintro e W1 ⟨rfl, hb1⟩
    have HB1 := Lib.hid hb1
    have C2 := Lib.hid (CS.out W1 hb1)
    have HBW1 := Lib.hid (HBA.out.trans (hb1.mono HBA.out.size))
    have hszw1 := HBW1.out.size
    clear hb1 x0 x1
    go_wp2_with fail
    refine (show Calls _ _ _ _ _ from C2.out).mono ?_
    rintro e W2 ⟨t, rfl, htl, hto, hti, hb2⟩
    have HTL := Lib.hid htl
    have HTO := Lib.hid hto
    have HTI := Lib.hid hti
    have hsz2 := hb2.size
    have HB2 := Lib.hid (HB1.out.trans (hb2.mono HB1.out.size))
    have HBW2 := Lib.hid (HBW1.out.trans (hb2.mono HBW1.out.size))
    have hszw2 := HBW2.out.size
    have htn : t.l.length = N := by rw [htl, sumsL_len, HPL.out]
    rw [htn]
    have y0 := (HBX.out.on HB2.out).c0
    have y1 := (HBX.out.on HB2.out).c1
    have C3 := Lib.hid (costsOf_any F W2 (HFA.out.on HB2.out) HGD.out)
    clear htl hto hti hb2 htn
    go_wp2_with fail
    refine (show Calls _ _ _ _ _ from C3.out).mono ?_
    rintro e W3 ⟨q, rfl, hql, -, hqi, hb3⟩
    have hqn : q.l.length = N := by rw [hql, costs_len, HN.out]
    rw [hqn]
    have hsz3 := hb3.size
    have HO3 := Lib.hid (HTO.out.on hb3)
    have HI3 := Lib.hid (HTI.out.on hb3)
    have HBW3 := Lib.hid (HBW2.out.trans (hb3.mono HBW2.out.size))
    obtain ⟨xs, hxs⟩ : ∃ z, z = t.l := ⟨_, rfl⟩
    have hxn : xs.length = N := by rw [hxs, HTL.out, sumsL_len, HPL.out]
    obtain ⟨ms, hms⟩ : ∃ z, z = excessL F s.l := ⟨_, rfl⟩
    have hmn : ms.length = xs.length := by rw [hms, excessL_len, hxn, HN.out]
    have hN1 : 0 < N := by rw [HN.out]; exact Nat.two_pow_pos _
    have ho3 : (Row.mk t.a t.c xs).Own 3 W3 := by rw [hxs]; exact HO3.out
    have hi3 : (Row.mk t.a t.c xs).In W1.heap.size W2.heap.size W3 := by rw [hxs]; exact HI3.out
    obtain ⟨g, hga, hgl, hgh, hgW, -⟩ := row_write ho3 hi3 (a := 0) (by simp only; omega) 0
    simp only at hga
    obtain ⟨qb, qo, hqa, hqlo, hqlt, hqc⟩ : ∃ b o, q.a = some ⟨b, o, none⟩ ∧ W2.heap.size ≤ b ∧ b < W3.heap.size ∧ ∀ j, j < N → W3.cell? ⟨b, o + j, none⟩ = some (.int .i64 (costC F j)) := by
      rcases hqi.2.2 with h3 | ⟨b, o, e, h4, h5, h6, h7⟩
      · have := congrArg List.length (iv_nil h3); rw [hqn, List.length_nil] at this; omega
      · exact ⟨b, o, e, h4, h6, fun j hj => by rw [h7 j _ (iv_at (by rw [hqn]; exact hj)), ← getD_at (by rw [hqn]; exact hj), hql, costs_at F (by rw [← HN.out]; exact hj)]⟩
    have HQC := Lib.hid (fun wr (ht : Touch W1.heap.size W2.heap.size W3 wr) j (hj : j < N) => (ht.cell (p := ⟨qb, qo + j, none⟩) hqlt (by simp only; omega)).trans (hqc j hj))
    have HXM := Lib.hid (fun i (hi : i < N) => (show ∃ h1 : i < xs.length, ∃ h2 : i < ms.length, ms[i] = xs[i] - costC F i ∧ (-9800 ≤ xs[i] ∧ xs[i] ≤ 9800) ∧ (0 ≤ costC F i ∧ costC F i ≤ 1386) from by
      have h1 : i < xs.length := by rw [hxn]; exact hi
      have h2 : i < ms.length := by rw [hmn]; exact h1
      have e1 : xs[i] = subS s.l (bitsTo i F.t.R.length) := by
        have := sumsL_at s.l (c := i) (by rw [HPL.out]; exact hi)
        rw [HPN.out] at this
        rw [← this, ← getD_at h1, hxs, HTL.out]
      have e2 : ms[i] = excess F s.l i := by
        simp only [hms]; exact excessL_at F s.l (by rw [← HN.out]; exact hi)
      have h3 := subS_between HPB.out (bitsTo i F.t.R.length)
      have h4 := bitsTo_len i F.t.R.length
      have h5 := good_sizes HGD.out
      exact ⟨h1, h2, by rw [e2, e1]; rfl, by rw [e1]; omega, costC_bound HGD.out i⟩))
    have HXN := Lib.hid hxn
    have HMN := Lib.hid hmn
    have HMS := Lib.hid hms
    have HGA := Lib.hid hga
    have O3 := Lib.hid ho3
    have I3 := Lib.hid hi3
    rw [hqa, hga]
    clear hql hqi hb3 hqn hxs hxn hms hmn ho3 hi3 hga hqa hqc y0 y1
    go_wp2
    go_loopw [7, 8, 19] (fun _ _ iv' wr => ∃ i : Nat, i ≤ N ∧ iv' = .int .i64 i ∧ Touch W1.heap.size W2.heap.size W3 wr ∧ (Row.mk t.a t.c (mixI xs ms i)).Own 3 wr ∧ (Row.mk t.a t.c (mixI xs ms i)).In W1.heap.size W2.heap.size wr) (fun _ _ iv' _ => N - (intOf iv').toNat)
    case atStart => exact ⟨0, Nat.zero_le _, rfl, Touch.refl _ _ _, by rw [mixI_zero]; exact O3.out, by rw [mixI_zero]; exact I3.out⟩
    case round =>
      obtain ⟨i, hi, rfl, htw, how, hiw⟩ := hrel
      by_cases hlt : i < N
      · have hlti : (i : Int) < (N : Int) := by omega
        obtain ⟨h1, h2, hm, ⟨hx1, hx2⟩, hc1, hc2⟩ := HXM.out i hlt
        have c1 := HQC.out wr htw i hlt
        obtain ⟨x, hx⟩ : ∃ z, z = xs[i] := ⟨_, rfl⟩
        obtain ⟨y, hy⟩ : ∃ z, z = costC F i := ⟨_, rfl⟩
        rw [← hx, ← hy] at hm
        rw [← hx] at hx1 hx2
        rw [← hy] at hc1 hc2 c1
        obtain ⟨g', e1, q1, q2, q3, f1, c2, o2, i2, w2⟩ := row_write how hiw (a := i) (by simp only; rw [mixI_len HMN.out]; exact h1) (x - y)
        simp only [HGA.out, Option.some.injEq, Addr.mk.injEq, and_true] at e1
        subst e1
        simp only at c2 o2 i2
        rw [mixI_at HMN.out h1, ← hx] at c2
        have e3 : (mixI xs ms i).set i (x - y) = mixI xs ms (i + 1) := by rw [← hm]; exact mixI_set HMN.out h1
        rw [e3] at o2 i2
        have O2 := Lib.hid o2
        have I2 := Lib.hid i2
        have T2 := Lib.hid (htw.trans (w2.touch hiw))
        clear hx hy hm e3 o2 i2 w2 htw how hiw h1 h2 q1 q2 q3
        go_wp2
        go_roundw
        case rel => exact ⟨i + 1, by omega, by go_num, T2.out, O2.out, I2.out⟩
        case measure => simp [intOf]; omega
      · obtain rfl : i = N := by omega
        have e : mixI xs ms i = excessL F s.l := by rw [← HXN.out, mixI_all HMN.out, HMS.out]
        rw [e] at how hiw
        have hel : (excessL F s.l).length = i := by rw [excessL_len, HN.out]
        have HR : Hid (PInts (excessL F s.l) true w (.returned (.tuple #[.slice (some ⟨g, 0, none⟩) i t.c, .bool true])) wr) := Lib.hid ⟨⟨t.a, t.c, excessL F s.l⟩, by rw [hel, HGA.out], rfl, how, hiw.wide hszw1 (by have := htw.size; omega), HBW3.out.trans (htw.below hszw1 (by omega))⟩
        clear htw how hiw e hel
        go_wp2
        go_ret2
        exact HR.out
end Go.Proofs.Ytfplcgakpildmaa
