/- Lists of clients that are far: the contracts of both sides. Condition: a valid Field, clients that are there. -/
import Derived.Test.YtjeodblaekdpkaaFarFrom
import Derived.Test.YtjeodblaekdpkaaGap
import Derived.Test.YtjeodblaekdpkaaOwnAll
namespace Go.Proofs.Ytjeodblaekdpkaa
open Go.RowKit

/-- The first k clients of a list are far from those ahead of them. -/
def farUp (F : Fld) (r : Int) (T : List Nat) (k : Nat) : Bool := (List.range k).all fun i => farTo F r (T.getD i 0) (T.take i)
theorem farUp_step (F : Fld) (r : Int) (T : List Nat) (k : Nat) : farUp F r T (k + 1) = (farUp F r T k && farTo F r (T.getD k 0) (T.take k)) := by
  unfold farUp; rw [List.range_succ, List.all_append]; simp
theorem farUp_no {F : Fld} {r : Int} {T : List Nat} {k n : Nat} (hk : k < n) (h : farTo F r (T.getD k 0) (T.take k) = false) : farUp F r T n = false := by
  unfold farUp
  rw [List.all_eq_false]
  exact ⟨k, List.mem_range.2 hk, by rw [h]; decide⟩
theorem farTo_like {F G : Fld} (h : F.Like G) (r : Int) (i : Nat) (T : List Nat) : farTo F r i T = farTo G r i T := by unfold farTo; congr 1; funext j; exact apart_like h r i j
theorem farUp_like {F G : Fld} (h : F.Like G) (r : Int) (T : List Nat) (k : Nat) : farUp F r T k = farUp G r T k := by unfold farUp; congr 1; funext i; exact farTo_like h r _ _

theorem getD_nat {T : List Nat} {k : Nat} (h : k < T.length) : T.getD k 0 = T[k] := by rw [List.getD_eq_getElem?_getD, List.getElem?_eq_getElem h]; rfl
set_option maxHeartbeats 2000000 in
theorem areFar_any (F : Fld) (s : Row) (T : List Nat) (r : Int) (w : World) (hF : F.At w) (hs : s.At w) (hg : F.good = true) (hsl : s.l = up T) (hT : ∀ j ∈ T, j < F.t.R.length) (hsm : s.l.length ≤ 1048576) :
    Calls Try.prog 55 #[F.val, .slice s.a s.l.length s.c, .int .i64 r] w fun e w' => e = .returned (.bool (farUp F r T T.length)) ∧ Below w.heap.size w w' := by
  obtain ⟨wA, hA, hbA, bx, hFA, _⟩ := laid_fld F w 29 hF
  have HSA := Lib.hid (hs.on hbA)
  have HFA := Lib.hid hFA
  have HBX := Lib.hid bx
  have HA := Lib.hid hA
  have HG := Lib.hid hg
  have HSL := Lib.hid hsl
  have HTT := Lib.hid hT
  obtain ⟨n, hn⟩ : ∃ n, n = s.l.length := ⟨_, rfl⟩
  have hTn : T.length = n := by rw [hn, hsl, up_length]
  have HN := Lib.hid hn
  have HTN := Lib.hid hTn
  have hni : (n : Int) ≤ 1048576 := by omega
  have hnc : (n : Int) ≤ (s.c : Int) := by have := HSA.out.1; rw [iv_length] at this; omega
  clear hF hs hA bx hFA hg hsl hT hTn
  show Calls _ _ #[.agg #[F.o.val, F.t.val], _, _] w _
  rw [← hn]
  clear hn
  go_enter Try.func55, Try.ntmps55
  go_wp2
  rw [show w.alloc (Obj.cells #[F.o.val, F.t.val] 29) = wA from HA.out.symm]
  go_loopw [7, 8, 11] (fun _ _ iv wr => ∃ k : Nat, k ≤ n ∧ iv = .int .i64 k ∧ farUp F r T k = true ∧ Below wA.heap.size wA wr) (fun _ _ iv _ => n - (intOf iv).toNat)
  case atStart => exact ⟨0, Nat.zero_le _, rfl, rfl, Below.refl _ _⟩
  case round =>
    obtain ⟨k, hk, rfl, hfar, hnx⟩ := hrel
    have HFAR := Lib.hid hfar
    have HNX := Lib.hid hnx
    clear hfar
    by_cases hlt : k < n
    · have hlti : (k : Int) < (n : Int) := by omega
      have hkc : (k : Int) ≤ (s.c : Int) := by omega
      rcases HSA.out.2.2 with h3 | ⟨b, o, ha, hbb, hcell⟩
      · have h3' := congrArg List.length (iv_nil h3); rw [List.length_nil, ← HN.out] at h3'; omega
      have hkT : k < T.length := by rw [HTN.out]; exact hlt
      obtain ⟨j, hj⟩ : ∃ j, j = T[k] := ⟨_, rfl⟩
      have hcl : wr.cell? ⟨b, o + k, none⟩ = some (.int .i64 (j : Int)) := by
        refine (hnx.cell (p := ⟨b, o + k, none⟩) hbb).trans ?_
        have h4 : k < (up T).length := by rw [up_length]; exact hkT
        have h5 := hcell k (.int .i64 ((up T)[k])) (by rw [HSL.out]; exact iv_at h4)
        rw [up_at hkT, ← hj] at h5; exact h5
      have hjm : j < F.t.R.length := HTT.out j (by rw [hj]; exact List.getElem_mem _)
      obtain ⟨v, hv⟩ : ∃ v, v = farTo F r j (T.take k) := ⟨_, rfl⟩
      have hlk : (s.l.take k).length = k := by rw [List.length_take, ← HN.out]; omega
      have D1 := Lib.hid (fun u (hu : Below wr.heap.size wr u) => by
        have h1 := HNX.out.trans (hu.mono HNX.out.size)
        have := isFarFrom_any F j ⟨s.a, s.c, s.l.take k⟩ (T.take k) r u (HFA.out.on h1) ((at_take HSA.out k).on h1) HG.out hjm (by simp only; rw [HSL.out]; unfold up; rw [List.map_take]) (fun m hm => HTT.out m (List.mem_of_mem_take hm)) (by simp only; rw [hlk]; omega)
        simp only at this
        rw [hlk, ← hv, ha] at this; exact this : ∀ u, Below wr.heap.size wr u → Calls Try.prog 89 #[F.val, .int .i64 j, .slice (some ⟨b, o, none⟩) k s.c, .int .i64 r] u fun e w' => e = .returned (.bool v) ∧ Below u.heap.size u w')
      have HST : Hid (farUp F r T (k + 1) = v) := Lib.hid (by rw [farUp_step, HFAR.out, getD_nat hkT, ← hj, ← hv, Bool.true_and])
      have HNO : Hid (v = false → farUp F r T T.length = false) := Lib.hid fun e => farUp_no hkT (by rw [getD_nat hkT, ← hj, ← hv, e])
      have HS : Hid (∀ u, Below wr.heap.size wr u → ((u.cell? ⟨w.heap.size, 0, none⟩ = some F.o.val ∧ u.cell? ⟨w.heap.size, 1, none⟩ = some F.t.val) ∧ Below wr.heap.size wr u)) := Lib.hid fun u hu => ⟨⟨((HBX.out.on HNX.out).on hu).c0, ((HBX.out.on HNX.out).on hu).c1⟩, hu⟩
      have s0 := HS.out wr.drew (Below.refl _ _).drew
      rw [ha]
      clear hj hcell ha hv hlk hjm hkT
      go_wp2_with fail
      go_region_held3 (fun u => ((u.cell? ⟨w.heap.size, 0, none⟩ = some F.o.val ∧ u.cell? ⟨w.heap.size, 1, none⟩ = some F.t.val) ∧ Below wr.heap.size wr u)) (first | exact s0 | exact keep_reg HS.out (by first | assumption | exact And.right (by assumption)) hb1) ((go_at_call 89; refine (show Calls _ _ _ _ _ from D1.out _ (by first | assumption | exact And.right (by assumption))).mono ?_; rintro e u1 ⟨rfl, hb1⟩))
      refine at_exit (W := wr) (by first | assumption | exact And.right (by assumption)) ?_
      intro W8 hb8
      have HB8 : Hid (Below wA.heap.size wA W8) := Lib.hid (HNX.out.trans (hb8.mono HNX.out.size))
      clear s0 hb8
      cases v with
      | true =>
        go_wp2
        go_roundw
        case rel => exact ⟨k + 1, by omega, by go_num, HST.out, HB8.out⟩
        case measure => simp [intOf]; omega
      | false =>
        have HS1 := Lib.hid (HNO.out rfl)
        go_wp2
        go_ret
        exact ⟨by rw [HS1.out]; rfl, hbA.trans (HB8.out.mono hbA.size)⟩
    · obtain rfl : k = n := by omega
      have HE : Hid (farUp F r T T.length = true) := Lib.hid (by rw [HTN.out]; exact HFAR.out)
      go_wp2
      go_ret
      exact ⟨by rw [HE.out]; rfl, hbA.trans (hnx.mono hbA.size)⟩

set_option maxHeartbeats 2000000 in
theorem l5Apart_any (F : Fld) (i j : Nat) (r : Int) (w : World) (hF : F.At w) (hg : F.good = true) (hi : i < F.t.R.length) (hj : j < F.t.R.length) :
    Calls Try.prog 113 #[F.val, .int .i64 i, .int .i64 j, .int .i64 r] w fun e w' => e = .returned (.bool (apartB F r i j)) ∧ Below w.heap.size w w' := by
  obtain ⟨wA, hA, hbA, bx, hFA, _⟩ := laid_fld F w 29 hF
  have hsz := good_sizes hg
  obtain ⟨bt, ot, bi, oi, ci, bj, oj, cj, hta, hci, hcj, hri, hrj⟩ := two_cells hFA hg (DrewTo.refl _) hi hj
  have hni : (F.o.l.length : Int) ≤ 7 := by omega
  have hmi : (F.t.R.length : Int) ≤ 7 := by omega
  have hii : (i : Int) < (F.t.R.length : Int) := by omega
  have hji : (j : Int) < (F.t.R.length : Int) := by omega
  have HX0 : Hid (wA.cell? ⟨w.heap.size, 0, none⟩ = some (.slice F.o.a F.o.l.length F.o.c)) := Lib.hid bx.c0
  have HX1 : Hid (wA.cell? ⟨w.heap.size, 1, none⟩ = some (.slice (some ⟨bt, ot, none⟩) F.t.R.length F.t.c)) := Lib.hid (by rw [← hta]; exact bx.c1)
  have HRI := Lib.hid hri
  have HRJ := Lib.hid hrj
  have HCI := Lib.hid hci
  have HCJ := Lib.hid hcj
  have HA1 : Hid (wA = w.alloc (Obj.cells #[F.o.val, .slice (some ⟨bt, ot, none⟩) F.t.R.length F.t.c] 29)) := Lib.hid (by rw [← hta]; exact hA)
  have HTA := Lib.hid hta
  clear hF hA hFA bx hg hsz hi hj hri hrj hci hcj hta
  show Calls _ _ #[.agg #[F.o.val, .slice F.t.a F.t.R.length F.t.c], _, _, _] w _
  rw [HTA.out]
  go_enter Try.func113, Try.ntmps113
  go_wp2
  rw [← HA1.out]
  go_loopw [9] (fun iv wr => ∃ k : Nat, k ≤ F.o.l.length ∧ iv = .int .i64 k ∧ (∀ a, a < k → ¬ (F.len i a ≤ r ∧ F.len j a ≤ r)) ∧ wr = wA) (fun iv _ => F.o.l.length - (intOf iv).toNat)
  case atStart => exact ⟨0, Nat.zero_le _, rfl, fun a h => absurd h (Nat.not_lt_zero _), rfl⟩
  case round =>
    obtain ⟨k, hk, rfl, hall, rfl⟩ := hrel
    have HALL := Lib.hid hall
    clear hall
    have y0 := HX0.out
    by_cases hlt : k < F.o.l.length
    · have hlti : (k : Int) < (F.o.l.length : Int) := by omega
      have y1 := HX1.out
      have hci := HCI.out
      have hcj := HCJ.out
      obtain ⟨x, hx⟩ : ∃ x, x = F.len i k := ⟨_, rfl⟩
      obtain ⟨y, hy⟩ : ∃ y, y = F.len j k := ⟨_, rfl⟩
      have hcx : wr.cell? ⟨bi, oi + k, none⟩ = some (.int .i64 x) := by rw [hx]; exact HRI.out k hlt
      have hcy : wr.cell? ⟨bj, oj + k, none⟩ = some (.int .i64 y) := by rw [hy]; exact HRJ.out k hlt
      have HST : Hid (¬ (x ≤ r ∧ y ≤ r) → ∀ a, a < k + 1 → ¬ (F.len i a ≤ r ∧ F.len j a ≤ r)) := Lib.hid fun h a ha => by
        by_cases e : a = k
        · subst e; rw [← hx, ← hy]; exact h
        · exact HALL.out a (by omega)
      have HNO : Hid (x ≤ r ∧ y ≤ r → apartB F r i j = false) := Lib.hid fun h => by
        unfold apartB
        rw [decide_eq_false_iff_not]
        intro e
        exact e k hlt (by rw [← hx, ← hy]; exact h)
      clear hx hy
      by_cases h1 : x ≤ r
      · by_cases h2 : y ≤ r
        · have HS1 := Lib.hid (HNO.out ⟨h1, h2⟩)
          go_wp2
          go_ret
          exact ⟨by rw [HS1.out]; rfl, hbA⟩
        · have HS1 := Lib.hid (HST.out (fun e => h2 e.2))
          go_wp2
          go_roundw
          case rel => exact ⟨k + 1, by omega, by go_num, HS1.out, by first | rfl | trivial⟩
          case measure => simp [intOf]; omega
      · have HS1 := Lib.hid (HST.out (fun e => h1 e.1))
        go_wp2
        go_roundw
        case rel => exact ⟨k + 1, by omega, by go_num, HS1.out, by first | rfl | trivial⟩
        case measure => simp [intOf]; omega
    · obtain rfl : k = F.o.l.length := by omega
      have HE : Hid (apartB F r i j = true) := Lib.hid (by unfold apartB; rw [decide_eq_true_iff]; exact HALL.out)
      go_wp2
      go_ret
      exact ⟨by rw [HE.out]; rfl, hbA⟩

set_option maxHeartbeats 4000000 in
theorem l5Far_any (F : Fld) (s : Row) (T : List Nat) (r : Int) (w : World) (hF : F.At w) (hs : s.At w) (hg : F.good = true) (hsl : s.l = up T) (hT : ∀ j ∈ T, j < F.t.R.length) (hsm : s.l.length ≤ 1048576) :
    Calls Try.prog 84 #[F.val, .slice s.a s.l.length s.c, .int .i64 r] w fun e w' => e = .returned (.bool (farUp F r T T.length)) ∧ Below w.heap.size w w' := by
  obtain ⟨wA, hA, hbA, bx, hFA, _⟩ := laid_fld F w 29 hF
  have HSA := Lib.hid (hs.on hbA)
  have HFA := Lib.hid hFA
  have HBX := Lib.hid bx
  have HA := Lib.hid hA
  have HG := Lib.hid hg
  have HSL := Lib.hid hsl
  have HTT := Lib.hid hT
  obtain ⟨n, hn⟩ : ∃ n, n = s.l.length := ⟨_, rfl⟩
  have hTn : T.length = n := by rw [hn, hsl, up_length]
  have HN := Lib.hid hn
  have HTN := Lib.hid hTn
  have hni : (n : Int) ≤ 1048576 := by omega
  have HCL : Hid (∀ u, Below wA.heap.size wA u → ∀ k, (hk : k < T.length) → ∃ b o, s.a = some ⟨b, o, none⟩ ∧ u.cell? ⟨b, o + k, none⟩ = some (.int .i64 (T[k] : Int)) ∧ T[k] < F.t.R.length) := Lib.hid fun u hu k hk => by
    rcases HSA.out.2.2 with h3 | ⟨b, o, ha, hbb, hcell⟩
    · have h3' := congrArg List.length (iv_nil h3); rw [List.length_nil, ← HN.out] at h3'; omega
    refine ⟨b, o, ha, (hu.cell (p := ⟨b, o + k, none⟩) hbb).trans ?_, hT _ (List.getElem_mem _)⟩
    have h4 : k < (up T).length := by rw [up_length]; exact hk
    have h5 := hcell k (.int .i64 ((up T)[k])) (by rw [hsl]; exact iv_at h4)
    rw [up_at hk] at h5; exact h5
  clear hF hs hA bx hFA hg hsl hT hTn
  show Calls _ _ #[.agg #[F.o.val, F.t.val], _, _] w _
  rw [← hn]
  clear hn
  go_enter Try.func84, Try.ntmps84
  go_wp2
  rw [show w.alloc (Obj.cells #[F.o.val, F.t.val] 29) = wA from HA.out.symm]
  go_loopw [7, 8] (fun iv _ wr => ∃ k : Nat, k ≤ n ∧ iv = .int .i64 k ∧ farUp F r T k = true ∧ Below wA.heap.size wA wr) (fun iv _ _ => n - (intOf iv).toNat)
  case atStart => exact ⟨0, Nat.zero_le _, rfl, rfl, by rw [HA.out]; exact Below.refl _ _⟩
  case round =>
    obtain ⟨k, hk, rfl, hfar, hnx0⟩ := hrel
    have HFAR := Lib.hid hfar
    have HNX0 := Lib.hid hnx0
    clear hfar hnx0
    by_cases hlt : k < n
    · have hlti : (k : Int) < (n : Int) := by omega
      have hkT : k < T.length := by rw [HTN.out]; exact hlt
      obtain ⟨W0, hW0⟩ : ∃ u, u = wr := ⟨_, rfl⟩
      go_wp2
      go_loopw [8] (fun iv wr => ∃ m : Nat, m ≤ k ∧ iv = .int .i64 m ∧ farTo F r (T.getD k 0) ((T.take k).take m) = true ∧ Below wA.heap.size wA wr) (fun iv _ => k - (intOf iv).toNat)
      case atStart => exact ⟨0, Nat.zero_le _, rfl, rfl, HNX0.out⟩
      case round =>
        obtain ⟨m, hm, rfl, hin, hnx⟩ := hrel
        have HIN := Lib.hid hin
        have HNX := Lib.hid hnx
        clear hin
        by_cases hmk : m < k
        · have hmki : (m : Int) < (k : Int) := by omega
          have hmni : (m : Int) < (n : Int) := by omega
          have hmT : m < T.length := by omega
          have hmT2 : m < (T.take k).length := by rw [List.length_take]; omega
          obtain ⟨b, o, ha, hck, hkm⟩ := HCL.out wr hnx k hkT
          obtain ⟨b', o', ha', hcm, hmm⟩ := HCL.out wr hnx m hmT
          rw [ha] at ha'
          simp only [Option.some.injEq, Addr.mk.injEq, and_true] at ha'
          obtain ⟨rfl, rfl⟩ := ha'
          obtain ⟨i, hi⟩ : ∃ i, i = T[k] := ⟨_, rfl⟩
          obtain ⟨j, hj⟩ : ∃ j, j = T[m] := ⟨_, rfl⟩
          rw [← hi] at hck hkm
          rw [← hj] at hcm hmm
          have hblt : b < wr.heap.size := World.block_lt_of_cell? wr _ hck
          obtain ⟨v, hv⟩ : ∃ v, v = apartB F r i j := ⟨_, rfl⟩
          have D1 := Lib.hid (fun u (hu : Below wr.heap.size wr u) => by
            have := l5Apart_any F i j r u ((HFA.out.on HNX.out).on hu) HG.out hkm hmm
            rw [← hv] at this; exact this : ∀ u, Below wr.heap.size wr u → Calls Try.prog 113 #[F.val, .int .i64 i, .int .i64 j, .int .i64 r] u fun e w' => e = .returned (.bool v) ∧ Below u.heap.size u w')
          have HST : Hid (v = true → farTo F r (T.getD k 0) ((T.take k).take (m + 1)) = true) := Lib.hid fun e => by
            unfold farTo at *
            exact all_take hmT2 HIN.out (by rw [getD_nat hkT, ← hi, List.getElem_take, ← hj, ← hv, e])
          have HNO : Hid (v = false → farUp F r T T.length = false) := Lib.hid fun e => farUp_no hkT (by
            unfold farTo
            exact all_out hmT2 (by rw [getD_nat hkT, ← hi, List.getElem_take, ← hj, ← hv, e]))
          have HS : Hid (∀ u, Below wr.heap.size wr u → ((u.cell? ⟨w.heap.size, 0, none⟩ = some F.o.val ∧ u.cell? ⟨w.heap.size, 1, none⟩ = some F.t.val ∧ u.cell? ⟨b, o + k, none⟩ = some (.int .i64 (i : Int)) ∧ u.cell? ⟨b, o + m, none⟩ = some (.int .i64 (j : Int))) ∧ Below wr.heap.size wr u)) := Lib.hid fun u hu => ⟨⟨((HBX.out.on HNX.out).on hu).c0, ((HBX.out.on HNX.out).on hu).c1, (hu.cell (p := ⟨b, o + k, none⟩) hblt).trans hck, (hu.cell (p := ⟨b, o + m, none⟩) hblt).trans hcm⟩, hu⟩
          have s0 := HS.out wr.drew (Below.refl _ _).drew
          rw [ha]
          clear hi hj hv ha hck hcm hkm hmm hmT hmT2 hkT
          go_wp2_with fail
          go_region_held3 (fun u => ((u.cell? ⟨w.heap.size, 0, none⟩ = some F.o.val ∧ u.cell? ⟨w.heap.size, 1, none⟩ = some F.t.val ∧ u.cell? ⟨b, o + k, none⟩ = some (.int .i64 (i : Int)) ∧ u.cell? ⟨b, o + m, none⟩ = some (.int .i64 (j : Int))) ∧ Below wr.heap.size wr u)) (first | exact s0 | exact keep_reg HS.out (by first | assumption | exact And.right (by assumption)) hb1) ((go_at_call 113; refine (show Calls _ _ _ _ _ from D1.out _ (by first | assumption | exact And.right (by assumption))).mono ?_; rintro e u1 ⟨rfl, hb1⟩))
          refine at_exit (W := wr) (by first | assumption | exact And.right (by assumption)) ?_
          intro W8 hb8
          have HB8 : Hid (Below wA.heap.size wA W8) := Lib.hid (HNX.out.trans (hb8.mono HNX.out.size))
          clear s0 hb8
          cases v with
          | true =>
            have HS1 := Lib.hid (HST.out rfl)
            go_wp2
            go_roundw
            case rel => exact ⟨m + 1, by omega, by go_num, HS1.out, HB8.out⟩
            case measure => simp [intOf]; omega
          | false =>
            have HS1 := Lib.hid (HNO.out rfl)
            go_wp2
            go_ret
            exact ⟨by rw [HS1.out]; rfl, hbA.trans (HB8.out.mono hbA.size)⟩
        · obtain rfl : m = k := by omega
          have HST : Hid (farUp F r T (m + 1) = true) := Lib.hid (by
            have := HIN.out
            rw [List.take_of_length_le (by rw [List.length_take]; omega)] at this
            rw [farUp_step, HFAR.out, this]; rfl)
          go_wp2
          go_roundw
          case rel => exact ⟨m + 1, by omega, by go_num, HST.out, hnx⟩
          case measure => simp [intOf]; omega
    · obtain rfl : k = n := by omega
      have HE : Hid (farUp F r T T.length = true) := Lib.hid (by rw [HTN.out]; exact HFAR.out)
      have HNX := HNX0.out
      go_wp2
      go_ret
      exact ⟨by rw [HE.out]; rfl, hbA.trans (HNX.mono hbA.size)⟩
end Go.Proofs.Ytjeodblaekdpkaa
