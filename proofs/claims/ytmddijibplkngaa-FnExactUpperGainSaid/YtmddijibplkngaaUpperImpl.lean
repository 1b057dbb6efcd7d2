/- The upper gain on the program's side. Condition: a valid Field and worth, a list of its sites that is not nil. -/
import Derived.Test.YtmddijibplkngaaPlainUpper
import Derived.Test.YtmddijibplkngaaMargImpl
import Derived.Test.YtmddijibplkngaaTable
namespace Go.Proofs.Ytmddijibplkngaa
open Go.RowKit Go.Shelf

set_option maxHeartbeats 600000 in
theorem sumOfW_any (r : Row) (w : World) (hr : r.At w) (hb : ∀ x ∈ r.l, 0 ≤ x ∧ x ≤ 6993) (hn : r.l.length ≤ 1000) :
    Calls Try.prog 86 #[.slice r.a r.l.length r.c] w fun e w' => e = .returned (.int .i64 r.l.sum) ∧ w' = w := by
  obtain ⟨a, c, l⟩ := r
  obtain ⟨h1, h2, h3⟩ := hr
  simp only at h1 h2 h3 hb hn ⊢
  have hni : (l.length : Int) ≤ 1000 := by omega
  have HR := Lib.hid h3
  have HB := Lib.hid hb
  clear h3 hb
  go_enter Try.func86, Try.ntmps86
  go_wp2
  go_loopw [3, 8] (fun sv i wr => ∃ k : Nat, k ≤ l.length ∧ i = .int .i64 k ∧ sv = .int .i64 (l.take k).sum ∧ w = wr) (fun _ i _ => l.length - (intOf i).toNat)
  case atStart => exact ⟨0, Nat.zero_le _, rfl, by simp, rfl⟩
  case round =>
    obtain ⟨k, hk, rfl, rfl, rfl⟩ := hrel
    by_cases hlt : k < l.length
    · have hlti : (k : Int) < (l.length : Int) := by omega
      rcases HR.out with h3 | ⟨b, o, rfl, hbb, hcell⟩
      · have h3' := congrArg List.length (iv_nil h3); rw [List.length_nil] at h3'; omega
      obtain ⟨x, hx⟩ : ∃ x, x = l[k] := ⟨_, rfl⟩
      have hcl : w.cell? ⟨b, o + k, none⟩ = some (.int .i64 x) := by rw [hx]; exact hcell k _ (iv_at hlt)
      have hx2 := HB.out x (by rw [hx]; exact List.getElem_mem hlt)
      obtain ⟨y, hy⟩ : ∃ y, y = (l.take k).sum := ⟨_, rfl⟩
      have hy2 := take_bnd HB.out k
      have hlen : (l.take k).length = k := by rw [List.length_take]; omega
      rw [← hy, hlen] at hy2
      rw [← hy]
      have HS : Hid ((l.take (k + 1)).sum = y + x) := Lib.hid (by rw [sum_step hlt, hy, hx])
      have e1 : (0 : Int) ≤ y + x := by omega
      have e2 : y + x ≤ 9223372036854775807 := by omega
      clear hx hcell hy hlen
      go_wp2
      go_roundw
      case rel => exact ⟨k + 1, by omega, by go_num, by rw [HS.out], by first | rfl | trivial⟩
      case measure => simp [intOf]; omega
    · obtain rfl : k = l.length := by omega
      go_wp2
      go_ret
      exact ⟨by rw [List.take_length]; rfl, rfl⟩

set_option maxRecDepth 16000 in
set_option maxHeartbeats 1500000 in
theorem marginals_any (F : Fld) (u : Int) (s : Row) (T : List Nat) (w : World) (hF : F.At w) (hs : s.At w) (hn : s.a ≠ none) (hf : Worthy F u s T) (hT : T.length ≤ 100) :
    Calls Try.prog 84 #[.agg #[.slice F.o.a F.o.l.length F.o.c, .slice F.t.a F.t.R.length F.t.c, .int .i64 u], .slice s.a s.l.length s.c] w fun e w' => ∃ t : Row, e = .returned (.slice t.a t.l.length t.c) ∧ t.l = margL F u T F.o.l.length ∧ t.Own 3 w' ∧ t.In w.heap.size w'.heap.size w' ∧ Below w.heap.size w w' := by
  obtain ⟨i0, hi, hz0, hz1, hz2⟩ := info_parts infoInt
  obtain ⟨wB, hB⟩ : ∃ wB, (w.alloc (Obj.cells #[.slice F.o.a F.o.l.length F.o.c, .slice F.t.a F.t.R.length F.t.c, .int .i64 u] 55)).alloc (.cells #[] 3) = wB := ⟨_, rfl⟩
  have hbB : Below w.heap.size w wB := by rw [← hB]; exact (below_alloc w _).alloc (by rw [size_alloc]; omega) _
  have hown0 : wB.ownsRow (w.heap.size + 1) 3 1 (.slice (some ⟨w.heap.size + 1, 0, none⟩) 0 0) 0 (iv []) := by
    rw [← hB]
    have := empty_own (w.alloc (Obj.cells #[.slice F.o.a F.o.l.length F.o.c, .slice F.t.a F.t.R.length F.t.c, .int .i64 u] 55))
    rw [size_alloc] at this; exact this
  have bv : BoxV wB w.heap.size F u 55 := by
    rw [← hB]; exact (BoxV.made w F u _).on (below_alloc _ _)
  have hszB : w.heap.size + 1 < wB.heap.size := by rw [← hB, size_alloc, size_alloc]; omega
  have x0 := bv.c0
  rw [← hB] at x0
  have hsz := good_sizes (worthB_iff.1 hf.good).1
  have hoi : (F.o.l.length : Int) ≤ 7 := by omega
  obtain ⟨N, hN⟩ : ∃ N, N = F.o.l.length := ⟨_, rfl⟩
  have CM := Lib.hid (fun (j : Nat) (hj : j < N) W (hW : Below w.heap.size w W) => (show Calls Try.prog 48 #[.agg #[.slice F.o.a N F.o.c, .slice F.t.a F.t.R.length F.t.c, .int .i64 u], .slice s.a s.l.length s.c, .int .i64 (j : Int)] W fun e w' => e = .returned (.int .i64 (moreT F u T j)) ∧ Below W.heap.size W w' from by
    have := marginal_any F u s T j W (hF.on hW) (hs.on hW) hn hf hT (by rw [← hN]; exact hj)
    rw [← hN] at this; exact this))
  have HOW := Lib.hid hown0
  have HBB := Lib.hid hbB
  have HC : Hid (∀ W : World, (∃ x, W.heap[w.heap.size]? = x ∧ x = wB.heap[w.heap.size]?) → (W.cell? ⟨w.heap.size, 0, none⟩ = some (.slice F.o.a N F.o.c) ∧ W.cell? ⟨w.heap.size, 1, none⟩ = some (.slice F.t.a F.t.R.length F.t.c) ∧ W.cell? ⟨w.heap.size, 2, none⟩ = some (.int .i64 u))) := Lib.hid fun W ⟨x, h1, h2⟩ => by
    have bw : BoxV W w.heap.size F u 55 := (h1.trans h2).trans bv
    rw [hN]
    exact ⟨bw.c0, bw.c1, bw.c2⟩
  have HB := Lib.hid hB
  have HNN := Lib.hid hN
  have hNi : (N : Int) ≤ 7 := by omega
  have hN7 : N ≤ 7 := by omega
  rw [← hN] at x0 HB ⊢
  clear hF hs hn hf hT hB hbB hown0 bv hsz hN hoi
  go_enter Try.func84, Try.ntmps84
  go_wp2
  rw [HB.out]
  clear x0
  go_loopw [5, 6, 12] (fun out _ jv wr => ∃ j : Nat, j ≤ N ∧ jv = .int .i64 j ∧ Hid (wr.ownsRow (w.heap.size + 1) 3 1 out j (iv (margL F u T j))) ∧ Hid (wr.heap[w.heap.size]? = wB.heap[w.heap.size]?) ∧ Below w.heap.size w wr) (fun _ _ jv _ => N - (intOf jv).toNat)
  case atStart => exact ⟨0, Nat.zero_le _, rfl, HOW, Lib.hid rfl, HBB.out⟩
  case round =>
    obtain ⟨j, hj, rfl, HO, HE, hnx⟩ := hrel
    have HNX := Lib.hid hnx
    have hszr : w.heap.size + 1 ≤ wr.heap.size := (Array.getElem?_eq_some_iff.1 (HE.out.trans (show wB.heap[w.heap.size]? = some _ from by rw [Array.getElem?_eq_getElem (by omega)]))).1
    by_cases hlt : j < N
    · have hlti : (j : Int) < (N : Int) := by omega
      obtain ⟨z0, z1, z2⟩ := HC.out wr ⟨_, rfl, HE.out⟩
      obtain ⟨x, hx⟩ : ∃ x, x = moreT F u T j := ⟨_, rfl⟩
      have CM1 := Lib.hid (by have := CM.out j hlt wr hnx; rw [← hx] at this; exact this)
      have HNEW : Hid (iv (margL F u T (j + 1)) = iv (margL F u T j) ++ [.int .i64 x]) := Lib.hid (by rw [margL_step, hx]; simp [iv])
      clear hx hnx
      go_wp2_with fail
      clear z0 z1 z2
      refine (show Calls _ _ _ _ _ from CM1.out).mono ?_
      rintro e W1 ⟨rfl, hb1⟩
      have hown := owns_below HO.out hb1
      have HB1 := Lib.hid hb1
      have hsz1 := hb1.size
      clear hb1
      go_wp2_with (at_builtin; refine wpList_append_own _ rfl _ _ 22 rfl (w.heap.size + 1) 3 i0 (.int .i64 0) 1 8 Try.underlying22 hi hz0 hz1 hz2 rfl (by decide) _ _ _ rfl (hown.alloc _) ⟨W1.heap.size, 0, none⟩ 1 1 [.int .i64 x] rfl rfl (one_cell _ _ _) (by simp [Value.oneCell']) (by unfold maxLen; omega) (by omega) (by simp; omega) ?_; intro v' w1 hown' hgrow _)
      have R1 : Hid (w1.ownsRow (w.heap.size + 1) 3 1 v' (j + 1) (iv (margL F u T (j + 1)))) := Lib.hid (by rw [HNEW.out]; exact hown')
      have R2 : Below w.heap.size w w1 := ((HNX.out.trans (HB1.out.mono HNX.out.size)).alloc (by omega) _).grown hgrow (by simp; omega) (fun k hk => by have := (hown.lt k hk).1; omega)
      have R3 : Hid (w1.heap[w.heap.size]? = wB.heap[w.heap.size]?) := Lib.hid (by
        refine (hgrow.block w.heap.size (by rw [size_alloc]; omega) (fun e => ?_)).trans ((Below.heap_alloc W1 _ _ (by omega)).trans ((HB1.out.block _ (by omega)).trans HE.out))
        have := (hown.lt _ e.symm).1
        omega)
      clear hown' hgrow hown
      go_wp2
      go_roundw
      case rel => exact ⟨j + 1, by omega, by go_num, R1, R3, R2⟩
      case measure => simp [intOf]; omega
    · obtain rfl : j = N := by omega
      have HEND := Lib.hid (rowN_of_own (l := margL F u T j) (margL_len _ _ _ _).symm HO.out)
      go_wp2
      go_ret
      obtain ⟨t, ht, htl, hto, hti⟩ := HEND.out
      exact ⟨t, congrArg Ending.returned ht, htl, hto, hti.wide (by omega) (Nat.le_refl _), HNX.out⟩

set_option maxRecDepth 32000 in
set_option maxHeartbeats 2000000 in
theorem upper_any (F : Fld) (u : Int) (s : Row) (T : List Nat) (kk : Nat) (w : World) (hF : F.At w) (hs : s.At w) (hn : s.a ≠ none) (hf : Worthy F u s T) (hT : T.length ≤ 100) (hkk : kk ≤ 7) :
    Calls Try.prog 71 #[.agg #[.slice F.o.a F.o.l.length F.o.c, .slice F.t.a F.t.R.length F.t.c, .int .i64 u], .slice s.a s.l.length s.c, .int .i64 kk] w fun e w' => e = .returned (.int .i64 (upperT F u T kk)) ∧ Below w.heap.size w w' := by
  obtain ⟨wA, hA, hbA, bx, hFA, hszA⟩ := laid_val F u w 55 hF
  have x0 := bx.c0
  have x1 := bx.c1
  have x2 := bx.c2
  rw [hA] at x0 x1 x2
  have hsA := hs.on hbA
  have hsz := good_sizes (worthB_iff.1 hf.good).1
  obtain ⟨N, hN⟩ : ∃ N, N = F.o.l.length := ⟨_, rfl⟩
  obtain ⟨G0, hG0⟩ : ∃ x, x = gainT F u T := ⟨_, rfl⟩
  have hG0b := gainT_bound hf.good T
  rw [← hG0] at hG0b
  obtain ⟨P0, hP0⟩ : ∃ x, x = ((topL F u T N).take kk).sum := ⟨_, rfl⟩
  have hP0b : 0 ≤ P0 ∧ P0 ≤ 48951 := by
    have h1 := take_bnd (topL_bound hf.good T N) kk
    have h2 : ((topL F u T N).take kk).length ≤ 7 := by rw [List.length_take]; omega
    rw [← hP0] at h1
    omega
  have CM := Lib.hid (show Calls Try.prog 84 #[.agg #[.slice F.o.a F.o.l.length F.o.c, .slice F.t.a F.t.R.length F.t.c, .int .i64 u], .slice s.a s.l.length s.c] wA fun e w' => ∃ t : Row, e = .returned (.slice t.a t.l.length t.c) ∧ t.l = margL F u T N ∧ t.Own 3 w' ∧ t.In wA.heap.size w'.heap.size w' ∧ Below wA.heap.size wA w' from by rw [hN]; exact marginals_any F u s T wA hFA hsA hn hf hT)
  have CG := Lib.hid (fun W (hW : Below wA.heap.size wA W) => (show Calls Try.prog 42 #[.agg #[.slice F.o.a F.o.l.length F.o.c, .slice F.t.a F.t.R.length F.t.c, .int .i64 u], .slice s.a s.l.length s.c] W fun e w' => e = .returned (.int .i64 G0) ∧ Below W.heap.size W w' from by
    have := gain_any F u s T W (hFA.on hW) (hsA.on hW) hf
    rw [← hG0] at this; exact this))
  have HU : Hid (upperT F u T kk = G0 + P0) := Lib.hid (by rw [hG0, hP0, hN]; rfl)
  have HTS : Hid (((sortA (margL F u T N)).drop (N - kk)).sum = P0) := Lib.hid (by rw [hP0]; exact top_sum hf.good T N kk)
  have HMB := Lib.hid (margL_bound hf.good T N)
  have HA := Lib.hid hA.symm
  have HBA := Lib.hid hbA
  have HBX := Lib.hid bx
  have hN7 : N ≤ 7 := by omega
  have hN1 : 1 ≤ N := by omega
  clear hF hs hn hf hT hA hbA bx hFA hszA hsA hsz hN hG0 hP0
  go_enter Try.func71, Try.ntmps71
  go_wp2_with fail
  rw [HA.out]
  clear x0 x1 x2
  refine (show Calls _ _ _ _ _ from CM.out).mono ?_
  rintro e W1 ⟨t, rfl, htl, hto, hti, hb1⟩
  have htn : t.l.length = N := by rw [htl, margL_len]
  have CS := Lib.hid (by have := sortRow_any t wA.heap.size W1 hto hti (by omega) hb1.size; rw [htl] at this; exact this)
  have HB1 := Lib.hid hb1
  have HTN := Lib.hid htn
  have HTL := Lib.hid htl
  rw [htl, margL_len]
  rw [margL_len] at CS
  clear hto hti hb1 htn htl
  go_wp2_with fail
  refine (show Calls _ _ _ _ _ from CS.out).mono ?_
  rintro e W2 ⟨rfl, hro, hri, hb2⟩
  have HB2 := Lib.hid (HB1.out.trans (hb2.mono (Nat.le_refl _)))
  have hd : N - kk ≤ N := Nat.sub_le _ _
  obtain ⟨d, hdd⟩ : ∃ d, d = N - kk := ⟨_, rfl⟩
  rw [← hdd] at hd HTS
  have HDL : Hid ((sortA (margL F u T N)).length = N) := Lib.hid (by rw [sortA_len, margL_len])
  have HSB : Hid (∀ x ∈ sortA (margL F u T N), 0 ≤ x ∧ x ≤ 6993) := Lib.hid fun x hx => HMB.out x ((sortA_perm _).mem_iff.1 hx)
  have hcap : N ≤ t.c ∧ t.c ≤ maxLen := by
    obtain ⟨q1, q2, _⟩ := hri
    rw [iv_length] at q1
    have := HDL.out
    simp only at q1 q2
    omega
  -- the part of the row from d on
  have CSUM := Lib.hid (fun W (hW : Below W2.heap.size W2 W) (a : Option Addr) (ha : d < N → ∃ g, t.a = some ⟨g, 0, none⟩ ∧ a = some ⟨g, d, none⟩) => (show Calls Try.prog 86 #[.slice a (N - d) (t.c - d)] W fun e w' => e = .returned (.int .i64 P0) ∧ w' = W from by
    obtain ⟨l, hl⟩ : ∃ l, l = (sortA (margL F u T N)).drop d := ⟨_, rfl⟩
    have hll : l.length = N - d := by rw [hl, List.length_drop, HDL.out]
    have hat : (Row.mk a (t.c - d) l).At W := by
      refine ⟨by rw [iv_length, hll]; show N - d ≤ t.c - d; omega, by show t.c - d ≤ maxLen; omega, ?_⟩
      by_cases hdn : d < N
      · obtain ⟨g, h1, h2⟩ := ha hdn
        obtain ⟨_, _, q3⟩ := hri.on hW
        rcases q3 with q3 | ⟨b, o, e, p1, p2, p3, p4⟩
        · have := congrArg List.length (iv_nil q3); rw [HDL.out, List.length_nil] at this; omega
        · simp only at e p4
          rw [h1] at e
          simp only [Option.some.injEq, Addr.mk.injEq] at e
          obtain ⟨rfl, rfl, _⟩ := e
          refine .inr ⟨g, d, h2, p3, fun j x hj => ?_⟩
          have hjl : j < l.length := by have := (List.getElem?_eq_some_iff.1 hj).1; rwa [iv_length] at this
          rw [iv_at hjl] at hj
          have := p4 (d + j) (.int .i64 l[j]) (by rw [iv_at (by rw [HDL.out]; omega)]; simp only [hl, List.getElem_drop])
          rw [Nat.zero_add] at this
          rw [this]; exact hj
      · exact .inl (by rw [List.eq_nil_of_length_eq_zero (show l.length = 0 by omega)]; rfl)
    have := sumOfW_any ⟨a, t.c - d, l⟩ W hat (fun x hx => HSB.out x (List.mem_of_mem_drop (by rw [← hl]; exact hx))) (by show l.length ≤ 1000; omega)
    simp only at this
    rw [hll, hl, HTS.out] at this
    exact this))
  have HADR : Hid (∃ g, t.a = some ⟨g, 0, none⟩) := Lib.hid (by
    rcases hro with hro | ⟨g, hg, _⟩
    · have h2 := congrArg List.length (show sortA (margL F u T N) = [] from hro); rw [HDL.out, List.length_nil] at h2; omega
    · exact ⟨g, hg⟩)
  have HS : Hid (∀ U, Below W2.heap.size W2 U → ((U.cell? ⟨w.heap.size, 0, none⟩ = some (.slice F.o.a F.o.l.length F.o.c) ∧ U.cell? ⟨w.heap.size, 1, none⟩ = some (.slice F.t.a F.t.R.length F.t.c) ∧ U.cell? ⟨w.heap.size, 2, none⟩ = some (.int .i64 u)) ∧ Below W2.heap.size W2 U)) := Lib.hid fun U hU => by
    have hb := HB2.out.trans (hU.mono HB2.out.size)
    exact ⟨⟨(HBX.out.on hb).c0, (HBX.out.on hb).c1, (HBX.out.on hb).c2⟩, hU⟩
  have s0 := HS.out W2.drew (Below.refl _ _).drew
  have CG2 := Lib.hid (fun W (hW : Below W2.heap.size W2 W) => CG.out W (HB2.out.trans (hW.mono HB2.out.size)))
  have HFIN := Lib.hid (HBA.out.trans (HB2.out.mono HBA.out.size))
  obtain ⟨hcap1, hcap2⟩ := hcap
  have hNi : (N : Int) ≤ 7 := by omega
  have hki : (kk : Int) ≤ 7 := by omega
  obtain ⟨ta, hta⟩ : ∃ a, a = t.a := ⟨_, rfl⟩
  obtain ⟨tc, htc⟩ : ∃ c, c = t.c := ⟨_, rfl⟩
  rw [← htc] at hcap1 hcap2 CSUM ⊢
  rw [← hta] at HADR CSUM ⊢
  have e1 : -9223372036854775808 ≤ G0 + P0 := by omega
  have e2 : G0 + P0 ≤ 9223372036854775807 := by omega
  clear hro hri hb2 hta htc
  obtain ⟨g, hg⟩ := HADR.out
  subst hg
  have HDD := Lib.hid hdd
  clear HADR
  by_cases hkN : kk < N
  · have hkNi : (kk : Int) < (N : Int) := by omega
    have hwd : IntKind.i64.wrap ((N : Int) - (kk : Int)) = (d : Int) := by rw [IntWalk.i64_in _ (by omega), HDD.out]; omega
    have hdi : (d : Int) ≤ (N : Int) := by omega
    have hd0 : (0 : Int) < (d : Int) := by omega
    by_cases hcd : tc = d
    · have hnd : ¬ d < N := by omega
      have HND := Lib.hid hnd
      have CSUM0 := CSUM
      have CSUM : Hid (∀ W, Below W2.heap.size W2 W → ∀ (a : Option Addr), Calls Try.prog 86 #[.slice a (N - d) 0] W fun e w' => e = .returned (.int .i64 P0) ∧ w' = W) := Lib.hid fun W hW a => by
        have := CSUM0.out W hW a (fun h => absurd h HND.out)
        rw [hcd, Nat.sub_self] at this; exact this
      have HCD := Lib.hid hcd
      have hcd' : (if tc = d then (1 : Nat) else 0) = 1 := if_pos hcd
      clear hdd hkN hnd CSUM0 hcd'
      go_wp2_with fail
      go_region_held3 (fun U => ((U.cell? ⟨w.heap.size, 0, none⟩ = some (.slice F.o.a F.o.l.length F.o.c) ∧ U.cell? ⟨w.heap.size, 1, none⟩ = some (.slice F.t.a F.t.R.length F.t.c) ∧ U.cell? ⟨w.heap.size, 2, none⟩ = some (.int .i64 u)) ∧ Below W2.heap.size W2 U)) (first | exact s0 | assumption | exact keep_reg HS.out (by first | assumption | exact And.right (by assumption)) hb1) (first | (go_at_call 42; refine (show Calls _ _ _ _ _ from CG2.out _ (by first | assumption | exact And.right (by assumption))).mono ?_; rintro e u1 ⟨rfl, hb1⟩) | (go_at_call 86; refine (show Calls _ _ _ _ _ from CSUM.out _ (by first | assumption | exact And.right (by assumption)) _).mono ?_; rintro e u2 ⟨rfl, rfl⟩))
      all_goals
        refine at_exit (W := W2) (by first | assumption | exact And.right (by assumption)) ?_
        intro W8 hb8
        have hw : IntKind.i64.wrap (G0 + P0) = G0 + P0 := IntWalk.i64_in _ (by omega)
        go_wp2
        go_ret
        exact ⟨by rw [HU.out]; first | rfl | exact congrArg (fun z => Ending.returned (.int .i64 z)) hw, HFIN.out.trans (hb8.mono HFIN.out.size)⟩
    · clear hdd hkN
      go_wp2_with fail
      go_region_held3 (fun U => ((U.cell? ⟨w.heap.size, 0, none⟩ = some (.slice F.o.a F.o.l.length F.o.c) ∧ U.cell? ⟨w.heap.size, 1, none⟩ = some (.slice F.t.a F.t.R.length F.t.c) ∧ U.cell? ⟨w.heap.size, 2, none⟩ = some (.int .i64 u)) ∧ Below W2.heap.size W2 U)) (first | exact s0 | assumption | exact keep_reg HS.out (by first | assumption | exact And.right (by assumption)) hb1) (first | (go_at_call 42; refine (show Calls _ _ _ _ _ from CG2.out _ (by first | assumption | exact And.right (by assumption))).mono ?_; rintro e u1 ⟨rfl, hb1⟩) | (go_at_call 86; refine (show Calls _ _ _ _ _ from CSUM.out _ (by first | assumption | exact And.right (by assumption)) (some ⟨g, d, none⟩) (fun _ => ⟨g, rfl, rfl⟩)).mono ?_; rintro e u2 ⟨rfl, rfl⟩))
      all_goals
        refine at_exit (W := W2) (by first | assumption | exact And.right (by assumption)) ?_
        intro W8 hb8
        have hw : IntKind.i64.wrap (G0 + P0) = G0 + P0 := IntWalk.i64_in _ (by omega)
        go_wp2
        go_ret
        exact ⟨by rw [HU.out]; first | rfl | exact congrArg (fun z => Ending.returned (.int .i64 z)) hw, HFIN.out.trans (hb8.mono HFIN.out.size)⟩
  · have hkNi : ¬ (kk : Int) < (N : Int) := by omega
    obtain rfl : d = 0 := by omega
    have hw0 : IntKind.i64.wrap ((N : Int) - (kk : Int)) = (N : Int) - (kk : Int) := IntWalk.i64_in _ (by omega)
    have hcd : ¬ tc = 0 := by omega
    have CSUM0 := CSUM
    have CSUM : Hid (∀ W, Below W2.heap.size W2 W → ∀ (a : Option Addr), (0 < N → ∃ g', some (Addr.mk g 0 none) = some ⟨g', 0, none⟩ ∧ a = some ⟨g', 0, none⟩) → Calls Try.prog 86 #[.slice a N tc] W fun e w' => e = .returned (.int .i64 P0) ∧ w' = W) := Lib.hid fun W hW a ha => CSUM0.out W hW a ha
    have hmx : (max 0 ((N : Int) - (kk : Int))) = 0 := by omega
    have hle0 : (N : Int) - (kk : Int) ≤ 0 := by omega
    have hlt0 : ¬ (0 : Int) < (N : Int) - (kk : Int) := by omega
    clear hdd CSUM0
    go_wp2_with fail
    go_region_held3 (fun U => ((U.cell? ⟨w.heap.size, 0, none⟩ = some (.slice F.o.a F.o.l.length F.o.c) ∧ U.cell? ⟨w.heap.size, 1, none⟩ = some (.slice F.t.a F.t.R.length F.t.c) ∧ U.cell? ⟨w.heap.size, 2, none⟩ = some (.int .i64 u)) ∧ Below W2.heap.size W2 U)) (first | exact s0 | assumption | exact keep_reg HS.out (by first | assumption | exact And.right (by assumption)) hb1) (first | (go_at_call 42; refine (show Calls _ _ _ _ _ from CG2.out _ (by first | assumption | exact And.right (by assumption))).mono ?_; rintro e u1 ⟨rfl, hb1⟩) | (go_at_call 86; refine (show Calls _ _ _ _ _ from CSUM.out _ (by first | assumption | exact And.right (by assumption)) (some ⟨g, 0, none⟩) (fun _ => ⟨g, rfl, rfl⟩)).mono ?_; rintro e u2 ⟨rfl, rfl⟩))
    all_goals
      refine at_exit (W := W2) (by first | assumption | exact And.right (by assumption)) ?_
      intro W8 hb8
      have hw : IntKind.i64.wrap (G0 + P0) = G0 + P0 := IntWalk.i64_in _ (by omega)
      go_wp2
      go_ret
      exact ⟨by rw [HU.out]; first | rfl | exact congrArg (fun z => Ending.returned (.int .i64 z)) hw, HFIN.out.trans (hb8.mono HFIN.out.size)⟩
end Go.Proofs.Ytmddijibplkngaa
