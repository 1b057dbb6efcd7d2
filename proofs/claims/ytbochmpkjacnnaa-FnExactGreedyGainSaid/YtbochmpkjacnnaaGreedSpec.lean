/- Sites taken greedily, the model's side. Condition: a valid Field and worth. -/
import Derived.Test.YtbochmpkjacnnaaPlainGreedG
import Derived.Test.YtbochmpkjacnnaaMargSpec
import Derived.Test.YtbochmpkjacnnaaMargImpl
namespace Go.Proofs.Ytbochmpkjacnnaa
open Go.RowKit Go.Shelf

set_option maxRecDepth 32000 in
set_option maxHeartbeats 1500000 in
theorem l8Next_any (F : Fld) (u : Int) (s : Row) (T : List Nat) (w : World) (hF : F.At w) (hs : s.At w) (hw : s.Whole 3 w) (hf : Worthy F u s T) (hT : T.length ≤ 100) :
    Calls Try.prog 75 #[.agg #[.slice F.o.a F.o.l.length F.o.c, .slice F.t.a F.t.R.length F.t.c], .int .i64 u, .slice s.a s.l.length s.c] w fun e w' => e = .returned (.tuple #[.int .i64 (bestM F u T F.o.l.length).1, .int .i64 (bestM F u T F.o.l.length).2]) ∧ Below w.heap.size w w' := by
  obtain ⟨wA, hA⟩ : ∃ u, u = w.alloc (Obj.cells #[.slice F.o.a F.o.l.length F.o.c, .slice F.t.a F.t.R.length F.t.c] 29) := ⟨_, rfl⟩
  have hbA : Below w.heap.size w wA := by rw [hA]; exact below_alloc _ _
  have bx : Box2 wA w.heap.size (.slice F.o.a F.o.l.length F.o.c) (.slice F.t.a F.t.R.length F.t.c) 29 := by rw [hA]; exact Box2.made w _ _ _
  have hFA := hF.on hbA
  have hsA := hs.on hbA
  have hwA := hw.on hbA
  have hsz := good_sizes (worthB_iff.1 hf.good).1
  have CM := Lib.hid (fun (j : Nat) (hj : j < F.o.l.length) (hjT : j ∉ T) W (hW : Below wA.heap.size wA W) => (show Calls Try.prog 54 #[.agg #[.slice F.o.a F.o.l.length F.o.c, .slice F.t.a F.t.R.length F.t.c], .int .i64 u, .slice s.a s.l.length s.c, .int .i64 (j : Int)] W fun e w' => e = .returned (.int .i64 (moreT F u T j)) ∧ Below W.heap.size W w' from
    l8More_any F u s T j W (hFA.on hW) (hsA.on hW) (hwA.on hW) hf hT hj hjT))
  have CH := Lib.hid (fun (j : Nat) W (hW : Below wA.heap.size wA W) => by have := l1Has_any s (j : Int) W (hsA.on hW); rw [hf.set, hasN, ← hf.set] at this; exact this)
  have HMB := Lib.hid (fun j => moreT_bound hf.good T j)
  have HBB := Lib.hid (fun j => bestM_bound hf.good T j)
  have HBX := Lib.hid bx
  have HA := Lib.hid hA.symm
  have HBA := Lib.hid hbA
  have hoi : (F.o.l.length : Int) ≤ 7 := by omega
  clear hF hs hw hf hT hA hbA bx hFA hsA hwA hsz
  go_enter Try.func75, Try.ntmps75
  go_wp2
  rw [HA.out]
  go_loopw [8, 9, 10, 11] (fun bv mv jv _ wr => ∃ j : Nat, j ≤ F.o.l.length ∧ jv = .int .i64 j ∧ bv = .int .i64 (bestM F u T j).1 ∧ mv = .int .i64 (bestM F u T j).2 ∧ Below wA.heap.size wA wr) (fun _ _ jv _ _ => F.o.l.length - (intOf jv).toNat)
  case atStart => exact ⟨0, Nat.zero_le _, rfl, rfl, rfl, Below.refl _ _⟩
  case round =>
    obtain ⟨j, hj, rfl, rfl, rfl, hnx⟩ := hrel
    have y0 := (HBX.out.on hnx).c0
    have y1 := (HBX.out.on hnx).c1
    have HNX := Lib.hid hnx
    by_cases hlt : j < F.o.l.length
    · have hlti : (j : Int) < (F.o.l.length : Int) := by omega
      obtain ⟨v, hv⟩ : ∃ v, v = decide (j ∈ T) := ⟨_, rfl⟩
      have CH1 := Lib.hid (by have := CH.out j wr hnx; rw [← hv] at this; exact this)
      obtain ⟨b, hb⟩ : ∃ b, b = (bestM F u T j).1 := ⟨_, rfl⟩
      obtain ⟨m, hm⟩ : ∃ m, m = (bestM F u T j).2 := ⟨_, rfl⟩
      obtain ⟨x, hx⟩ : ∃ x, x = moreT F u T j := ⟨_, rfl⟩
      have HST : Hid (bestM F u T (j + 1) = if v = false ∧ x > m then ((j : Int), x) else (b, m)) := Lib.hid (by
        rw [bestM, hv, hx, hm, hb]
        simp only [decide_eq_false_iff_not])
      have HJT : Hid (v = false → j ∉ T) := Lib.hid fun h => of_decide_eq_false (by rw [← hv]; exact h)
      have HXX := Lib.hid hx
      rw [← hb, ← hm]
      clear hv hnx hb hm hx
      go_wp2_with fail
      refine (show Calls _ _ _ _ _ from CH1.out).mono ?_
      rintro e W2 ⟨rfl, rfl⟩
      cases v with
      | true =>
        have HT1 : Hid (bestM F u T (j + 1) = (b, m)) := Lib.hid (by rw [HST.out, if_neg (fun h => Bool.noConfusion h.1)])
        clear y0 y1
        go_wp2
        go_roundw
        case rel => exact ⟨j + 1, by omega, by go_num, by rw [HT1.out], by rw [HT1.out], HNX.out⟩
        case measure => simp [intOf]; omega
      | false =>
        have CM1 := Lib.hid (by have := CM.out j hlt (HJT.out (by first | rfl | trivial)) W2 HNX.out; rw [← HXX.out] at this; exact this)
        go_wp2_with fail
        clear y0 y1
        refine (show Calls _ _ _ _ _ from CM1.out).mono ?_
        rintro e W3 ⟨rfl, hb3⟩
        have R2 := Lib.hid (HNX.out.trans (hb3.mono HNX.out.size))
        clear hb3
        by_cases hgt : x > m
        · have HT1 : Hid (bestM F u T (j + 1) = ((j : Int), x)) := Lib.hid (by rw [HST.out, if_pos ⟨by first | rfl | trivial, hgt⟩])
          go_wp2
          go_roundw
          case rel => exact ⟨j + 1, by omega, by go_num, by rw [HT1.out], by rw [HT1.out], R2.out⟩
          case measure => simp [intOf]; omega
        · have HT1 : Hid (bestM F u T (j + 1) = (b, m)) := Lib.hid (by rw [HST.out, if_neg (fun h => hgt h.2)])
          go_wp2
          go_roundw
          case rel => exact ⟨j + 1, by omega, by go_num, by rw [HT1.out], by rw [HT1.out], R2.out⟩
          case measure => simp [intOf]; omega
    · obtain rfl : j = F.o.l.length := by omega
      go_wp2
      go_ret2
      exact ⟨rfl, HBA.out.trans (HNX.out.mono HBA.out.size)⟩

theorem whole_of {e : TypeId} {w : World} {r : Row} (h : r.Own e w) (h0 : r.l ≠ []) : r.Whole e w := by
  rcases h with h | h
  · exact absurd h h0
  · exact h

set_option maxRecDepth 32000 in
set_option maxHeartbeats 2000000 in
theorem l8Greedy_any (F : Fld) (u : Int) (k : Nat) (w : World) (hF : F.At w) (hf : worthB F u = true) (hk : k ≤ 7) :
    Calls Try.prog 49 #[.agg #[.slice F.o.a F.o.l.length F.o.c, .slice F.t.a F.t.R.length F.t.c], .int .i64 u, .int .i64 k] w fun e w' => ∃ t : Row, e = .returned (.slice t.a t.l.length t.c) ∧ t.l = up (grG F u F.o.l.length k) ∧ t.Own 3 w' ∧ t.In w.heap.size w'.heap.size w' ∧ Below w.heap.size w w' := by
  obtain ⟨i0, hi, hz0, hz1, hz2⟩ := info_parts infoInt
  obtain ⟨wB, hB⟩ : ∃ wB, ((w.alloc (Obj.cells #[.slice F.o.a F.o.l.length F.o.c, .slice F.t.a F.t.R.length F.t.c] 29)).alloc (.cells #[] 3)).alloc (.cells #[] 3) = wB := ⟨_, rfl⟩
  have hbB : Below w.heap.size w wB := by rw [← hB]; exact (((below_alloc w _).alloc (by rw [size_alloc]; omega) _).alloc (by rw [size_alloc, size_alloc]; omega) _)
  have hown1 : wB.ownsRow (w.heap.size + 1) 3 1 (.slice (some ⟨w.heap.size + 1, 0, none⟩) 0 0) 0 (iv []) := by
    rw [← hB]
    have := (empty_own (w.alloc (Obj.cells #[.slice F.o.a F.o.l.length F.o.c, .slice F.t.a F.t.R.length F.t.c] 29))).alloc (.cells #[] 3)
    rw [size_alloc] at this; exact this
  have hown2 : wB.ownsRow (w.heap.size + 1) 3 1 (.slice (some ⟨w.heap.size + 1 + 1, 0, none⟩) 0 0) 0 (iv []) := by
    rw [← hB]
    have := owns_low (empty_own ((w.alloc (Obj.cells #[.slice F.o.a F.o.l.length F.o.c, .slice F.t.a F.t.R.length F.t.c] 29)).alloc (.cells #[] 3))) (B' := w.heap.size + 1) (by rw [size_alloc, size_alloc]; omega)
    rw [size_alloc, size_alloc] at this; exact this
  have bx : Box2 wB w.heap.size (.slice F.o.a F.o.l.length F.o.c) (.slice F.t.a F.t.R.length F.t.c) 29 := by
    rw [← hB]; exact ((Box2.made w _ _ _).later _).later _
  have hszB : wB.heap.size = w.heap.size + 1 + 1 + 1 := by rw [← hB, size_alloc, size_alloc, size_alloc]
  have hsz := good_sizes (worthB_iff.1 hf).1
  obtain ⟨n, hn⟩ : ∃ n, n = F.o.l.length := ⟨_, rfl⟩
  have hn7 : n ≤ 7 := by omega
  have hki : (k : Int) ≤ 7 := by omega
  -- what a set asks
  have CN := Lib.hid (fun (d : Nat) (t : Row) (U : List Nat) (W : World) (hW : Below w.heap.size w W) (ht : t.At W) (hw : t.Whole 3 W) (htl : t.l = up U) (hU : U.Perm (grG F u n d)) => (show Calls Try.prog 75 #[.agg #[.slice F.o.a F.o.l.length F.o.c, .slice F.t.a F.t.R.length F.t.c], .int .i64 u, .slice t.a t.l.length t.c] W fun e w' => e = .returned (.tuple #[.int .i64 (bestM F u (grG F u n d) n).1, .int .i64 (bestM F u (grG F u n d) n).2]) ∧ Below W.heap.size W w' from by
    have hg := grG_ok F u n d
    have h7 := grG_few F u n d
    have hl := hU.length_eq
    have := l8Next_any F u t U W (hF.on hW) ht hw ⟨hf, htl, fun m hm => by rw [← hn]; exact hg.lt m (hU.mem_iff.1 hm), by omega⟩ (by omega)
    rw [← bestM_perm F u hU, hn]; exact this))
  have CP := Lib.hid (fun (d i : Nat) (t : Row) (U : List Nat) (W : World) (hw : t.Whole 3 W) (htl : t.l = up U) (hU : U.Perm (grG F u n d)) (hi : i ∉ grG F u n d) => (show Calls Try.prog 53 #[.slice t.a t.l.length t.c, .int .i64 i] W fun e w' => ∃ (t' : Row) (V : List Nat), e = .returned (.slice t'.a t'.l.length t'.c) ∧ Hid (t'.l = up V ∧ V.Perm (grG F u n d ++ [i]) ∧ t'.Whole 3 w' ∧ t'.In W.heap.size w'.heap.size w') ∧ Below W.heap.size W w' from by
    obtain ⟨g, ha, ho⟩ := hw
    obtain ⟨V, hV1, hV2⟩ := put_up U i
    have h7 := grG_few F u n d
    have hl := hU.length_eq
    have := l1Put_any g t.c t.l (i : Int) W ho (by rw [htl, up_length]; omega) (by rw [htl, hasN]; exact decide_eq_false (fun h => hi (hU.mem_iff.1 h)))
    rw [← ha] at this
    refine this.mono ?_
    rintro e w' ⟨t', rfl, hl', ho', hi', hb'⟩
    rw [htl, hV1] at hl'
    refine ⟨t', V, rfl, Lib.hid ⟨hl', hV2.trans (hU.append_right [i]), whole_of ho' (fun h => ?_), hi'⟩, hb'⟩
    have h1 := hV2.length_eq
    rw [List.length_append] at h1
    have h2 := congrArg List.length (hl'.symm.trans h)
    rw [up_length, List.length_nil] at h2
    simp at h1; omega))
  have hns : ∀ d, Hid ((bestM F u (grG F u n d) n).2 = 0 → d ≤ k → grG F u n k = grG F u n d) := fun d => Lib.hid fun h hd => by
    have := grG_stop h (k - d)
    rw [show d + (k - d) = k by omega] at this; exact this
  have HNS := Lib.hid hns
  have HBD := Lib.hid (fun T => bestM_bound hf T n)
  have HOK := Lib.hid (fun d => bestM_ok F u (grG F u n d) n)
  have HFW := Lib.hid (fun d => grG_few F u n d)
  have HEMP : Hid (∀ W, Below wB.heap.size wB W → ∃ (t : Row) (U : List Nat), Value.slice (some ⟨w.heap.size + 1 + 1, 0, none⟩) 0 0 = .slice t.a t.l.length t.c ∧ Hid (t.l = up U ∧ U.Perm (grG F u n 0) ∧ t.Whole 3 W ∧ t.In w.heap.size W.heap.size W)) := Lib.hid fun W hW => by
    have ho := owns_below hown2 hW
    obtain ⟨t, ht, htl, hto, hti⟩ := row_of_own (l := []) (show W.ownsRow (w.heap.size + 1) 3 1 (.slice (some ⟨w.heap.size + 1 + 1, 0, none⟩) 0 0) ([] : List Int).length (iv []) from ho)
    refine ⟨t, [], ht, Lib.hid ⟨htl, List.Perm.refl _, ?_, hti.wide (by omega) (Nat.le_refl _)⟩⟩
    refine ⟨w.heap.size + 1 + 1, ?_, ?_⟩
    · simp only [Value.slice.injEq] at ht; exact ht.1.symm
    · have := owns_base ho
      rw [ht] at this
      have e : t.a = some ⟨w.heap.size + 1 + 1, 0, none⟩ := by simp only [Value.slice.injEq] at ht; exact ht.1.symm
      rw [e] at this
      rw [htl] at this ⊢
      exact this
  have HOW := Lib.hid hown1
  have HBB := Lib.hid hbB
  have HBX := Lib.hid bx
  have HB := Lib.hid hB
  have HSZ := Lib.hid hszB
  have HNN := Lib.hid hn
  clear hF hf hB hbB hown1 hown2 bx hsz hn hns hszB
  go_enter Try.func49, Try.ntmps49
  go_wp2
  go_loopw [7, 8, 9, 10] (fun out sv _ _ wr => ∃ (d g cap : Nat) (t : Row) (U : List Nat), d ≤ k ∧ sv = .slice t.a t.l.length t.c ∧ out = .slice (some ⟨g, 0, none⟩) d cap ∧ Hid ((grG F u n d).length = d) ∧ Hid (wr.ownsRow (w.heap.size + 1) 3 1 (.slice (some ⟨g, 0, none⟩) d cap) d (iv (up (grG F u n d)))) ∧ Hid (∀ x, t.a = some x → x.block ≠ g) ∧ Hid (t.l = up U ∧ U.Perm (grG F u n d) ∧ t.Whole 3 wr ∧ t.In w.heap.size wr.heap.size wr) ∧ Hid (wr.heap[w.heap.size]? = wB.heap[w.heap.size]?) ∧ Below w.heap.size w wr) (fun out _ _ _ _ => 8 - (match out with | .slice _ l _ => l | _ => 0))
  case atStart =>
    obtain ⟨t, U, ht, hU⟩ := HEMP.out wB (Below.refl _ _)
    have e := HB.out
    have h1 := HOW.out
    have h2 := HBB.out
    have h3 := hU.out
    clear HB
    subst e
    refine ⟨0, w.heap.size + 1, 0, t, U, Nat.zero_le _, ht, rfl, Lib.hid rfl, Lib.hid h1, Lib.hid (fun x hx => ?_), Lib.hid h3, Lib.hid rfl, h2⟩
    have e2 : t.a = some ⟨w.heap.size + 1 + 1, 0, none⟩ := by simp only [Value.slice.injEq] at ht; exact ht.1.symm
    rw [e2] at hx
    have := Option.some.inj hx
    rw [← this]; simp only; omega
  case round =>
    obtain ⟨d, g, cap, t, U, hd, rfl, rfl, HLEN, HO, HNE, HT, HE, hnx⟩ := hrel
    have HNX := Lib.hid hnx
    have hd7 : (d : Int) ≤ 7 := by omega
    by_cases hlt : d < k
    · have hlti : (d : Int) < (k : Int) := by omega
      have bw : Box2 wr w.heap.size (.slice F.o.a F.o.l.length F.o.c) (.slice F.t.a F.t.R.length F.t.c) 29 := HE.out.trans HBX.out
      have y0 := bw.c0
      have y1 := bw.c1
      have hszr : w.heap.size < wr.heap.size := bw.lt
      obtain ⟨bi, hbi⟩ : ∃ b, b = (bestM F u (grG F u n d) n).1 := ⟨_, rfl⟩
      obtain ⟨bm, hbm⟩ : ∃ b, b = (bestM F u (grG F u n d) n).2 := ⟨_, rfl⟩
      have CN1 := Lib.hid (by have := CN.out d t U wr hnx HT.out.2.2.2.at HT.out.2.2.1 HT.out.1 HT.out.2.1; rw [← hbi, ← hbm] at this; exact this)
      have HBI := Lib.hid hbi
      have HBM := Lib.hid hbm
      clear hnx hbi hbm bw
      go_wp2_with fail
      clear y0 y1
      refine (show Calls _ _ _ _ _ from CN1.out).mono ?_
      rintro e W1 ⟨rfl, hb1⟩
      have HB1 := Lib.hid hb1
      have hsz1 := hb1.size
      clear hb1
      by_cases hm0 : bm = 0
      · have HRES : Hid (grG F u n k = grG F u n d) := Lib.hid ((HNS.out d).out (by rw [← HBM.out]; exact hm0) (by omega))
        have HEND := Lib.hid (rowN_of_own (l := up (grG F u n d)) (n := d) (by rw [up_length, HLEN.out]) (owns_below HO.out HB1.out))
        have HF2 := Lib.hid (HNX.out.trans (HB1.out.mono HNX.out.size))
        go_wp2
        go_ret
        obtain ⟨t', ht, htl, hto, hti⟩ := HEND.out
        exact ⟨t', congrArg Ending.returned ht, by rw [← HNN.out, htl, HRES.out], hto, hti.wide (by omega) (Nat.le_refl _), HF2.out⟩
      · have he0 : (bm == 0) = false := by simp [hm0]
        obtain ⟨i, hin, hiT, hii⟩ : ∃ i : Nat, i < n ∧ i ∉ grG F u n d ∧ bi = (i : Int) := by
          rcases HOK.out d with ⟨_, h2⟩ | ⟨i, h1, h2, h3, _⟩
          · exact absurd (HBM.out.trans h2) hm0
          · exact ⟨i, h1, h2, HBI.out.trans h3⟩
        subst hii
        have HSTEP : Hid (grG F u n (d + 1) = grG F u n d ++ [i]) := Lib.hid (by
          rw [grG, if_neg (by rw [← HBM.out]; exact hm0), ← HBI.out, Int.toNat_natCast])
        have hown := owns_below HO.out HB1.out
        have HT1 : Hid (t.Whole 3 W1) := Lib.hid (HT.out.2.2.1.on HB1.out)
        have hi100 : (i : Int) ≤ 7 := by omega
        clear hm0
        go_wp2_with (at_builtin; refine wpList_append_lies _ rfl _ _ 22 rfl (w.heap.size + 1) 3 i0 (.int .i64 0) 1 8 Try.underlying22 hi hz0 hz1 hz2 rfl (by decide) _ _ _ rfl (hown.alloc _) ⟨W1.heap.size, 0, none⟩ 1 1 [.int .i64 (i : Int)] rfl rfl (one_cell _ _ _) (by simp [Value.oneCell']) (by omega) (by unfold maxLen; omega) (by omega) (by simp; omega) _ rfl ?_; intro g' cap' w1 hown' hgrow hat hlt1)
        have hbk : ∀ j, j < W1.heap.size → j ≠ g → w1.heap[j]? = W1.heap[j]? := fun j hj hne => (hgrow.block j (by rw [size_alloc]; omega) (fun e => hne (show j = g from Option.some.inj e))).trans (Below.heap_alloc W1 _ j hj)
        have hszw1 : W1.heap.size ≤ w1.heap.size := by have := hgrow.size; rw [size_alloc] at this; omega
        have HW1 : Hid (t.Whole 3 w1) := Lib.hid (by
          obtain ⟨tg, h1, h2⟩ := HT1.out
          exact ⟨tg, h1, owns_block h2 (hbk tg (owns_lt h2).1 (HNE.out ⟨tg, 0, none⟩ h1))⟩)
        have hgl := owns_lt hown
        have R2 : Hid (Below w.heap.size w w1) := Lib.hid ((HNX.out.trans (HB1.out.mono HNX.out.size)).alloc (by omega) (.cells #[.int .i64 (i : Int)] 3) |>.grown hgrow (by rw [size_alloc]; omega) (fun j hj => by have := (hown.lt j hj).1; omega))
        have HO1 : Hid (w1.ownsRow (w.heap.size + 1) 3 1 (.slice (some ⟨g', 0, none⟩) (d + 1) cap') (d + 1) (iv (up (grG F u n (d + 1))))) := Lib.hid (by
          rw [HSTEP.out, ← up_snocM]
          have : iv (up (grG F u n d) ++ [(i : Int)]) = iv (up (grG F u n d)) ++ [.int .i64 (i : Int)] := by simp [iv]
          rw [this]; exact hown')
        have HE1 : Hid (w1.heap[w.heap.size]? = wB.heap[w.heap.size]?) := Lib.hid ((hbk _ (by omega) (by omega)).trans ((HB1.out.block _ hszr).trans HE.out))
        have CP1 := Lib.hid (CP.out d i t U w1 HW1.out HT.out.1 HT.out.2.1 hiT)
        clear hown hown' hgrow hat hbk hgl
        go_wp2_with fail
        refine (show Calls _ _ _ _ _ from CP1.out).mono ?_
        rintro e W3 ⟨t', V, rfl, HV, hb3⟩
        have HB3 := Lib.hid hb3
        have HLEN1 : Hid ((grG F u n (d + 1)).length = d + 1) := Lib.hid (by rw [HSTEP.out, List.length_append, HLEN.out]; rfl)
        have HO3 : Hid (W3.ownsRow (w.heap.size + 1) 3 1 (.slice (some ⟨g', 0, none⟩) (d + 1) cap') (d + 1) (iv (up (grG F u n (d + 1))))) := Lib.hid (owns_below HO1.out hb3)
        have HT3 : Hid (t'.l = up V ∧ V.Perm (grG F u n (d + 1)) ∧ t'.Whole 3 W3 ∧ t'.In w.heap.size W3.heap.size W3) := Lib.hid ⟨HV.out.1, by rw [HSTEP.out]; exact HV.out.2.1, HV.out.2.2.1, HV.out.2.2.2.wide (by omega) (Nat.le_refl _)⟩
        have HNE3 : Hid (∀ x, t'.a = some x → x.block ≠ g') := Lib.hid (fun x hx => by
          have hne : t'.l ≠ [] := fun h => by
            have h1 := HV.out.2.1.length_eq
            have h2 := congrArg List.length (HV.out.1.symm.trans h)
            rw [up_length, List.length_nil] at h2
            rw [List.length_append] at h1
            simp at h1; omega
          obtain ⟨_, _, q3⟩ := HV.out.2.2.2
          rcases q3 with q3 | ⟨b, o, e, p1, _, _, _⟩
          · exact absurd (iv_nil q3) hne
          · rw [hx] at e
            have := Option.some.inj e
            rw [this]; simp only; omega)
        have HE3 : Hid (W3.heap[w.heap.size]? = wB.heap[w.heap.size]?) := Lib.hid ((hb3.block _ (by omega)).trans HE1.out)
        have R3 := Lib.hid (R2.out.trans (hb3.mono R2.out.size))
        clear hb3
        go_wp2
        go_roundw
        case rel => exact ⟨d + 1, g', cap', t', V, by omega, rfl, rfl, HLEN1, HO3, HNE3, HT3, HE3, R3.out⟩
        case measure => simp; omega
    · obtain rfl : d = k := by omega
      have HEND := Lib.hid (rowN_of_own (l := up (grG F u n d)) (n := d) (by rw [up_length, HLEN.out]) HO.out)
      clear hnx
      go_wp2
      go_ret
      obtain ⟨t', ht, htl, hto, hti⟩ := HEND.out
      exact ⟨t', congrArg Ending.returned ht, by rw [← HNN.out]; exact htl, hto, hti.wide (by omega) (Nat.le_refl _), HNX.out⟩
end Go.Proofs.Ytbochmpkjacnnaa
