/- The model's LargestFar, and both sides of it answer alike. Condition: the Field reads as such. -/
import Derived.Test.YtjeodblaekdpkaaLargest
import Derived.Test.YtjeodblaekdpkaaBits
import Derived.Test.YtjeodblaekdpkaaPost
namespace Go.Proofs.Ytjeodblaekdpkaa
open Go.RowKit

set_option maxHeartbeats 2000000 in
theorem l5Less_any (s t : Row) (T U : List Nat) (w : World) (hs : s.At w) (ht : t.At w) (hT : s.l = up T) (hU : t.l = up U) (hTn : T.length ≤ 7) (he : T.length = U.length) :
    Calls Try.prog 83 #[.slice s.a s.l.length s.c, .slice t.a t.l.length t.c] w fun e w' => e = .returned (.bool (lexB T U)) ∧ DrewTo w w' := by
  obtain ⟨a, c, l⟩ := s
  obtain ⟨a', c', l'⟩ := t
  obtain ⟨h1, h2, h3⟩ := hs
  obtain ⟨g1, g2, g3⟩ := ht
  simp only at hT hU h1 h2 h3 g1 g2 g3 ⊢
  subst hT; subst hU
  rw [up_length, up_length]
  obtain ⟨n, hn⟩ : ∃ n, n = T.length := ⟨_, rfl⟩
  have hm : n = U.length := by omega
  rw [← hm, ← hn]
  rw [← hn] at hTn
  have hni : (n : Int) ≤ 7 := by omega
  have HN := Lib.hid hn
  have HM := Lib.hid hm
  have HR := Lib.hid h3
  have HR' := Lib.hid g3
  clear h1 h2 h3 g1 g2 g3 hn hm he
  go_enter Try.func83, Try.ntmps83
  go_wp2
  go_loopw [5] (fun i wr => ∃ k : Nat, k ≤ n ∧ i = .int .i64 k ∧ DrewTo w wr ∧ T.take k = U.take k) (fun i _ => n - (intOf i).toNat)
  case atStart => exact ⟨0, Nat.zero_le _, rfl, DrewTo.refl _, rfl⟩
  case round =>
    obtain ⟨k, hk, rfl, hdw, htk⟩ := hrel
    have HTK := Lib.hid htk
    clear htk
    by_cases hlt : k < n
    · have hlti : (k : Int) < (n : Int) := by omega
      have hkT : k < T.length := by rw [← HN.out]; exact hlt
      have hkU : k < U.length := by rw [← HM.out]; exact hlt
      rcases HR.out with h3 | ⟨b, o, rfl, hb, hcell⟩
      · have h3' := congrArg List.length (iv_nil h3); rw [up_length, List.length_nil] at h3'; omega
      rcases HR'.out with h3 | ⟨b', o', rfl, hb', hcell'⟩
      · have h3' := congrArg List.length (iv_nil h3); rw [up_length, List.length_nil] at h3'; omega
      obtain ⟨x, hx⟩ : ∃ x, x = T[k] := ⟨_, rfl⟩
      obtain ⟨y, hy⟩ : ∃ y, y = U[k] := ⟨_, rfl⟩
      have hc1 : wr.cell? ⟨b, o + k, none⟩ = some (.int .i64 (x : Int)) := by rw [hdw.cell, hx, ← up_at hkT]; exact hcell k _ (iv_at _)
      have hc2 : wr.cell? ⟨b', o' + k, none⟩ = some (.int .i64 (y : Int)) := by rw [hdw.cell, hy, ← up_at hkU]; exact hcell' k _ (iv_at _)
      have HX := Lib.hid hx
      have HY := Lib.hid hy
      have hd := lexB_drop k T U (by omega) (by omega) HTK.out
      rw [List.drop_eq_getElem_cons hkT, List.drop_eq_getElem_cons hkU, lexB_cons, ← hx, ← hy] at hd
      have HD := Lib.hid hd
      clear hx hy hcell hcell' hd hb hb'
      by_cases hxy : x = y
      · have HS : Hid (T.take (k + 1) = U.take (k + 1)) := Lib.hid (by rw [List.take_succ_eq_append_getElem hkT, List.take_succ_eq_append_getElem hkU, HTK.out, ← HX.out, ← HY.out, hxy])
        subst hxy
        go_wp2
        go_quiet (fail)
        go_wp2
        go_roundw
        case rel => exact ⟨k + 1, by omega, by go_num, hdw.more _, HS.out⟩
        case measure => simp [intOf]; omega
      · have HE : Hid (lexB T U = decide (x < y)) := Lib.hid (by rw [HD.out, if_neg hxy])
        have hne : ((x : Int) != (y : Int)) = true := by simp; omega
        have hdl : decide ((x : Int) < (y : Int)) = decide (x < y) := by simp
        go_wp2
        go_quiet (fail)
        go_wp2
        go_quiet (fail)
        go_wp2
        go_ret
        exact ⟨by rw [HE.out]; simp, (hdw.more _).more _⟩
    · obtain rfl : k = n := by omega
      have HE : Hid (lexB T U = false) := Lib.hid (by
        rw [lexB_drop k T U (by rw [← HN.out]; exact Nat.le_refl _) (by rw [← HM.out]; exact Nat.le_refl _) HTK.out, List.drop_of_length_le (by rw [← HN.out]; exact Nat.le_refl _)]
        unfold lexB; rfl)
      go_wp2
      go_ret
      exact ⟨by rw [HE.out]; rfl, hdw⟩

set_option maxRecDepth 32000 in
set_option maxHeartbeats 3000000 in
theorem l5Most_any (F : Fld) (r : Int) (w : World) (hF : F.At w) (hg : F.good = true) :
    Calls Try.prog 53 #[F.val, .int .i64 r] w fun e w' => ∃ t : Row, e = .returned (.slice t.a t.l.length t.c) ∧ t.l = up (mostF F r) ∧ t.Own 3 w' ∧ t.In w.heap.size w'.heap.size w' ∧ Below w.heap.size w w' := by
  obtain ⟨wA, hA, hbA, bx, hFA, hszA⟩ := laid_fld F w 29 hF
  have HFA := Lib.hid hFA
  have HBX := Lib.hid bx
  have HA := Lib.hid hA
  have HG := Lib.hid hg
  have hsz := good_sizes hg
  obtain ⟨n, hn⟩ : ∃ n, n = F.t.R.length := ⟨_, rfl⟩
  have HN := Lib.hid hn
  have hn7 : n ≤ 7 := by omega
  have hni : (n : Int) ≤ 7 := by omega
  have hp2 : 2 ^ n ≤ 128 := by
    have : 2 ^ n ≤ 2 ^ 7 := Nat.pow_le_pow_right (by omega) hn7
    simpa using this
  obtain ⟨p, hp⟩ : ∃ p, p = farB F r := ⟨_, rfl⟩
  have HP := Lib.hid hp
  have HP0 : Hid (p [] = true) := Lib.hid (by rw [hp]; exact farB_nil F r)
  have HOK := Lib.hid (fun k (hk : k ≤ 2 ^ n) => most_ok hn7 p HP0.out k hk)
  have HPB := Lib.hid hp2
  obtain ⟨m, hm⟩ : ∃ m, m = 2 ^ n := ⟨_, rfl⟩
  have hpi : (2 : Int) ^ n = (m : Int) := by rw [hm]; push_cast; rfl
  have HM := Lib.hid hm
  have HMF : Hid (mostF F r = mostT p n m) := Lib.hid (by rw [hm, hn, hp]; rfl)
  rw [← hm] at hp2 HOK
  have hmi : (m : Int) ≤ 128 := by omega
  obtain ⟨w1, hw1⟩ : ∃ u, u = wA.alloc (.cells #[] 3) := ⟨_, rfl⟩
  have hb1 : Below wA.heap.size wA w1 := by rw [hw1]; exact below_alloc _ _
  obtain ⟨y0, hy0v, hy0l, hy0o, hy0i⟩ := row_of_own (empty_own wA)
  rw [← hw1] at hy0o hy0i
  have HW1 : Hid (w1 = (w.alloc (Obj.cells #[F.o.val, F.t.val] 29)).alloc (.cells #[] 3)) := Lib.hid (by rw [hw1, hA])
  have HSZ := Lib.hid hszA
  have HBA := Lib.hid hbA
  have HY0 : Hid (Value.slice (some ⟨w.heap.size + 1, 0, none⟩) 0 0 = .slice y0.a y0.l.length y0.c) := Lib.hid (by rw [← hszA]; exact hy0v)
  have HYL0 : Hid (y0.l = up (mostT p n 0)) := Lib.hid (by rw [hy0l]; rfl)
  have HYO0 := Lib.hid hy0o
  have HYI0 := Lib.hid hy0i
  have HB1 := Lib.hid hb1
  clear hF hA hFA bx hn hsz hp hm hw1 hb1 hy0v hy0l hy0o hy0i hszA hg hbA
  show Calls _ _ #[.agg #[F.o.val, F.t.val], _] w _
  go_enter Try.func53, Try.ntmps53
  go_wp2
  rw [← HW1.out, HY0.out]
  go_loopw [5, 6, 7] (fun bv i _ wr => ∃ (c : Nat) (y : Row), c ≤ m ∧ i = .int .i64 c ∧ bv = .slice y.a y.l.length y.c ∧ Hid (y.l = up (mostT p n c)) ∧ Hid (y.Own 3 wr) ∧ Hid (y.In wA.heap.size wr.heap.size wr) ∧ Below wA.heap.size wA wr) (fun _ i _ _ => m - (intOf i).toNat)
  case atStart => exact ⟨0, y0, Nat.zero_le _, rfl, rfl, HYL0, HYO0, HYI0, HB1.out⟩
  case round =>
    obtain ⟨c, y, hc, rfl, rfl, HYL, HYO, HYI, hnx⟩ := hrel
    have HNX := Lib.hid hnx
    have hszr := hnx.size
    have y0 := (HBX.out.on hnx).c0
    have y1 : wr.cell? ⟨w.heap.size, 1, none⟩ = some (.slice F.t.a n F.t.c) := by rw [HN.out]; exact (HBX.out.on hnx).c1
    by_cases hlt : c < m
    · have hlti : (c : Int) < (m : Int) := by omega
      have CB := Lib.hid (l2Bits_any n c wr hn7 (by omega))
      obtain ⟨U, hU⟩ : ∃ U, U = mostT p n c := ⟨_, rfl⟩
      have hok := HOK.out c (by omega)
      rw [← hU] at hok HYL
      have HOKU := Lib.hid hok
      have HUE := Lib.hid hU
      have hyl7 : (y.l.length : Int) ≤ 7 := by rw [HYL.out, up_length]; have := hok.1; omega
      clear hok hU hnx
      go_wp2_with fail
      refine CB.out.mono ?_
      rintro e W2 ⟨t, rfl, htl, hto, hti, hb2⟩
      obtain ⟨T, hT⟩ : ∃ T, T = bitsT n c := ⟨_, rfl⟩
      rw [← hT] at htl
      have hT7 : T.length ≤ 7 := by rw [hT]; exact Nat.le_trans (bitsTo_len c n) hn7
      have hTlt : ∀ x ∈ T, x < n := by rw [hT]; intro x hx; unfold bitsT at hx; exact List.mem_range.1 (List.mem_filter.1 hx).1
      have htl7 : (t.l.length : Int) ≤ 7 := by rw [htl, up_length]; omega
      have HST : Hid (mostT p n (c + 1) = stepM p U T) := Lib.hid (by rw [most_step, ← HUE.out, hT])
      obtain ⟨v, hv⟩ : ∃ v, v = p T := ⟨_, rfl⟩
      have HB2 := Lib.hid (HNX.out.trans (hb2.mono hszr))
      have hW2 := hb2.size
      have HTY := Lib.hid (htl)
      have hln1 : t.l.length = T.length := by rw [htl, up_length]
      have hln2 : y.l.length = U.length := by rw [HYL.out, up_length]
      have CL := Lib.hid (fun (he : T.length = U.length) => l5Less_any t y T U W2 hti.at ((HYI.out.on hb2).at) htl HYL.out hT7 he)
      have CF := Lib.hid (fun u (hu : Below W2.heap.size W2 u) => by
        have := l5Far_any F t T r u ((HFA.out.on HB2.out).on hu) ((hti.on hu).at) HG.out htl (by rw [← HN.out]; exact hTlt) (by omega)
        rw [show farUp F r T T.length = v by rw [hv, HP.out]; rfl] at this; exact this : ∀ u, Below W2.heap.size W2 u → Calls Try.prog 84 #[.agg #[F.o.val, F.t.val], .slice t.a t.l.length t.c, .int .i64 r] u fun e w' => e = .returned (.bool v) ∧ Below u.heap.size u w')
      have HXC : Hid (∀ u, Below W2.heap.size W2 u → u.cell? ⟨w.heap.size, 0, none⟩ = some F.o.val ∧ u.cell? ⟨w.heap.size, 1, none⟩ = some F.t.val) := Lib.hid fun u hu => ⟨((HBX.out.on HB2.out).on hu).c0, ((HBX.out.on HB2.out).on hu).c1⟩
      have HYES : Hid (moreT T U = true → v = true → t.l = up (mostT p n (c + 1))) := Lib.hid fun h1 h2 => by rw [HST.out]; unfold stepM; rw [if_pos ⟨h1, by rw [← hv]; exact h2⟩, htl]
      have HNOT : Hid (moreT T U = false ∨ v = false → y.l = up (mostT p n (c + 1))) := Lib.hid fun h => by
        rw [HST.out]; unfold stepM
        rw [if_neg (fun h' => by rcases h with h | h; · rw [h] at h'; cases h'.1
                                 · rw [h] at hv; rw [← hv] at h'; cases h'.2)]; exact HYL.out
      have HTO := Lib.hid hto
      have HTI := Lib.hid (hti.wide hszr (Nat.le_refl _))
      have HYO2 := Lib.hid (HYO.out.on hb2)
      have HYI2 := Lib.hid ((HYI.out.on hb2).wide (Nat.le_refl _) hW2)
      have z0 := (HXC.out W2 (Below.refl _ _)).1
      have z1 := (HXC.out W2 (Below.refl _ _)).2
      have HLN := Lib.hid (And.intro hln1 hln2)
      clear htl hto hti hb2 hT hv hln1 hln2 y0 y1
      by_cases hgt : y.l.length < t.l.length
      · have hgti : (y.l.length : Int) < (t.l.length : Int) := by omega
        have HMO : Hid (moreT T U = true) := Lib.hid (by unfold moreT; rw [decide_eq_true (by have := HLN.out; omega)]; rfl)
        go_wp2_with fail
        refine (show Calls _ _ _ _ _ from CF.out W2 (Below.refl _ _)).mono ?_
        rintro e W3 ⟨rfl, hb3⟩
        have HB3 := Lib.hid (HB2.out.trans (hb3.mono HB2.out.size))
        have HC3 := Lib.hid hb3
        clear hb3 z0 z1
        cases v with
        | true =>
          have HE := Lib.hid (HYES.out HMO.out rfl)
          go_wp2
          go_roundw
          case rel => exact ⟨c + 1, t, by omega, by go_num, rfl, HE, Lib.hid (HTO.out.on HC3.out), Lib.hid ((HTI.out.on HC3.out).wide (Nat.le_refl _) HC3.out.size), HB3.out⟩
          case measure => simp [intOf]; omega
        | false =>
          have HE := Lib.hid (HNOT.out (.inr rfl))
          go_wp2
          go_roundw
          case rel => exact ⟨c + 1, y, by omega, by go_num, rfl, HE, Lib.hid (HYO2.out.on HC3.out), Lib.hid ((HYI2.out.on HC3.out).wide (Nat.le_refl _) HC3.out.size), HB3.out⟩
          case measure => simp [intOf]; omega
      · have hgti : ¬ (y.l.length : Int) < (t.l.length : Int) := by omega
        by_cases heq : t.l.length = y.l.length
        · have heqi : ((t.l.length : Int) == (y.l.length : Int)) = true := by simp; omega
          have CL1 := Lib.hid (CL.out (by have := HLN.out; omega))
          have HMO : Hid (moreT T U = lexB T U) := Lib.hid (by unfold moreT; rw [decide_eq_false (by have := HLN.out; omega), decide_eq_true (by have := HLN.out; omega)]; simp)
          obtain ⟨x, hx⟩ : ∃ x, x = lexB T U := ⟨_, rfl⟩
          rw [← hx] at CL1 HMO
          clear hx heq
          go_wp2_with fail
          refine (show Calls _ _ _ _ _ from CL1.out).mono ?_
          rintro e W3 ⟨rfl, hd3⟩
          have hb3 := hd3.below
          have HB3 := Lib.hid (HB2.out.trans (hb3.mono HB2.out.size))
          have HC3 := Lib.hid hb3
          have hW3 := hb3.size
          clear hd3 hb3 z0 z1
          cases x with
          | true =>
            have z0 := (HXC.out W3 HC3.out).1
            have z1 := (HXC.out W3 HC3.out).2
            go_wp2_with fail
            refine (show Calls _ _ _ _ _ from CF.out W3 HC3.out).mono ?_
            rintro e W4 ⟨rfl, hb4⟩
            have HB4 := Lib.hid (HB3.out.trans (hb4.mono HB3.out.size))
            have HC4 := Lib.hid (HC3.out.trans (hb4.mono hW3))
            clear hb4 z0 z1
            cases v with
            | true =>
              have HE := Lib.hid (HYES.out HMO.out rfl)
              go_wp2
              go_roundw
              case rel => exact ⟨c + 1, t, by omega, by go_num, rfl, HE, Lib.hid (HTO.out.on HC4.out), Lib.hid ((HTI.out.on HC4.out).wide (Nat.le_refl _) HC4.out.size), HB4.out⟩
              case measure => simp [intOf]; omega
            | false =>
              have HE := Lib.hid (HNOT.out (.inr rfl))
              go_wp2
              go_roundw
              case rel => exact ⟨c + 1, y, by omega, by go_num, rfl, HE, Lib.hid (HYO2.out.on HC4.out), Lib.hid ((HYI2.out.on HC4.out).wide (Nat.le_refl _) HC4.out.size), HB4.out⟩
              case measure => simp [intOf]; omega
          | false =>
            have HE := Lib.hid (HNOT.out (.inl HMO.out))
            go_wp2
            go_roundw
            case rel => exact ⟨c + 1, y, by omega, by go_num, rfl, HE, Lib.hid (HYO2.out.on HC3.out), Lib.hid ((HYI2.out.on HC3.out).wide (Nat.le_refl _) HC3.out.size), HB3.out⟩
            case measure => simp [intOf]; omega
        · have heqi : ((t.l.length : Int) == (y.l.length : Int)) = false := by simp; omega
          have HMO : Hid (moreT T U = false) := Lib.hid (by unfold moreT; rw [decide_eq_false (by have := HLN.out; omega), decide_eq_false (by have := HLN.out; omega)]; rfl)
          have HE := Lib.hid (HNOT.out (.inl HMO.out))
          clear heq
          go_wp2
          go_roundw
          case rel => exact ⟨c + 1, y, by omega, by go_num, rfl, HE, HYO2, HYI2, HB2.out⟩
          case measure => simp [intOf]; omega
    · obtain rfl : c = m := by omega
      go_wp2
      go_ret
      exact ⟨y, rfl, by rw [HMF.out]; exact HYL.out, HYO.out, HYI.out.wide HBA.out.size (Nat.le_refl _), HBA.out.trans (hnx.mono HBA.out.size)⟩

set_option maxRecDepth 16000 in
set_option maxHeartbeats 1000000 in
theorem specLargest_any (F : Fld) (r : Int) (w : World) (hF : F.At w) (l : List Int) (b : Bool) (hv : Larg F r l b) :
    Calls Try.prog 24 #[F.val, .int .i64 r] w (PInts l b w) := by
  obtain ⟨wA, hA, hbA, bx, hFA, hszA⟩ := laid_fld F w 29 hF
  have HFA := Lib.hid hFA
  have HBX := Lib.hid bx
  have HA := Lib.hid hA
  have HN0 := Lib.hid (larg_no hv)
  have HY0 := Lib.hid (larg_yes hv)
  obtain ⟨g, hg⟩ : ∃ g, g = F.good := ⟨_, rfl⟩
  have CG := l2Good_any F wA hFA
  rw [← hg] at CG
  have CG1 := Lib.hid CG
  have HG := Lib.hid hg
  have x0 := bx.c0
  have x1 := bx.c1
  rw [hA] at x0 x1
  clear hF hA hFA bx hg CG hv
  show Calls _ _ #[.agg #[F.o.val, F.t.val], _] w _
  go_enter Try.func24, Try.ntmps24
  go_wp2_with fail
  rw [show w.alloc (Obj.cells #[F.o.val, F.t.val] 29) = wA from HA.out.symm]
  refine (show Calls _ _ _ _ _ from CG1.out).mono ?_
  rintro e W1 ⟨rfl, hb1⟩
  have hbw := hbA.trans (hb1.mono hbA.size)
  have HEND : Hid (PInts [] false w (.returned (.tuple #[.slice (some ⟨W1.heap.size, 0, none⟩) 0 0, .bool false])) (W1.alloc (.cells #[] 3))) := Lib.hid (ints_end rfl (empty_own W1) hbw.size (hbw.trans ((below_alloc W1 _).mono hbw.size)))
  clear x0 x1
  cases g with
  | false =>
    obtain ⟨rfl, rfl⟩ := HN0.out (by rw [← HG.out]; rfl)
    clear hb1 hbw
    go_wp2
    go_ret2
    exact HEND.out
  | true =>
    by_cases hr0 : r < 0
    · obtain ⟨rfl, rfl⟩ := HN0.out (by rw [← HG.out]; simp; omega)
      clear hb1 hbw
      go_wp2
      go_ret2
      exact HEND.out
    obtain ⟨rfl, rfl⟩ := HY0.out (by rw [← HG.out]; simp; omega)
    have y0 := (HBX.out.on hb1).c0
    have y1 := (HBX.out.on hb1).c1
    have CM := Lib.hid (l5Most_any F r W1 (HFA.out.on hb1) HG.out.symm)
    clear hb1
    go_wp2_with fail
    refine (show Calls _ _ _ _ _ from CM.out).mono ?_
    rintro e W2 ⟨t, rfl, htl, hto, hti, hb2⟩
    have HTL := Lib.hid htl
    clear htl y0 y1
    go_wp2
    go_ret2
    exact ⟨t, rfl, HTL.out, hto, hti.wide hbw.size (Nat.le_refl _), hbw.trans (hb2.mono hbw.size)⟩

theorem largest_pair (F : Fld) (r : Int) (_ : (Lit.int .i64 r).wf = true) (_ : F.Small) : ∃ (l : List Int) (b : Bool) (_ : l.length ≤ 1048576),
    (∀ (G : Fld) (W : World), G.At W → G.Like F → Calls Try.prog 24 #[G.val, .int .i64 r] W (PInts l b W)) ∧
    (∀ (G : Fld) (W : World), G.At W → G.Like F → Calls Try.prog 25 #[G.val, .int .i64 r] W (PInts l b W)) := by
  obtain ⟨l, b, h, hl⟩ := larg_some F r
  exact ⟨l, b, hl, fun G W hG hl => specLargest_any G r W hG l b (larg_like h hl), fun G W hG hl => implLargest_any G r W hG l b (larg_like h hl)⟩
end Go.Proofs.Ytjeodblaekdpkaa
