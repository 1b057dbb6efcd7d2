/- FarthestFirst: the program's side. Condition: the table reads as such. -/
import Derived.Test.YtddnadipleknoaaPlainFarP
import Derived.Test.YtddnadipleknoaaLess
namespace Go.Proofs.Ytddnadipleknoaa
open Go.RowKit Go.Shelf

theorem has_up (L : List Nat) (x : Nat) : hasI (up L) (x : Int) = decide (x ∈ L) := by
  unfold hasI up
  rw [Bool.eq_iff_iff]
  simp
  constructor
  · rintro ⟨a, h1, h2⟩; rw [show x = a by omega]; exact h1
  · intro h; exact ⟨x, h, rfl⟩

set_option maxRecDepth 16000 in
set_option maxHeartbeats 1500000 in
theorem farthestFrom_any (T : Tab) (r : Row) (L : List Nat) (w : World) (hT : T.At w) (hg : Grd T.con) (hr : r.At w) (hl : r.l = up L) (hL : ∀ m ∈ L, m < T.R.length) (hs : r.l.length ≤ 1048576) :
    Calls Try.prog 35 #[.slice r.a r.l.length r.c, .int .i64 T.R.length, .func (.func 36) #[.slice T.a T.R.length T.c] #[]] w fun e w' => e = .returned (.int .i64 (pickF T.con L T.R.length)) ∧ w' = w := by
  have hlim := tab_lim0 hT
  obtain ⟨n, hn⟩ : ∃ n, n = T.R.length := ⟨_, rfl⟩
  have CG := Lib.hid (fun x (hx : x < n) => leastGap_any T r L x w hT hg hr hl hL (by rw [← hn]; exact hx))
  have CC := Lib.hid (fun (x : Nat) => (by have := contL_any r (x : Int) w hr hs; rw [hl, has_up, ← hl] at this; exact this : Calls Try.prog 62 #[.slice r.a r.l.length r.c, .int .i64 (x : Int)] w fun e w' => e = .returned (.bool (decide (x ∈ L))) ∧ w' = w))
  have HST := Lib.hid (pickF_step T.con L)
  have HSO := Lib.hid (pickF_some T.con L)
  have HGB := Lib.hid (fun x => gapF_bound hg x L 198 (by omega))
  rw [← hn] at CG hlim ⊢
  clear hT hg hr hl hL hs hn
  go_enter Try.func35, Try.ntmps35
  go_wp2
  go_loopw [7, 8, 9, 10, 12] (fun fv gv _ _ i wr => ∃ k : Nat, k ≤ n ∧ i = .int .i64 k ∧ fv = .int .i64 (pickF T.con L k) ∧ gv = .int .i64 (if pickF T.con L k < 0 then -1 else gapF T.con (pickF T.con L k).toNat 198 L) ∧ wr = w) (fun _ _ _ _ i _ => n - (intOf i).toNat)
  case atStart => exact ⟨0, Nat.zero_le _, rfl, by rw [pickF_zero], by rw [pickF_zero]; rfl, rfl⟩
  case round =>
    obtain ⟨k, hk, rfl, rfl, rfl, hVr⟩ := hrel
    subst hVr
    by_cases hlt : k < n
    · have hlti : (k : Int) < (n : Int) := by omega
      obtain ⟨x, hx⟩ : ∃ x, x = gapF T.con k 198 L := ⟨_, rfl⟩
      have CG1 := Lib.hid (by have := CG.out k hlt; rw [← hx] at this; exact this)
      have hxb := HGB.out k
      rw [← hx] at hxb
      obtain ⟨b, hb⟩ : ∃ b, b = pickF T.con L k := ⟨_, rfl⟩
      obtain ⟨gr, hgr⟩ : ∃ gr : Int, gr = (if b < 0 then -1 else gapF T.con b.toNat 198 L) := ⟨_, rfl⟩
      have hst := HST.out k
      rw [← hb] at hst ⊢
      rw [← hgr]
      have HGR : Hid ((b < 0 ∨ x > gapF T.con b.toNat 198 L) ↔ x > gr) := Lib.hid (by
        rw [hgr]
        by_cases h0 : b < 0
        · rw [if_pos h0]; exact ⟨fun _ => by omega, fun _ => .inl h0⟩
        · rw [if_neg h0]; exact ⟨fun h => h.elim (fun h => absurd h h0) id, .inr⟩)
      have HX := Lib.hid hx
      have HGRE := Lib.hid hgr
      obtain ⟨v, hv⟩ : ∃ v, v = decide (k ∈ L) := ⟨_, rfl⟩
      have CC1 := Lib.hid (by have := CC.out k; rw [← hv] at this; exact this)
      by_cases hxg : x > gr
      · cases v with
        | true =>
          have HS : Hid (pickF T.con L (k + 1) = b) := Lib.hid (by rw [hst]; unfold pickS; rw [if_pos (of_decide_eq_true hv.symm)])
          clear hst hb hgr hv hx
          go_wp2_with fail
          refine (show Calls _ _ _ _ _ from CG1.out).mono ?_
          rintro e W ⟨rfl, rfl⟩
          go_wp2_with fail
          refine (show Calls _ _ _ _ _ from CC1.out).mono ?_
          rintro e W ⟨rfl, rfl⟩
          go_wp2
          go_roundw
          case rel => exact ⟨k + 1, by omega, by go_num, by rw [HS.out], by rw [HS.out, ← HGRE.out], by first | rfl | trivial⟩
          case measure => simp [intOf]; omega
        | false =>
          have HS : Hid (pickF T.con L (k + 1) = (k : Int)) := Lib.hid (by rw [hst]; unfold pickS; rw [if_neg (of_decide_eq_false hv.symm), if_pos (by rw [← HX.out]; exact HGR.out.2 hxg)])
          have HG2 : Hid ((if (k : Int) < 0 then (-1 : Int) else gapF T.con (k : Int).toNat 198 L) = x) := Lib.hid (by rw [if_neg (by omega), Int.toNat_natCast, HX.out])
          clear hst hb hgr hv hx
          go_wp2_with fail
          refine (show Calls _ _ _ _ _ from CG1.out).mono ?_
          rintro e W ⟨rfl, rfl⟩
          go_wp2_with fail
          refine (show Calls _ _ _ _ _ from CC1.out).mono ?_
          rintro e W ⟨rfl, rfl⟩
          go_wp2
          go_roundw
          case rel => exact ⟨k + 1, by omega, by go_num, by rw [HS.out], by rw [HS.out, HG2.out], by first | rfl | trivial⟩
          case measure => simp [intOf]; omega
      · have HS : Hid (pickF T.con L (k + 1) = b) := Lib.hid (by
          rw [hst]; unfold pickS
          split
          · rfl
          · rw [if_neg (by rw [← HX.out]; exact fun h => hxg (HGR.out.1 h))])
        clear hst hb hgr hv hx
        go_wp2_with fail
        refine (show Calls _ _ _ _ _ from CG1.out).mono ?_
        rintro e W ⟨rfl, rfl⟩
        go_wp2
        go_roundw
        case rel => exact ⟨k + 1, by omega, by go_num, by rw [HS.out], by rw [HS.out, ← HGRE.out], by first | rfl | trivial⟩
        case measure => simp [intOf]; omega
    · obtain rfl : k = n := by omega
      obtain ⟨gr, hgr⟩ : ∃ gr : Int, gr = (if pickF T.con L k < 0 then -1 else gapF T.con (pickF T.con L k).toNat 198 L) := ⟨_, rfl⟩
      rw [← hgr]
      clear hgr
      go_wp2
      go_ret
      exact ⟨rfl, rfl⟩

/-- What FarthestFirst answers. -/
def FFIs (d : List (List Int)) (k : Int) (l : List Int) (b : Bool) : Prop :=
  (spreadB d k = false ∧ l = [] ∧ b = false) ∨ (spreadB d k = true ∧ b = true ∧ l = up (farP d d.length (bestK (negD d) d.length 2) (k.toNat - 2)))
theorem ff_some (d : List (List Int)) (k : Int) : ∃ l b, FFIs d k l b ∧ l.length ≤ 1048576 := by
  by_cases h : spreadB d k = true
  · obtain ⟨hg, m, rfl, h2, hm⟩ := spread_nat h
    refine ⟨_, _, .inr ⟨h, rfl, rfl⟩, ?_⟩
    have := hg.few
    rw [up_length, Int.toNat_natCast, farP_len, (bestD_ok hg (Nat.le_refl 2) (by omega)).1]; omega
  · exact ⟨_, _, .inl ⟨by simpa using h, rfl, rfl⟩, by simp⟩

set_option maxRecDepth 32000 in
set_option maxHeartbeats 2000000 in
theorem implFF_any (T : Tab) (kk : Int) (w : World) (hT : T.At w) (l : List Int) (b : Bool) (hv : FFIs T.con kk l b) :
    Calls Try.prog 17 #[.slice T.a T.R.length T.c, .int .i64 kk] w (PInts l b w) := by
  obtain ⟨i0, hi, hz0, hz1, hz2⟩ := info_parts infoInt
  have CT := Lib.hid (canSpread_any T kk w hT)
  have HT := Lib.hid hT
  have hCL := con_length T
  rcases hv with ⟨h2, rfl, rfl⟩ | ⟨h2, rfl, rfl⟩
  · rw [h2] at CT
    clear h2 hT hCL
    go_enter Try.func17, Try.ntmps17
    go_wp2_with fail
    refine (show Calls _ _ _ _ _ from CT.out).mono ?_
    rintro e W1 ⟨rfl, hb1⟩
    have HB := Lib.hid hb1
    clear hb1
    go_wp2
    go_ret2
    obtain ⟨t, ht, htl, hto, hti⟩ := row_of_own (empty_own W1)
    exact ⟨t, congrArg (fun v => Ending.returned (.tuple #[v, .bool false])) ht, htl, hto, hti.wide HB.out.size (Nat.le_refl _), HB.out.trans ((below_alloc W1 _).mono HB.out.size)⟩
  · rw [h2] at CT
    obtain ⟨hg, k, rfl, h2k, hk⟩ := spread_nat h2
    have h7 := hg.few
    obtain ⟨n, hn⟩ : ∃ n, n = T.R.length := ⟨_, rfl⟩
    rw [hCL, ← hn] at hk h7
    have hs2 : spreadB T.con 2 = true := by unfold spreadB; rw [grdB_iff.2 hg, decide_eq_true (by omega), decide_eq_true (by rw [hCL, ← hn]; omega)]; rfl
    obtain ⟨L0, hL0⟩ : ∃ L, L = bestK (negD T.con) T.con.length 2 := ⟨_, rfl⟩
    have h0 := bestD_ok hg (Nat.le_refl 2) (by rw [hCL, ← hn]; omega)
    rw [← hL0, hCL, ← hn] at h0
    have CB := Lib.hid (fun W (hb : Below w.heap.size w W) => (by have := implBestD_any T 2 W (hT.on hb) (up L0) true (.inr ⟨hs2, rfl, by rw [hL0]; rfl⟩); rw [← hn] at this; exact this : Calls Try.prog 10 #[.slice T.a n T.c, .int .i64 2] W (PInts (up L0) true W)))
    have HG := Lib.hid hg
    have HRES : Hid (up (farP T.con T.con.length (bestK (negD T.con) T.con.length 2) (((k : Nat) : Int).toNat - 2)) = up (farP T.con n L0 (k - 2))) := Lib.hid (by rw [Int.toNat_natCast, ← hL0, hCL, hn])
    have HRES2 : Hid (up (farP T.con n L0 (k - 2)) = up (farP T.con T.con.length (bestK (negD T.con) T.con.length 2) (k - 2))) := Lib.hid (by rw [← hL0, hCL, hn])
    have HLEN := Lib.hid (fun j => farP_len T.con n L0 j)
    have HLT := Lib.hid (fun j (hj : j ≤ n - 2) => farP_lt (d := T.con) h0.2 j (by omega))
    have H0 := Lib.hid h0
    have HN := Lib.hid hn
    have CT1 := Lib.hid (by have := CT.out; rw [← hn] at this; exact this)
    have hni : (n : Int) ≤ 7 := by omega
    rw [← hn]
    clear h2 hT hCL hg h7 hn hs2 hL0 h0 CT
    go_enter Try.func17, Try.ntmps17
    go_wp2_with fail
    refine (show Calls _ _ _ _ _ from CT1.out).mono ?_
    rintro e W1 ⟨rfl, hb1⟩
    have CB1 := Lib.hid (CB.out W1 hb1)
    have HB1 := Lib.hid hb1
    clear hb1 CB
    go_wp2_with fail
    refine (show Calls _ _ _ _ _ from CB1.out).mono ?_
    rintro e W2 ⟨t, rfl, htl, hto, hti, hb2⟩
    have HTL := Lib.hid htl
    have HB2 := Lib.hid (HB1.out.trans (hb2.mono HB1.out.size))
    have hlen2 : t.l.length = 2 := by rw [htl, up_length, H0.out.1]
    obtain ⟨gt, hgt, hown⟩ := hto.resolve_left (fun e => by rw [e] at hlen2; simp at hlen2)
    have HLE : Hid (t.l.length = 2) := Lib.hid hlen2
    obtain ⟨B, hBB⟩ : ∃ B, B = w.heap.size := ⟨_, rfl⟩
    have hgB : B ≤ gt := by
      obtain ⟨_, _, q3⟩ := hti
      rcases q3 with q3 | ⟨b', o', e', q4, _⟩
      · exact absurd (congrArg List.length (iv_nil q3)) (by rw [hlen2]; simp)
      · rw [hgt] at e'
        simp only [Option.some.injEq, Addr.mk.injEq] at e'
        obtain ⟨rfl, _⟩ := e'
        have := HB1.out.size; omega
    have HOW : Hid (W2.ownsRow B 3 1 (.slice t.a t.l.length t.c) t.l.length (iv t.l)) := Lib.hid (by
      rw [hgt]
      obtain ⟨q1, q2⟩ := id hown
      refine ⟨q1, ?_⟩
      rcases q2 with q2 | ⟨g', cap', cur, he, _, r⟩
      · exact .inl q2
      · simp only [Value.slice.injEq, Option.some.injEq, Addr.mk.injEq, and_true, true_and] at he
        obtain ⟨rfl, rfl⟩ := he
        exact .inr ⟨gt, t.c, cur, rfl, hgB, r⟩)
    have HBW := Lib.hid (show B ≤ W2.heap.size by rw [hBB]; exact HB2.out.size)
    have HBE := Lib.hid hBB
    have HTA := Lib.hid hti.at
    clear htl hto hti hb2 hlen2 hgt hown hgB hBB CB1
    go_wp2
    go_loopw [7] (fun tv wr => ∃ (j : Nat) (t : Row), j + 2 ≤ k ∧ tv = .slice t.a t.l.length t.c ∧ Hid (t.l = up (farP T.con n L0 j)) ∧ Hid (wr.ownsRow B 3 1 (.slice t.a t.l.length t.c) t.l.length (iv t.l)) ∧ Hid (t.At wr) ∧ Below w.heap.size w wr) (fun tv _ => k - (match tv with | .slice _ m _ => m | _ => 0))
    case atStart => exact ⟨0, t, by omega, rfl, HTL, HOW, HTA, HB2.out⟩
    case round =>
      obtain ⟨j, t', hj, rfl, HL, HO, HA, hnx⟩ := hrel
      have hlen : t'.l.length = j + 2 := by rw [HL.out, up_length, HLEN.out, H0.out.1]; omega
      by_cases hlt : j + 2 < k
      · have hlti : (t'.l.length : Int) < (k : Int) := by omega
        have CF := Lib.hid (by
          have := farthestFrom_any T t' (farP T.con n L0 j) wr (HT.out.on hnx) HG.out HA.out HL.out (by rw [← HN.out]; exact HLT.out j (by omega)) (by omega)
          rw [← HN.out] at this; exact this)
        obtain ⟨m, hm, hmn, -⟩ := pickF_next (d := T.con) (L := farP T.con n L0 j) (n := n) (by rw [HLEN.out, H0.out.1]; omega)
        have CF1 := Lib.hid (by have := CF.out; rw [hm] at this; exact this)
        have HS : Hid (t'.l ++ [(m : Int)] = up (farP T.con n L0 (j + 1))) := Lib.hid (by rw [farP, hm, HL.out]; unfold up; rw [List.map_append]; simp)
        have hown := HO.out
        have hBs : B ≤ wr.heap.size := by rw [HBE.out]; exact hnx.size
        have ht7 : t'.l.length ≤ 7 := by omega
        have HNX := Lib.hid hnx
        have HLN := Lib.hid hlen
        clear hm hmn hnx hlen CF
        go_wp2_with fail
        refine (show Calls _ _ _ _ _ from CF1.out).mono ?_
        rintro e W3 ⟨rfl, rfl⟩
        go_wp2_with (at_builtin; refine wpList_append_own _ rfl _ _ 24 rfl B 3 i0 (.int .i64 0) 1 8 Try.underlying24 hi hz0 hz1 hz2 rfl (by decide) _ _ _ rfl (hown.alloc _) ⟨W3.heap.size, 0, none⟩ 1 1 [.int .i64 (m : Int)] rfl rfl (one_cell _ _ _) (by simp [Value.oneCell']) (by unfold maxLen; omega) (by omega) (by simp; omega) ?_; intro v' w1 hown' hgrow _)
        obtain ⟨t2, rfl, htl2, -, hti2⟩ := row_of_own (w := w1) (B := B) (e := 3) (v := v') (l := t'.l ++ [(m : Int)]) (by rw [List.length_append]; simpa [iv] using hown')
        have HO2 : Hid (w1.ownsRow B 3 1 (.slice t2.a t2.l.length t2.c) t2.l.length (iv t2.l)) := Lib.hid (by rw [htl2, List.length_append]; rw [htl2, List.length_append] at hown'; simpa [iv] using hown')
        have HT2A := Lib.hid hti2.at
        have HR2 : Hid (Below w.heap.size w w1) := Lib.hid ((HNX.out.alloc (by rw [← HBE.out]; exact hBs) _).grown hgrow (by simp; rw [← HBE.out]; omega) (fun j hj => by rw [← HBE.out]; exact (hown.lt j hj).1))
        have HL2 : Hid (t2.l = up (farP T.con n L0 (j + 1))) := Lib.hid (htl2.trans HS.out)
        have hlen2 : t2.l.length = j + 3 := by rw [htl2, List.length_append, HLN.out]; rfl
        clear hown' hgrow hown hti2 htl2
        go_wp2
        go_roundw
        case rel => exact ⟨j + 1, t2, by omega, rfl, HL2, HO2, HT2A, HR2.out⟩
        case measure => simp; have := HLN.out; omega
      · have hjk : j = k - 2 := by omega
        have hng : ¬ (t'.l.length : Int) < (k : Int) := by omega
        have HLR : Hid (t'.l = up (farP T.con n L0 (k - 2))) := Lib.hid (by rw [← hjk]; exact HL.out)
        clear hlen
        go_wp2
        go_ret2
        obtain ⟨t3, ht3, htl3, hto3, hti3⟩ := row_of_own HO.out
        exact ⟨t3, congrArg (fun v => Ending.returned (.tuple #[v, .bool true])) ht3, by first | exact htl3.trans (HLR.out.trans HRES2.out) | (rw [HRES.out, htl3]; exact HLR.out), hto3, hti3.wide (by rw [HBE.out]; exact Nat.le_refl _) (Nat.le_refl _), hnx⟩
end Go.Proofs.Ytddnadipleknoaa
