/- Both sides of LineSites answer alike. Condition: the lists read as such. -/
import Derived.Test.YtfgedolngcdjpaaReached
namespace Go.Proofs.Ytfgedolngcdjpaa
open Go.RowKit
theorem lineD_getD {s c : List Int} {k : Nat} (hk : k < c.length) : (lineD s c).getD k [] = distL (c.getD k 0) s := by
  unfold lineD
  rw [List.getD_eq_getElem?_getD, List.getElem?_eq_getElem (by rw [List.length_map]; exact hk), Option.getD_some, List.getElem_map, List.getD_eq_getElem?_getD, List.getElem?_eq_getElem hk]; rfl

set_option maxRecDepth 16000 in
set_option maxHeartbeats 4000000 in
theorem specLS_any (s c : Row) (r : Int) (w : World) (hs : s.At w) (hc : c.At w) (hcm : c.l.length ≤ 1048576) (l : List Int) (b : Bool) (hv : LSs s.l c.l r l b) :
    Calls Try.prog 15 #[.slice s.a s.l.length s.c, .slice c.a c.l.length c.c, .int .i64 r] w (PInts l b w) := by
  obtain ⟨i0, hi, hz0, hz1, hz2⟩ := info_parts infoInt
  obtain ⟨K, t, hK⟩ : ∃ K t, LineIs s.l c.l K t := by
    obtain ⟨K, t, h, _⟩ := line_some s.l c.l
    exact ⟨K, t, h⟩
  have CL := Lib.hid (specLine_any s c w hs hc hcm K t hK)
  have HK := Lib.hid hK
  have HV := Lib.hid hv
  have HNONE : ∀ W, Below w.heap.size w W → ¬ (lineB s.l c.l = true ∧ 0 ≤ r ∧ okTo s.l c.l r c.l.length) → Hid (PInts l b w (.returned (.tuple #[.slice (some ⟨W.heap.size, 0, none⟩) 0 0, .bool false])) (W.alloc (.cells #[] 3))) := fun W hW hn => by
    obtain ⟨rfl, rfl⟩ := lss_no HV.out hn
    exact Lib.hid ((ints_none W).back hW)
  have HNO := Lib.hid HNONE
  have HSM := Lib.hid (show lineB s.l c.l = true → s.l.length ≤ 7 from fun h => (line_parts h).1.2.1)
  obtain ⟨n, hn⟩ : ∃ n, n = c.l.length := ⟨_, rfl⟩
  have HN := Lib.hid hn
  obtain ⟨m, hm⟩ : ∃ m, m = s.l.length := ⟨_, rfl⟩
  have HM := Lib.hid hm
  have hni : (n : Int) ≤ 1048576 := by omega
  have CL2 := CL.out
  rw [← hn, ← hm] at CL2 ⊢
  have CL1 := Lib.hid CL2
  clear hs hc hK hv HNONE hn hm CL CL2 hcm
  go_enter Try.func15, Try.ntmps15
  go_wp2_with fail
  refine (show Calls _ _ _ w (fun e w' => ∃ G : Fld, e = .returned (.tuple #[.agg #[.slice G.o.a G.o.l.length G.o.c, .slice G.t.a G.t.R.length G.t.c], .bool t]) ∧ G.Like K ∧ G.Own 3 w' ∧ G.In w.heap.size w'.heap.size w' ∧ Below w.heap.size w w') from CL1.out).mono ?_
  rintro e W1 ⟨J, rfl, hJl, -, hJI, hb1⟩
  obtain ⟨W2, hW2⟩ : ∃ u, u = W1.alloc (.cells #[.slice J.o.a J.o.l.length J.o.c, .slice J.t.a J.t.R.length J.t.c] 37) := ⟨_, rfl⟩
  have b2 : Box2 W2 W1.heap.size (.slice J.o.a J.o.l.length J.o.c) (.slice J.t.a J.t.R.length J.t.c) 37 := by rw [hW2]; exact Box2.made _ _ _ _
  have hb2 : Below W1.heap.size W1 W2 := by rw [hW2]; exact below_alloc _ _
  have hsz2 : W2.heap.size = W1.heap.size + 1 := by rw [hW2]; exact size_alloc _ _
  have HJ2 := Lib.hid (hJI.at.on hb2)
  have HJL := Lib.hid hJl
  have HB2 := Lib.hid b2
  have HBW := Lib.hid (hb1.trans (hb2.mono hb1.size))
  have HW2 := Lib.hid hW2
  have HSZ2 := Lib.hid hsz2
  clear hJl hJI hb1 hW2 b2 hb2
  by_cases hgr : t = true ∧ 0 ≤ r
  · obtain ⟨rfl, hr0⟩ := hgr
    obtain ⟨hline, rfl⟩ : lineB s.l c.l = true ∧ K = lineK s.l c.l := by
      rcases HK.out with ⟨_, _, h⟩ | ⟨h1, h2, _⟩
      · cases h
      · exact ⟨h1, h2⟩
    have hr1 : ¬ r < 0 := by omega
    have HLN := Lib.hid hline
    have HR0 := Lib.hid hr0
    have hm7 : m ≤ 7 := by rw [HM.out]; exact HSM.out hline
    have hn7 : n ≤ 7 := by rw [HN.out]; exact (line_parts hline).1.2.2
    have hJc : J.t.con = lineD s.l c.l := by rw [HJL.out.2]; exact mkF_con _ _
    have HJC := Lib.hid hJc
    have hJR : J.t.R.length = n := by rw [← con_length, hJc, lineD_len, HN.out]
    have HJR := Lib.hid hJR
    have HO0 := Lib.hid (empty_own W2)
    have HB0 := Lib.hid (below_alloc W2 (.cells #[] 3))
    clear hline hr0 hJc hsz2
    rw [hJR]
    have HBX : Hid (Box2 W2 W1.heap.size (.slice J.o.a J.o.l.length J.o.c) (.slice J.t.a n J.t.c) 37) := Lib.hid (by have := HB2.out; rw [hJR] at this; exact this)
    have HW3 : Hid (W2 = W1.alloc (.cells #[.slice J.o.a J.o.l.length J.o.c, .slice J.t.a n J.t.c] 37)) := Lib.hid (by rw [HW2.out, hJR])
    clear hJR
    go_wp2
    rw [← HW3.out, ← HSZ2.out]
    go_loopw [6, 7, 10, 11, 12, 13] (fun _ _ tv jv _ _ wr => ∃ k : Nat, k ≤ n ∧ jv = .int .i64 k ∧ Hid (wr.ownsRow W2.heap.size 3 1 tv (lsT s.l c.l r k).length (iv (lsT s.l c.l r k))) ∧ Hid (okTo s.l c.l r k) ∧ Hid (Below W2.heap.size W2 wr)) (fun _ _ _ jv _ _ _ => n - (intOf jv).toNat)
    case atStart => exact ⟨0, Nat.zero_le _, rfl, HO0, Lib.hid (fun j hj => absurd hj (Nat.not_lt_zero _)), HB0⟩
    case round =>
      obtain ⟨k, hk, rfl, HOW, HOK, HNX⟩ := hrel
      have HWW := Lib.hid (HBW.out.trans (HNX.out.mono HBW.out.size))
      by_cases hlt : k < n
      · have hlti : (k : Int) < (n : Int) := by omega
        have hkc : k < c.l.length := by rw [← HN.out]; exact hlt
        obtain ⟨x, hx⟩ : ∃ x, x = c.l.getD k 0 := ⟨_, rfl⟩
        have HX := Lib.hid hx
        obtain ⟨tv, htv⟩ : ∃ tv, tv = u10 := ⟨_, rfl⟩
        have hOW := HOW.out
        rw [← htv] at hOW
        obtain ⟨tk, hv, htkl, -, htki⟩ := row_of_own hOW
        have HROW : Hid (J.t.con.getD k [] = distL x s.l) := Lib.hid (by rw [HJC.out, lineD_getD hkc, hx])
        obtain ⟨u, hu⟩ : ∃ u, u = (nearL s.l r x).all (outT (lsT s.l c.l r k)) := ⟨_, rfl⟩
        have hre : ((lsT s.l c.l r k).any fun y => decide ((distL x s.l).getD y.toNat 0 ≤ r)) = !u := by rw [hu]; exact reached_eq (lsT_in HOK.out)
        have CR := Lib.hid (by
          have := l5Reached_any J k tk r wr (HJ2.out.on HNX.out) htki.at (by rw [htkl]; exact Nat.le_trans (lsT_len _ _ _ _) (by omega)) (by rw [HJR.out]; exact hlt) (by rw [htkl, HROW.out, distL_len]; exact lsT_in HOK.out)
          rw [HROW.out, htkl, hre, HJR.out, ← htkl, ← hv] at this; exact this : Calls Try.prog 32 #[.agg #[.slice J.o.a J.o.l.length J.o.c, .slice J.t.a n J.t.c], .int .i64 k, tv, .int .i64 r] wr fun e w' => e = .returned (.bool (!u)) ∧ Below wr.heap.size wr w')
        have HU := Lib.hid hu
        have HTV := Lib.hid htv
        have x0 := (HBX.out.on HNX.out).c0
        have x1 := (HBX.out.on HNX.out).c1
        rw [htv] at CR
        clear hx htv hOW hv htkl htki hu hre
        cases u with
        | false =>
          have HE : Hid (lsT s.l c.l r (k + 1) = lsT s.l c.l r k) := Lib.hid (lsT_skip (by rw [← HX.out]; exact HU.out.symm))
          have HOK1 := Lib.hid (okTo_next HOK.out (by rw [← HX.out]; intro h0; have := HU.out; rw [h0] at this; cases this))
          go_wp2_with fail
          refine (show Calls _ _ _ wr _ from CR.out).mono ?_
          rintro e W3 ⟨rfl, hb3⟩
          have R1 : Hid (W3.ownsRow W2.heap.size 3 1 u10 (lsT s.l c.l r (k + 1)).length (iv (lsT s.l c.l r (k + 1)))) := Lib.hid (by rw [HE.out]; exact owns_below HOW.out hb3)
          have R2 := Lib.hid (HNX.out.trans (hb3.mono HNX.out.size))
          clear hb3 x0 x1
          go_wp2
          go_roundw
          case rel => exact ⟨k + 1, by omega, by go_num, R1, HOK1, R2⟩
          case measure => simp [intOf]; omega
        | true =>
          obtain ⟨P, hP⟩ : ∃ P : Int → Bool, P = fun y => decide (max (x - y) (y - x) ≤ r) := ⟨_, rfl⟩
          have HP := Lib.hid hP
          have HPN : Hid (places P s.l m = nearL s.l r x) := Lib.hid (by rw [hP, HM.out]; rfl)
          clear hP
          go_wp2_with fail
          refine (show Calls _ _ _ wr _ from CR.out).mono ?_
          rintro e W3 ⟨rfl, hb3⟩
          have HN3 := Lib.hid (HNX.out.trans (hb3.mono HNX.out.size))
          have HOW3 := Lib.hid (owns_below HOW.out hb3)
          have HWW3 := Lib.hid (HWW.out.trans (hb3.mono HWW.out.size))
          clear hb3 x0 x1
          go_wp2
          go_loopw [12, 13] (fun lv iv' wi => ∃ i : Nat, i ≤ m ∧ iv' = .int .i64 i ∧ lv = .int .i64 (lastN (places P s.l i)) ∧ W3 = wi) (fun _ iv' _ => m - (intOf iv').toNat)
          case atStart => exact ⟨0, Nat.zero_le _, rfl, rfl, rfl⟩
          case round =>
            obtain ⟨i, hi', rfl, rfl, rfl⟩ := hrel
            by_cases hlt2 : i < m
            · have hlti2 : (i : Int) < (m : Int) := by omega
              have his : i < s.l.length := by rw [← HM.out]; exact hlt2
              obtain ⟨bT, oT, rr, hTa, hTc, hrA, hrl⟩ := row_line (HJ2.out.on HN3.out).2 (j := k) (by rw [HJR.out]; exact hlt)
              rw [HROW.out] at hrl
              have hrn : rr.l.length = m := by rw [hrl, distL_len, HM.out]
              obtain ⟨br, or', hra, hrc⟩ := intAt_line hrA (k := i) (by rw [hrn]; exact hlt2)
              obtain ⟨v, hv⟩ : ∃ v, v = rr.l.getD i 0 := ⟨_, rfl⟩
              have hPk : P (s.l.getD i 0) = decide (v ≤ r) := by rw [HP.out, hv, hrl, distL_getD x s.l his]
              have HPK := Lib.hid hPk
              rw [← hv] at hrc
              rw [hrn, hra] at hTc
              have x1 := (HBX.out.on HN3.out).c1
              rw [hTa] at x1 ⊢
              clear hv hPk hrl hTa hra hrA hrn
              by_cases hle : v ≤ r
              · have HE : Hid (lastN (places P s.l (i + 1)) = (i : Int)) := Lib.hid (by rw [places_yes (by rw [HPK.out]; simp [hle]), lastN_snoc])
                go_wp2
                go_roundw
                case rel => exact ⟨i + 1, by omega, by go_num, by rw [HE.out], by first | trivial | rfl⟩
                case measure => simp [intOf]; omega
              · have hde : decide (v ≤ r) = false := decide_eq_false hle
                have HE : Hid (places P s.l (i + 1) = places P s.l i) := Lib.hid (places_no (by rw [HPK.out, hde]))
                go_wp2
                go_roundw
                case rel => exact ⟨i + 1, by omega, by go_num, by rw [HE.out], by first | trivial | rfl⟩
                case measure => simp [intOf]; omega
            · obtain rfl : i = m := by omega
              rw [HPN.out]
              obtain ⟨y, hy⟩ : ∃ y, y = lastN (nearL s.l r x) := ⟨_, rfl⟩
              rw [← hy]
              by_cases h0 : nearL s.l r x = []
              · have hy0 : y < 0 := by rw [hy, h0]; decide
                have HE := HNO.out _ HWW3.out (fun h => h.2.2 k hkc (by rw [← HX.out]; exact h0))
                clear hy h0
                go_wp2
                go_ret2
                exact HE.out
              · have hy0 : ¬ y < 0 := by rw [hy]; exact fun h => h0 (lastN_neg.1 h)
                have HOK1 := Lib.hid (okTo_next HOK.out (by rw [← HX.out]; exact h0))
                have HE : Hid (lsT s.l c.l r (k + 1) = lsT s.l c.l r k ++ [y]) := Lib.hid (by rw [hy, HX.out]; exact lsT_take (by rw [← HX.out]; exact HU.out.symm))
                have hT7 : (lsT s.l c.l r k).length ≤ 7 := Nat.le_trans (lsT_len _ _ _ _) (by omega)
                have hown := HOW3.out
                have hs3 := HN3.out.size
                clear hy h0
                go_wp2_with (at_builtin; refine wpList_append_own _ rfl _ _ 22 rfl W2.heap.size 3 i0 (.int .i64 0) 1 8 Try.underlying22 hi hz0 hz1 hz2 rfl (by decide) _ _ _ rfl (hown.alloc _) ⟨_, 0, none⟩ 1 1 [.int .i64 y] rfl rfl (one_cell _ _ _) (by simp [Value.oneCell']) (by unfold maxLen; omega) (by omega) (by simp; omega) ?_; intro v' w1 hown' hgrow _)
                have R1 : Hid (w1.ownsRow W2.heap.size 3 1 v' (lsT s.l c.l r (k + 1)).length (iv (lsT s.l c.l r (k + 1)))) := Lib.hid (by rw [HE.out]; exact own_snoc rfl hown')
                have R2 := Lib.hid ((HN3.out.alloc (by omega) _).grown hgrow (by simp; omega) (fun j hj => (hown.lt j hj).1))
                clear hown' hgrow hown
                go_wp2
                go_roundw
                case rel => exact ⟨k + 1, by omega, by go_num, R1, HOK1, R2⟩
                case measure => simp [intOf]; omega
      · obtain rfl : k = n := by omega
        obtain ⟨tv, htv⟩ : ∃ tv, tv = u10 := ⟨_, rfl⟩
        have hOW := HOW.out
        rw [← htv] at hOW
        obtain ⟨tk, hv, htkl, htko, htki⟩ := row_of_own hOW
        obtain ⟨rfl, rfl⟩ := lss_yes HV.out ⟨HLN.out, HR0.out, by rw [← HN.out]; exact HOK.out⟩
        have HRES : Hid (PInts (lsT s.l c.l r c.l.length) true w (.returned (.tuple #[u10, .bool true])) wr) := Lib.hid ⟨tk, by rw [← htv, hv], by rw [htkl, HN.out], htko, htki.wide HBW.out.size (Nat.le_refl _), HWW.out⟩
        clear htkl htko htki hv htv hOW
        go_wp2
        go_ret2
        exact HRES.out
  · have HE := HNO.out W2 HBW.out (fun h => hgr ⟨by
      rcases HK.out with ⟨h1, _⟩ | ⟨_, _, h2⟩
      · rw [h.1] at h1; cases h1
      · exact h2, h.2.1⟩)
    rw [HSZ2.out, HW2.out] at HE
    cases t with
    | false =>
      clear hgr hsz2
      go_wp2
      go_ret2
      exact HE.out
    | true =>
      have hr1 : r < 0 := by
        by_cases h : r < 0
        · exact h
        · exact absurd ⟨rfl, by omega⟩ hgr
      clear hgr hsz2
      go_wp2
      go_ret2
      exact HE.out

theorem lineSites_pair (s c : Row) (r : Int) (_ : (Lit.int .i64 r).wf = true) (_ : s.l.length ≤ 1048576) (hcm : c.l.length ≤ 1048576) : ∃ (l : List Int) (b : Bool) (_ : l.length ≤ 1048576),
    (∀ (t d : Row) (W : World), t.At W → d.At W → t.l = s.l → d.l = c.l → Calls Try.prog 15 #[.slice t.a t.l.length t.c, .slice d.a d.l.length d.c, .int .i64 r] W (PInts l b W)) ∧
    (∀ (t d : Row) (W : World), t.At W → d.At W → t.l = s.l → d.l = c.l → Calls Try.prog 16 #[.slice t.a t.l.length t.c, .slice d.a d.l.length d.c, .int .i64 r] W (PInts l b W)) := by
  obtain ⟨l, b, h, hs⟩ := lss_some s.l c.l r
  exact ⟨l, b, hs hcm, fun t d W ht hd h1 h2 => specLS_any t d r W ht hd (by rw [h2]; exact hcm) l b (by rw [h1, h2]; exact h), fun t d W ht hd h1 h2 => implLS_any t d r W ht hd l b (by rw [h1, h2]; exact h)⟩
end Go.Proofs.Ytfgedolngcdjpaa
