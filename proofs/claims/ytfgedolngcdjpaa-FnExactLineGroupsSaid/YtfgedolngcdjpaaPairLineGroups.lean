/- Both sides of LineGroups answer alike. Condition: the lists read as such. -/
import Derived.Test.YtfgedolngcdjpaaPairLineField
import Derived.Test.YtfgedolngcdjpaaPairMedianOf
import Derived.Test.YtfgedolngcdjpaaPairClientsOf
namespace Go.Proofs.Ytfgedolngcdjpaa
open Go.RowKit

theorem line_good {s c : List Int} (h : lineB s c = true) : (lineK s c).good = true := by
  obtain ⟨⟨h1, h2, h3⟩, hs, hc⟩ := line_parts h
  unfold Fld.good
  rw [show (lineK s c).t.con = lineD s c from mkF_con _ _, show (lineK s c).o.l = List.replicate s.length 0 from rfl, goodB_iff]
  refine ⟨by rw [List.length_replicate]; exact h1, by rw [List.length_replicate]; exact h2, ?_, by rw [lineD_len]; exact h3, ?_⟩
  · rw [List.all_eq_true]
    intro x hx
    rw [(List.mem_replicate.1 hx).2]; rfl
  · rw [List.all_eq_true]
    intro r hr
    unfold lineD at hr
    obtain ⟨x, hx, rfl⟩ := List.mem_map.1 hr
    unfold rowB
    rw [distL_len, List.length_replicate]
    simp only [Bool.and_eq_true, decide_eq_true_eq, List.all_eq_true]
    refine ⟨fun y hy => ?_, trivial⟩
    unfold distL at hy
    obtain ⟨z, hz, rfl⟩ := List.mem_map.1 hy
    have h4 := hc x hx
    have h5 := hs z hz
    unfold upTo
    rw [Bool.and_eq_true, decide_eq_true_eq, decide_eq_true_eq]
    omega
theorem lg_rise : ∀ n ≤ 7, (allSets n).all (fun T => setB n (up T) && decide (T.length ≤ 7)) = true := by decide +kernel
theorem lg_lead : ∀ n ≤ 7, (allSets n).all (fun T => decide (0 < T.length) && T.all (fun x => decide (x < n))) = true := fun n hn => (sets_good n hn).1
theorem lg_ok {n : Nat} (hn : n ≤ 7) {T : List Nat} (hT : T ∈ allSets n) : T ≠ [] ∧ ((setB n (up T) = true ∧ ∀ m ∈ T, m < n) ∧ T.length ≤ 7) := by
  have h1 := List.all_eq_true.1 (lg_rise n hn) T hT
  have h2 := List.all_eq_true.1 (lg_lead n hn) T hT
  simp only [Bool.and_eq_true, decide_eq_true_eq, List.all_eq_true] at h1 h2
  exact ⟨List.length_pos_iff.1 h2.1, ⟨h1.1, h2.2⟩, h1.2⟩
theorem zero_bad : zeroF.good = false := by decide
theorem bestK_set {φ : List Nat → Int} {n k : Nat} (hn : n ≤ 7) (h1 : 1 ≤ k) (hk : k ≤ n) : bestK φ n k ≠ [] ∧ ((setB n (up (bestK φ n k)) = true ∧ ∀ m ∈ bestK φ n k, m < n) ∧ (bestK φ n k).length ≤ 7) := by
  refine lg_ok hn ?_
  have h := bestK_mem φ hn h1 hk
  unfold allSets
  rw [List.mem_flatMap]
  exact ⟨k - 1, List.mem_range.2 (by omega), by rw [show k - 1 + 1 = k by omega]; exact h⟩
/-- What LineGroups answers. -/
def lineG (s c : List Int) (m : Nat) : List (List Int) := (bestK (servT (lineK s c)) s.length m).map fun i => cliTo (lineD s c) (bestK (servT (lineK s c)) s.length m) i c.length
def LGs (s c : List Int) (k : Int) (d : List (List Int)) (b : Bool) : Prop :=
  ((lineB s c && (decide (1 ≤ k) && decide (k ≤ (s.length : Int)))) = false ∧ d = [] ∧ b = false) ∨ (∃ m : Nat, lineB s c = true ∧ k = m ∧ 1 ≤ m ∧ m ≤ s.length ∧ d = lineG s c m ∧ b = true)
theorem lgs_some (s c : List Int) (k : Int) : ∃ (d : List (List Int)) (b : Bool), LGs s c k d b ∧ (d.length ≤ 1048576 ∧ tot d ≤ 1048576) := by
  by_cases h : (lineB s c && (decide (1 ≤ k) && decide (k ≤ (s.length : Int)))) = true
  · simp only [Bool.and_eq_true, decide_eq_true_eq] at h
    obtain ⟨⟨h1, h2, h3⟩, _, _⟩ := line_parts h.1
    obtain ⟨m, rfl⟩ : ∃ m : Nat, k = m := ⟨k.toNat, by omega⟩
    have hk := bestK_set (φ := servT (lineK s c)) h2 (show 1 ≤ m by omega) (show m ≤ s.length by omega)
    have hl : (lineG s c m).length ≤ 7 := by unfold lineG; rw [List.length_map]; exact hk.2.2
    have ht : tot (lineG s c m) ≤ 7 * (lineG s c m).length := tot_at_most _ 7 (fun l hl => by
      unfold lineG at hl
      obtain ⟨i, _, rfl⟩ := List.mem_map.1 hl
      have := cli_len (lineD s c) (bestK (servT (lineK s c)) s.length m) i c.length
      omega)
    exact ⟨_, _, .inr ⟨m, h.1, rfl, by omega, by omega, rfl, rfl⟩, by omega, by omega⟩
  · exact ⟨_, _, .inl ⟨by simpa using h, rfl, rfl⟩, by simp, by decide⟩
theorem lgs_no {s c : List Int} {k : Int} {d : List (List Int)} {b : Bool} (h : LGs s c k d b) (hn : lineB s c = false ∨ ¬ (1 ≤ k ∧ k ≤ (s.length : Int))) : d = [] ∧ b = false := by
  rcases h with ⟨_, h⟩ | ⟨m, h1, h2, h3, h4, _⟩
  · exact h
  · rcases hn with hn | hn
    · rw [h1] at hn; cases hn
    · exact absurd (by omega) hn
theorem lgs_yes {s c : List Int} {k : Int} {d : List (List Int)} {b : Bool} (h : LGs s c k d b) (h1 : lineB s c = true) (h2 : 1 ≤ k ∧ k ≤ (s.length : Int)) : ∃ m : Nat, k = m ∧ 1 ≤ m ∧ m ≤ s.length ∧ d = lineG s c m ∧ b = true := by
  rcases h with ⟨h, _⟩ | ⟨m, _, h3, h4, h5, h6, h7⟩
  · rw [h1, decide_eq_true h2.1, decide_eq_true h2.2] at h; cases h
  · exact ⟨m, h3, h4, h5, h6, h7⟩
/-- The median of a line's Field, for the groups. -/
theorem line_clis {J : Fld} {s c : List Int} {m : Nat} (hJ : J.Like (lineK s c)) (h : lineB s c = true) (h1 : 1 ≤ m) (h2 : m ≤ s.length) {y : Row} (hy : y.l = up (bestK (servT (lineK s c)) s.length m)) : Clis J y (lineG s c m) true := by
  obtain ⟨⟨p1, p2, p3⟩, _, _⟩ := line_parts h
  have hk := bestK_set (φ := servT (lineK s c)) p2 h1 h2
  have hg : J.good = true := by rw [hJ.good]; exact line_good h
  have hol : J.o.l.length = s.length := by rw [hJ.1]; exact List.length_replicate ..
  have hcon : J.t.con = lineD s c := by rw [hJ.2]; exact mkF_con _ _
  have hR : J.t.R.length = c.length := by rw [← con_length, hcon, lineD_len]
  refine .inr ⟨bestK (servT (lineK s c)) s.length m, ⟨hg, hy, List.length_pos_iff.2 hk.1, by rw [hol]; exact hk.2.1.2⟩, twoB_iff.2 ⟨hg, by rw [hol, hy]; exact hk.2.1.1, by rw [hy, up_length]; exact List.length_pos_iff.2 hk.1⟩, ?_, rfl⟩
  unfold lineG
  rw [hcon, hR]
theorem tab_none {W : World} : PTab [] false W (.returned (.tuple #[.slice (some ⟨W.heap.size, 0, none⟩) 0 0, .bool false])) (W.alloc (.cells #[] 22)) :=
  tab_end (tab_empty W) rfl (Nat.le_refl _) (below_alloc W _)
theorem PTab.back {d : List (List Int)} {b : Bool} {w W w' : World} {e : Ending} (h : PTab d b W e w') (hb : Below w.heap.size w W) : PTab d b w e w' := by
  obtain ⟨T, h1, h2, h3, h4, h5⟩ := h
  exact ⟨T, h1, h2, h3, h4.wide hb.size (Nat.le_refl _), hb.trans (h5.mono hb.size)⟩

set_option maxRecDepth 16000 in
set_option maxHeartbeats 2000000 in
theorem implLG_any (s c : Row) (k : Int) (w : World) (hs : s.At w) (hc : c.At w) (d : List (List Int)) (b : Bool) (hv : LGs s.l c.l k d b) :
    Calls Try.prog 9 #[.slice s.a s.l.length s.c, .slice c.a c.l.length c.c, .int .i64 k] w (PTab d b w) := by
  obtain ⟨K, t, hK⟩ : ∃ K t, LineIs s.l c.l K t := by
    obtain ⟨K, t, h, _⟩ := line_some s.l c.l
    exact ⟨K, t, h⟩
  have CL := Lib.hid (implLine_any s c w hs hc K t hK)
  have HK := Lib.hid hK
  have HV := Lib.hid hv
  clear hs hc hK hv
  go_enter Try.func9, Try.ntmps9
  go_wp2_with fail
  refine (show Calls _ _ _ w (fun e w' => ∃ G : Fld, e = .returned (.tuple #[.agg #[.slice G.o.a G.o.l.length G.o.c, .slice G.t.a G.t.R.length G.t.c], .bool t]) ∧ G.Like K ∧ G.Own 3 w' ∧ G.In w.heap.size w'.heap.size w' ∧ Below w.heap.size w w') from CL.out).mono ?_
  rintro e W1 ⟨J, rfl, hJl, -, hJI, hb1⟩
  obtain ⟨W2, hW2⟩ : ∃ u, u = W1.alloc (.cells #[.slice J.o.a J.o.l.length J.o.c, .slice J.t.a J.t.R.length J.t.c] 37) := ⟨_, rfl⟩
  have b2 : Box2 W2 W1.heap.size (.slice J.o.a J.o.l.length J.o.c) (.slice J.t.a J.t.R.length J.t.c) 37 := by rw [hW2]; exact Box2.made _ _ _ _
  have hb2 : Below W1.heap.size W1 W2 := by rw [hW2]; exact below_alloc _ _
  have HJ2 := Lib.hid (hJI.at.on hb2)
  have HJL := Lib.hid hJl
  have HB2 := Lib.hid b2
  have HBW := Lib.hid (hb1.trans (hb2.mono hb1.size))
  have HW2 := Lib.hid hW2
  obtain ⟨ml, mb, hm⟩ : ∃ l t, Meds J k l t := by
    obtain ⟨l, t, h, _⟩ := meds_some J k
    exact ⟨l, t, h⟩
  have CM := Lib.hid (implMed_any J k W2 HJ2.out ml mb hm)
  have HM := Lib.hid hm
  have x0 := b2.c0
  have x1 := b2.c1
  rw [hW2] at x0 x1
  clear hJl hJI hb1 hW2 b2 hb2 hm
  go_wp2_with fail
  rw [← HW2.out]
  refine (show Calls _ _ #[.agg #[.slice J.o.a J.o.l.length J.o.c, .slice J.t.a J.t.R.length J.t.c], _] _ _ from CM.out).mono ?_
  rintro e W3 ⟨y, rfl, hyl, -, hyi, hb3⟩
  have HB3 := Lib.hid hb3
  have hbw3 := HBW.out.trans (hb3.mono HBW.out.size)
  have HBW3 := Lib.hid hbw3
  have hW3 := hb3.size
  have HYL := Lib.hid hyl
  have HYI := Lib.hid hyi
  clear x0 x1 hb3 hyl hyi hbw3
  have hgood : J.good = K.good := HJL.out.good
  by_cases hok : lineB s.l c.l = true ∧ (1 ≤ k ∧ k ≤ (s.l.length : Int))
  · obtain ⟨m, rfl, hm1, hms, rfl, rfl⟩ := lgs_yes HV.out hok.1 hok.2
    obtain ⟨hKe, hte⟩ : K = lineK s.l c.l ∧ t = true := by
      rcases HK.out with ⟨h, _⟩ | ⟨_, h⟩
      · rw [hok.1] at h; cases h
      · exact h
    subst hKe
    have hol : J.o.l.length = s.l.length := by rw [HJL.out.1]; exact List.length_replicate ..
    have hkB : kB J (m : Int) = true := by unfold kB; rw [hgood, line_good hok.1, hol, decide_eq_true (by omega), decide_eq_true (by omega)]; rfl
    obtain ⟨hml, hmb⟩ : ml = up (bestK (servT J) J.o.l.length m) ∧ mb = true := by
      rcases HM.out with ⟨h, _⟩ | ⟨_, h1, h2⟩
      · rw [hkB] at h; cases h
      · exact ⟨by rw [h1, Int.toNat_natCast], h2⟩
    subst hmb
    have hyb : y.l = up (bestK (servT (lineK s.l c.l)) s.l.length m) := by rw [HYL.out, hml, hol, servT_like HJL.out]
    have hCl := line_clis HJL.out hok.1 hm1 hms hyb
    have hk7 := (bestK_set (φ := servT (lineK s.l c.l)) (line_parts hok.1).1.2.1 hm1 hms).2.2
    have CC := Lib.hid (implClients_any J y W3 (HJ2.out.on HB3.out) HYI.out.at (by rw [hyb, up_length]; omega) _ _ hCl)
    have x0 := (HB2.out.on HB3.out).c0
    have x1 := (HB2.out.on HB3.out).c1
    clear hok hol hkB hml hyb hCl hgood hte
    go_wp2_with fail
    refine (show Calls _ _ #[.agg #[.slice J.o.a J.o.l.length J.o.c, .slice J.t.a J.t.R.length J.t.c], _] _ _ from CC.out).mono ?_
    rintro e W4 ⟨TT, rfl, hTT⟩
    have HTT := Lib.hid hTT
    clear hTT x0 x1
    go_wp2
    go_ret2
    exact PTab.back ⟨TT, rfl, HTT.out⟩ HBW3.out
  · obtain ⟨rfl, rfl⟩ := lgs_no HV.out (by
      by_cases h : lineB s.l c.l = true
      · exact .inr (fun h2 => hok ⟨h, h2⟩)
      · exact .inl (by simpa using h))
    have hmb : mb = false := by
      rcases HM.out with ⟨_, _, h⟩ | ⟨h, _⟩
      · exact h
      · exfalso
        unfold kB at h
        simp only [Bool.and_eq_true, decide_eq_true_eq] at h
        rcases HK.out with ⟨h1, h2, _⟩ | ⟨h1, h2, _⟩
        · rw [hgood, h2, zero_bad] at h; exact absurd h.1 (by simp)
        · have hol : J.o.l.length = s.l.length := by rw [HJL.out.1, h2]; exact List.length_replicate ..
          rw [hol] at h
          exact hok ⟨h1, h.2⟩
    subst hmb
    have HE := Lib.hid (PTab.back (tab_none (W := W3)) HBW3.out)
    clear hok hgood
    go_wp2
    go_ret2
    exact HE.out

set_option maxRecDepth 16000 in
set_option maxHeartbeats 2000000 in
theorem specLG_any (s c : Row) (k : Int) (w : World) (hs : s.At w) (hc : c.At w) (hcm : c.l.length ≤ 1048576) (d : List (List Int)) (b : Bool) (hv : LGs s.l c.l k d b) :
    Calls Try.prog 7 #[.slice s.a s.l.length s.c, .slice c.a c.l.length c.c, .int .i64 k] w (PTab d b w) := by
  obtain ⟨g, hg⟩ : ∃ g, g = lineB s.l c.l := ⟨_, rfl⟩
  have CT := Lib.hid (by have := l4Line_any s c w hs hc hcm; rw [← hg] at this; exact this)
  have HG := Lib.hid hg
  have HV := Lib.hid hv
  have HSW := Lib.hid hs
  have HCW := Lib.hid hc
  obtain ⟨m, hm⟩ : ∃ m, m = s.l.length := ⟨_, rfl⟩
  have HM := Lib.hid hm
  rw [← hm] at CT ⊢
  have CI := Lib.hid (fun W => l1In_any k 1 (m : Int) W)
  clear hs hc hv hg hm
  go_enter Try.func7, Try.ntmps7
  go_wp2_with fail
  refine (show Calls _ _ _ _ _ from CT.out).mono ?_
  rintro e W1 ⟨rfl, hd1⟩
  have hb1 := hd1.below
  have HB1 := Lib.hid hb1
  clear hd1
  cases g with
  | false =>
    obtain ⟨rfl, rfl⟩ := lgs_no HV.out (.inl HG.out.symm)
    have HE := Lib.hid (PTab.back (tab_none (W := W1)) hb1)
    clear hb1
    go_wp2
    go_ret2
    exact HE.out
  | true =>
    obtain ⟨q, hq⟩ : ∃ q, q = (decide ((1 : Int) ≤ k) && decide (k ≤ (m : Int))) := ⟨_, rfl⟩
    have CI1 := Lib.hid (by have := CI.out W1; rw [← hq] at this; exact this)
    have HQ := Lib.hid hq
    clear hq hb1
    go_wp2_with fail
    refine (show Calls _ _ _ _ _ from CI1.out).mono ?_
    rintro e W2 ⟨rfl, rfl⟩
    cases q with
    | false =>
      obtain ⟨rfl, rfl⟩ := lgs_no HV.out (.inr (fun h => by
        have h2 := HQ.out
        rw [decide_eq_true h.1, HM.out, decide_eq_true h.2] at h2; cases h2))
      have HE := Lib.hid (PTab.back (tab_none (W := W2)) HB1.out)
      go_wp2
      go_ret2
      exact HE.out
    | true =>
      have hkr : 1 ≤ k ∧ k ≤ (s.l.length : Int) := by
        have h2 := HQ.out.symm
        rw [HM.out] at h2
        simpa using h2
      obtain ⟨p, rfl, hp1, hps, rfl, rfl⟩ := lgs_yes HV.out HG.out.symm hkr
      have CL := Lib.hid (by
        have := l4Laid_any s c W2 (HSW.out.on HB1.out) (HCW.out.on HB1.out) HG.out.symm
        rw [← HM.out] at this; exact this)
      clear hkr
      go_wp2_with fail
      refine (show Calls _ _ _ W2 (fun e w' => ∃ J : Fld, e = .returned (.agg #[.slice J.o.a J.o.l.length J.o.c, .slice J.t.a J.t.R.length J.t.c]) ∧ J.o.l = List.replicate m 0 ∧ J.t.con = lineD s.l c.l ∧ J.Own 3 w' ∧ J.In W2.heap.size w'.heap.size w' ∧ Below W2.heap.size W2 w') from CL.out).mono ?_
      rintro e W3 ⟨J, rfl, hJl, hJc, -, hJI, hb3⟩
      have HJL : Hid (J.Like (lineK s.l c.l)) := Lib.hid ⟨by rw [hJl, HM.out]; rfl, by rw [hJc]; exact (mkF_con _ _).symm⟩
      obtain ⟨W4, hW4⟩ : ∃ u, u = W3.alloc (.cells #[.slice J.o.a J.o.l.length J.o.c, .slice J.t.a J.t.R.length J.t.c] 37) := ⟨_, rfl⟩
      have b4 : Box2 W4 W3.heap.size (.slice J.o.a J.o.l.length J.o.c) (.slice J.t.a J.t.R.length J.t.c) 37 := by rw [hW4]; exact Box2.made _ _ _ _
      have hb4 : Below W3.heap.size W3 W4 := by rw [hW4]; exact below_alloc _ _
      have HJ4 := Lib.hid (hJI.at.on hb4)
      have HBW := Lib.hid ((HB1.out.trans (hb3.mono HB1.out.size)).trans (hb4.mono (by have := HB1.out.size; have := hb3.size; omega)))
      have HW4 := Lib.hid hW4
      have HB4 := Lib.hid b4
      have hgJ : J.good = true := by rw [HJL.out.good]; exact line_good HG.out.symm
      have hol : J.o.l.length = s.l.length := by rw [HJL.out.1]; exact List.length_replicate ..
      have CB := Lib.hid (fun (u : World) (hu : Below W4.heap.size W4 u) => (by
        refine (l4Best_any J p u (HJ4.out.on hu) hgJ hp1 (by rw [hol]; exact hps)).mono (R' := fun e w' => ∃ y : Row, e = .returned (.slice y.a y.l.length y.c) ∧ Hid (y.At w' ∧ y.l = up (bestK (servT (lineK s.l c.l)) s.l.length p)) ∧ Below u.heap.size u w') ?_
        rintro e w' ⟨y, rfl, hy, hb⟩
        exact ⟨y, rfl, Lib.hid ⟨hy.ins.at, by rw [hy.l, hol, servT_like HJL.out]⟩, hb⟩ : Calls Try.prog 29 #[.agg #[.slice J.o.a J.o.l.length J.o.c, .slice J.t.a J.t.R.length J.t.c], .int .i64 p] u fun e w' => ∃ y : Row, e = .returned (.slice y.a y.l.length y.c) ∧ Hid (y.At w' ∧ y.l = up (bestK (servT (lineK s.l c.l)) s.l.length p)) ∧ Below u.heap.size u w'))
      have CC := Lib.hid (fun (u : World) (hu : Below W4.heap.size W4 u) (y : Row) (hy : Hid (y.At u ∧ y.l = up (bestK (servT (lineK s.l c.l)) s.l.length p))) => (by
        have hk7 := (bestK_set (φ := servT (lineK s.l c.l)) (line_parts HG.out.symm).1.2.1 hp1 hps).2.2
        refine (specClients_any J y u (HJ4.out.on hu) hy.out.1 (by rw [hy.out.2, up_length]; omega) _ _ (line_clis HJL.out HG.out.symm hp1 hps hy.out.2)).mono (R' := fun e w' => ∃ T : Tab, e = .returned (.tuple #[.slice T.a T.R.length T.c, .bool true]) ∧ Hid (PTab (lineG s.l c.l p) true w (.returned (.tuple #[.slice T.a T.R.length T.c, .bool true])) w') ∧ Below u.heap.size u w') ?_
        rintro e w' ⟨T, rfl, h1, h2, h3, h4⟩
        exact ⟨T, rfl, Lib.hid (PTab.back ⟨T, rfl, h1, h2, h3, h4⟩ (HBW.out.trans (hu.mono HBW.out.size))), h4⟩ : Calls Try.prog 28 #[.agg #[.slice J.o.a J.o.l.length J.o.c, .slice J.t.a J.t.R.length J.t.c], .slice y.a y.l.length y.c] u fun e w' => ∃ T : Tab, e = .returned (.tuple #[.slice T.a T.R.length T.c, .bool true]) ∧ Hid (PTab (lineG s.l c.l p) true w (.returned (.tuple #[.slice T.a T.R.length T.c, .bool true])) w') ∧ Below u.heap.size u w'))
      have HS0 : Hid (∀ u, Below W4.heap.size W4 u → ((u.cell? ⟨W3.heap.size, 0, none⟩ = some (.slice J.o.a J.o.l.length J.o.c) ∧ u.cell? ⟨W3.heap.size, 1, none⟩ = some (.slice J.t.a J.t.R.length J.t.c)) ∧ Below W4.heap.size W4 u)) := Lib.hid fun u hu => ⟨⟨(HB4.out.on hu).c0, (HB4.out.on hu).c1⟩, hu⟩
      have s0 := HS0.out W4.drew (Below.refl _ _).drew
      clear hJl hJc hJI hb3 hW4 b4 hb4 hgJ hol
      go_wp2_with fail
      rw [← HW4.out]
      go_region_held3 (fun u => ((u.cell? ⟨W3.heap.size, 0, none⟩ = some (.slice J.o.a J.o.l.length J.o.c) ∧ u.cell? ⟨W3.heap.size, 1, none⟩ = some (.slice J.t.a J.t.R.length J.t.c)) ∧ Below W4.heap.size W4 u)) (first | exact s0 | exact keep_reg HS0.out (by first | assumption | exact And.right (by assumption)) hb1) (first | (go_at_call 29; refine (show Calls _ _ _ _ _ from CB.out _ (by first | assumption | exact And.right (by assumption))).mono ?_; rintro e u1 ⟨y, rfl, HYY, hb1⟩) | (go_at_call 28; refine (show Calls _ _ _ _ _ from CC.out _ (by first | assumption | exact And.right (by assumption)) _ HYY).mono ?_; rintro e u9 ⟨T, rfl, HTT, hb1⟩))
      go_wp2
      go_ret2
      exact HTT.out

theorem lineGroups_pair (s c : Row) (k : Int) (_ : (Lit.int .i64 k).wf = true) (_ : s.l.length ≤ 1048576) (hcm : c.l.length ≤ 1048576) : ∃ (d : List (List Int)) (b : Bool) (_ : d.length ≤ 1048576 ∧ tot d ≤ 1048576),
    (∀ (t q : Row) (W : World), t.At W → q.At W → t.l = s.l → q.l = c.l → Calls Try.prog 7 #[.slice t.a t.l.length t.c, .slice q.a q.l.length q.c, .int .i64 k] W (PTab d b W)) ∧
    (∀ (t q : Row) (W : World), t.At W → q.At W → t.l = s.l → q.l = c.l → Calls Try.prog 9 #[.slice t.a t.l.length t.c, .slice q.a q.l.length q.c, .int .i64 k] W (PTab d b W)) := by
  obtain ⟨d, b, h, hs⟩ := lgs_some s.l c.l k
  exact ⟨d, b, hs, fun t q W ht hd h1 h2 => specLG_any t q k W ht hd (by rw [h2]; exact hcm) d b (by rw [h1, h2]; exact h), fun t q W ht hd h1 h2 => implLG_any t q k W ht hd d b (by rw [h1, h2]; exact h)⟩
end Go.Proofs.Ytfgedolngcdjpaa
