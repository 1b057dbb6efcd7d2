/- BestDispersion on both sides, as its law wants it. No condition. -/
import Derived.Test.YtddnadipleknoaaSpread
import Derived.Test.YtddnadipleknoaaSetsOf
import Derived.Test.YtddnadipleknoaaBestK
import Derived.Test.YtddnadipleknoaaSizeSeqL
namespace Go.Proofs.Ytddnadipleknoaa
open Go.RowKit Go.Shelf
attribute [local go_sem] Oper.semAt_some

/-- What the search holds between two rounds. -/
structure Holds (B : Nat) (V w : World) (φ : List Nat → Int) (C : List (List Nat)) (k : Nat) (y : Row) (W : World) : Prop where
  b5 : Boxed W (B + 1 + 1) 24 (.slice y.a y.l.length y.c)
  b6 : Boxed W (B + 1 + 1 + 1) 3 (.int .i64 (if k = 0 then 9223372036854775807 else φ (firstB φ (C.take k))))
  b3 : W.heap[B]? = V.heap[B]?
  bl : Below B w W
  yl : y.l = up (firstB φ (C.take k))
  ge : y.Ge B
theorem Holds.keep {B M : Nat} {V w : World} {φ : List Nat → Int} {C : List (List Nat)} {k : Nat} {y : Row} {A A' : World} (h : Holds B V w φ C k y A) (hb : Below M A A') (hM : B + 1 + 1 + 1 + 1 ≤ M) : Holds B V w φ C k y A' :=
  ⟨(hb.block _ (by omega)).trans h.b5, (hb.block _ (by omega)).trans h.b6, (hb.block _ (by omega)).trans h.b3, h.bl.trans (hb.mono (by omega)), h.yl, h.ge⟩

set_option maxRecDepth 100000 in
set_option maxHeartbeats 4000000 in
theorem firstLeastD_in (n : Nat) (hn : 4 ≤ n) (φ : List Nat → Int) (x0 : Value) (gf : Nat) (lb : Array Value) (C : List (List Nat)) (p q : Nat) (w0 w : World) (hq : q ≤ w.heap.size)
    (eg : ∀ args w, (callFunc gf args).run Try.prog w = .ok (.enter gf args) w) (hseq : ListSeq Fence.wide (n - 1) Try.prog gf lb (C.map up) p q w0) (hb0 : Below w0.heap.size w0 w)
    (hφ : ∀ T ∈ C, -9223372036854775808 ≤ φ T ∧ φ T < 9223372036854775807) (CO : ∀ T ∈ C, ∀ (x : Row) (u : World), Below w.heap.size w u → x.At u → x.l = up T → Calls Try.prog 31 #[.slice x.a x.l.length x.c, x0] u fun e w' => e = .returned (.int .i64 (φ T)) ∧ Below u.heap.size u w') (hC : ∀ T ∈ C, T ≠ []) :
    CallsIn Fence.wide n Try.prog 29 #[.func (.func gf) #[] lb, .func (.func 31) #[] #[x0]] w fun e w' => ∃ t : Row, e = .returned (.slice t.a t.l.length t.c) ∧ Best1 w.heap.size w' t (firstB φ C) ∧ Below w.heap.size w w' := by
  have h1 : 1 ≤ n := by omega
  refine callsIn_of_wp_marks Try.func29 rfl trivial ?_ rfl
  simp only [Try.ntmps29, List.size_toArray, List.length_cons, List.length_nil, Nat.reduceAdd, Nat.reduceSub, Array.replicate_succ, Array.replicate_zero, List.push_toArray, List.append_toArray, List.nil_append, List.cons_append]
  gi_wp2
  obtain ⟨V, hV⟩ : ∃ V, (((w.alloc (.cells #[.func (.func 31) #[] #[x0]] 45)).alloc (.cells #[] 3)).alloc (.cells #[.slice (some ⟨w.heap.size + 1, 0, none⟩) 0 0] 24)).alloc (.cells #[.int .i64 9223372036854775807] 3) = V := ⟨_, rfl⟩
  have hBV : Below w.heap.size w V := by rw [← hV]; exact (((((Below.refl _ w).alloc (Nat.le_refl _) _).alloc (by simp) _).alloc (by simp; omega) _).alloc (by simp; omega) _)
  have szV : V.heap.size = w.heap.size + 1 + 1 + 1 + 1 := by rw [← hV]; simp only [World.size_alloc]
  have v3 : Boxed V w.heap.size 45 (.func (.func 31) #[] #[x0]) := by rw [← hV]; exact (((Boxed.new w 45 _).alloc _).alloc _).alloc _
  have v5 : Boxed V (w.heap.size + 1 + 1) 24 (.slice (some ⟨w.heap.size + 1, 0, none⟩) 0 0) := by
    rw [← hV]
    have := (Boxed.new ((w.alloc (.cells #[.func (.func 31) #[] #[x0]] 45)).alloc (.cells #[] 3)) 24 (.slice (some ⟨w.heap.size + 1, 0, none⟩) 0 0)).alloc (.cells #[.int .i64 9223372036854775807] 3)
    simp only [World.size_alloc] at this; exact this
  have v6 : Boxed V (w.heap.size + 1 + 1 + 1) 3 (.int .i64 9223372036854775807) := by
    rw [← hV]
    have := Boxed.new (((w.alloc (.cells #[.func (.func 31) #[] #[x0]] 45)).alloc (.cells #[] 3)).alloc (.cells #[.slice (some ⟨w.heap.size + 1, 0, none⟩) 0 0] 24)) 3 (.int .i64 9223372036854775807)
    simp only [World.size_alloc] at this; exact this
  have hOw : V.ownsRow (w.heap.size + 1) 3 1 (.slice (some ⟨w.heap.size + 1, 0, none⟩) 0 0) ([] : List Int).length (iv []) := by
    rw [← hV]
    have := ((empty_own (w.alloc (.cells #[.func (.func 31) #[] #[x0]] 45))).alloc (.cells #[.slice (some ⟨w.heap.size + 1, 0, none⟩) 0 0] 24)).alloc (.cells #[.int .i64 9223372036854775807] 3)
    simp only [World.size_alloc] at this; exact this
  rw [hV]
  clear hV
  obtain ⟨y0, hy0v, hy0l, hy0o, hy0i⟩ := row_of_own hOw
  have HV3 := Lib.hid v3.cell
  have hy0 : y0.Held V := ⟨hy0o, hy0i.wide (Nat.zero_le _) (Nat.le_refl _)⟩
  have HFB := Lib.hid CO
  have HPB := Lib.hid hφ
  have HCL : Hid ((C.map up).length = C.length) := Lib.hid (List.length_map _)
  have HCC := Lib.hid hC
  have HEG := Lib.hid eg
  have HSQ := Lib.hid hseq
  have HSV := Lib.hid szV
  have hsv := hBV.size
  have HB0 := Lib.hid (hb0.trans (hBV.mono hb0.size))
  have hw0 := hb0.size
  have HY0V := Lib.hid hy0v
  have HY0L := Lib.hid hy0l
  clear hφ CO hC eg hseq hOw hy0v hy0l
  refine wpIn_rangeLists (F := Fence.wide) rfl h1 (gf := gf) (lb := lb) rfl trivial HEG.out HSQ.out HB0.out rfl (w.heap.size + 1 + 1) (w.heap.size + 1 + 1 + 1 + 1) (.inr (by omega)) (by omega)
    (Holds w.heap.size V w φ C) (fun k y A B h hb => h.keep hb (by omega)) y0 ⟨by rw [← HY0V.out]; exact v5, v6, rfl, hBV, HY0L.out, fun hl => absurd HY0L.out hl⟩ hy0
    (fun x => { tmps := #[.func (.func gf) #[] lb, .func (.func 31) #[] #[x0], undef, .pointer (some ⟨w.heap.size, 0, none⟩), .slice none 0 0, .pointer (some ⟨w.heap.size + 1 + 1, 0, none⟩), .pointer (some ⟨w.heap.size + 1 + 1 + 1, 0, none⟩), .slice x.a x.l.length x.c, undef, .slice (some ⟨w.heap.size + 1, 0, none⟩) 0 0, .func (.func gf) #[] lb, .slice x.a x.l.length x.c, undef, undef, undef, undef, undef, undef, undef, undef, undef], defers := [] }) ?assign ?body ?done
  case assign =>
    intro l x W K hK
    gi_wp2
    exact hK
  case body =>
    intro l k y x W hk hx hI hyH hxH hxI hsz
    have hkC : k < C.length := by rw [HCL.out] at hk; exact hk
    have hxC : x.l = up C[k] := by rw [hx, List.getElem_map]
    have hne := HCC.out _ (List.getElem_mem hkC)
    obtain ⟨v, hv⟩ : ∃ v, v = φ C[k] := ⟨_, rfl⟩
    have CL := Lib.hid (by
      have := HFB.out C[k] (List.getElem_mem hkC) x W hI.bl hxH.2.at hxC
      rw [← hv] at this; exact this)
    have c3 : W.cell? ⟨w.heap.size, 0, none⟩ = some (.func (.func 31) #[] #[x0]) := (World.cell?_of_block (a := ⟨w.heap.size, 0, none⟩) hI.b3).trans HV3.out
    have HI := Lib.hid hI
    have HYH := Lib.hid hyH
    have HXH := Lib.hid hxH
    have HXI := Lib.hid hxI
    have HXC := Lib.hid hxC
    have hvM : v < 9223372036854775807 := by rw [hv]; exact (HPB.out _ (List.getElem_mem hkC)).2
    have HVV := Lib.hid hv
    have HNE := Lib.hid hne
    have hvb := HPB.out _ (List.getElem_mem hkC)
    rw [← hv] at hvb
    have hWsz : V.heap.size ≤ W.heap.size := hsz
    clear hx hI hyH hxH hxI hxC hne hv hsz
    gi_wp2
    refine ⟨trivial, fun _ => by omega, (callsIn_wide.2 CL.out).mono ?_⟩
    rintro e W2 ⟨rfl, hb2⟩
    have hI2 := HI.out.keep hb2 (by omega)
    have HI2 := Lib.hid hI2
    have c5 := hI2.b5.cell
    have c6 := hI2.b6.cell
    have f5 := hI2.b5.frozen
    have f6 := hI2.b6.frozen
    have HYL : Hid (y.l.length = (firstB φ (C.take k)).length) := Lib.hid (by rw [hI2.yl, up_length])
    have HST := Lib.hid (firstB_step φ C hkC)
    have HB2 := Lib.hid hb2
    have hsz2 := hb2.size
    have HSTORE : Hid (stepB φ (firstB φ (C.take k)) C[k] = C[k] → ∀ W', W' = (W2.setCell ⟨w.heap.size + 1 + 1, 0, none⟩ (.slice x.a x.l.length x.c)).setCell ⟨w.heap.size + 1 + 1 + 1, 0, none⟩ (.int .i64 v) → RoundEnd (Holds w.heap.size V w φ C) k y x (w.heap.size + 1 + 1) (w.heap.size + 1 + 1 + 1 + 1) W .normal { tmps := #[], defers := [] } W') := Lib.hid (fun hs W' hW' => by
      have t2 : Touch (w.heap.size + 1 + 1) (w.heap.size + 1 + 1 + 1 + 1) W2 W' := by
        rw [hW']; exact ((Touch.refl _ _ W2).set (Nat.le_refl _) (by omega) 0 _).set (by omega) (by omega) 0 _
      have hx2 := HXH.out.on hb2
      have hxi2 : x.In V.heap.size W2.heap.size W2 := (HXI.out.on hb2).wide (Nat.le_refl _) hb2.size
      refine ⟨(Touch.of_below hb2).trans t2, x, .inr rfl, ⟨?_, ?_, ?_, hI2.bl.trans (t2.below (by omega) (by omega)), by rw [HST.out, hs]; exact HXC.out, fun hl a ha => by have := in_ge HXI.out hl a ha; omega⟩, hx2.1.touch hxi2 t2 (.inr (by omega)), ((hxi2.touch t2 (.inr (by omega))).wide (Nat.zero_le _) t2.size)⟩
      · rw [hW']
        exact (hI2.b5.set (.slice x.a x.l.length x.c)).kept (grownBy_setCell' _ (w.heap.size + 1 + 1 + 1) (.int .i64 v)) (by intro e; injection e with e; omega)
      · rw [hW', HST.out, hs, if_neg (Nat.succ_ne_zero k), ← HVV.out]
        have h6 : Boxed (W2.setCell ⟨w.heap.size + 1 + 1, 0, none⟩ (.slice x.a x.l.length x.c)) (w.heap.size + 1 + 1 + 1) 3 _ := hI2.b6.kept (grownBy_setCell' _ (w.heap.size + 1 + 1) _) (by intro e; injection e with e; omega)
        exact h6.set (.int .i64 v)
      · exact (t2.block _ (by omega) (by omega)).trans hI2.b3)
    have HKEEP : Hid (stepB φ (firstB φ (C.take k)) C[k] = firstB φ (C.take k) → k ≠ 0 → RoundEnd (Holds w.heap.size V w φ C) k y x (w.heap.size + 1 + 1) (w.heap.size + 1 + 1 + 1 + 1) W .normal { tmps := #[], defers := [] } W2) := Lib.hid (fun hs hk0 => by
      refine ⟨Touch.of_below hb2, y, .inl rfl, ⟨hI2.b5, ?_, hI2.b3, hI2.bl, by rw [HST.out, hs]; exact hI2.yl, hI2.ge⟩, HYH.out.on hb2⟩
      have := hI2.b6
      rw [if_neg hk0] at this
      rw [HST.out, hs, if_neg (Nat.succ_ne_zero k)]; exact this)
    clear hI2 hb2 c3
    by_cases hk0 : k = 0
    · have hy0' : firstB φ (C.take k) = [] := by rw [hk0]; rfl
      rw [if_pos hk0] at c6
      have HS := Lib.hid (HSTORE.out (by unfold stepB; rw [if_pos (.inl hy0')]) _ rfl)
      clear hy0'
      gi_wp2
      exact HS.out
    · have hpne : firstB φ (C.take k) ≠ [] := by
        intro e
        have h7 := firstB_some (φ := φ) (L := C.take k) (fun e2 => by have := congrArg List.length e2; rw [List.length_take, List.length_nil] at this; omega) (fun T hT => HCC.out T (List.mem_of_mem_take hT))
        rw [e] at h7
        exact HCC.out _ (List.mem_of_mem_take h7) rfl
      rw [if_neg hk0] at c6
      obtain ⟨z, hz⟩ : ∃ z, z = φ (firstB φ (C.take k)) := ⟨_, rfl⟩
      rw [← hz] at c6
      have HZ := Lib.hid hz
      clear hz
      by_cases hvz : v < z
      · have HS := Lib.hid (HSTORE.out (by unfold stepB; rw [if_pos (.inr (by rw [← HVV.out, ← HZ.out]; exact hvz))]) _ rfl)
        clear hpne
        gi_wp2
        exact HS.out
      · have HS := Lib.hid (HKEEP.out (by unfold stepB; rw [if_neg (fun h => h.elim hpne (fun h => hvz (by rw [HVV.out, HZ.out]; exact h)))]) hk0)
        clear hpne
        gi_wp2
        exact HS.out
  case done =>
    intro D y W hD hI hyH hK
    have c5 := hI.b5.cell
    have HI := Lib.hid hI
    have HYH := Lib.hid hyH
    have hsv2 := HSV.out
    clear hI hyH
    gi_wp2
    refine ⟨by simp, .inl ⟨_, _, rfl, run_takeDeferred hK, ?_⟩⟩
    refine ⟨_, results_tmp rfl _ _ _, y, rfl, ⟨?_, ?_, ?_⟩, ?_⟩
    · have := HI.out.yl
      rw [HCL.out, List.take_length] at this; exact this
    · exact (held_put HYH.out _ hK rfl).1
    · exact held_in (held_put HYH.out _ hK rfl) HI.out.ge
    · exact HI.out.bl.trans (put_below _ (by omega))

/-- The greatest dispersion is the least of its negatives. -/
def negD (d : List (List Int)) (T : List Nat) : Int := - dispT d T
theorem disp_bound {d : List (List Int)} (h : Grd d) (T : List Nat) : 0 ≤ dispT d T ∧ dispT d T ≤ 198 := ⟨dsp_bound h T 198 (by omega) _, dsp_le d T 198 _⟩
theorem firstK_len (φ : List Nat → Int) (k : Nat) : ∀ (L : List (List Nat)), firstK φ k L = [] ∨ (firstK φ k L).length = k := by
  intro L
  have h : ∀ (L : List (List Nat)) (b : List Nat), b = [] ∨ b.length = k → L.foldl (stepK φ k) b = [] ∨ (L.foldl (stepK φ k) b).length = k := by
    intro L
    induction L with
    | nil => intro b hb; exact hb
    | cons T L ih =>
      intro b hb
      refine ih _ ?_
      unfold stepK
      split
      · next hT =>
        unfold stepB
        split
        · exact .inr hT
        · exact hb
      · exact hb
  exact h L [] (.inl rfl)

set_option maxHeartbeats 1000000 in
theorem bestDisp1_any (T : Tab) (s : Row) (L : List Nat) (g : Nat) (w : World) (hT : T.At w) (hg : Grd T.con) (hs : s.At w) (hl : s.l = up L) (hL : ∀ m ∈ L, m < T.R.length) (h2 : 2 ≤ L.length) (hb : w.cell? ⟨g, 0, none⟩ = some (.slice T.a T.R.length T.c)) :
    Calls Try.prog 31 #[.slice s.a s.l.length s.c, .pointer (some ⟨g, 0, none⟩)] w fun e w' => e = .returned (.int .i64 (negD T.con L)) ∧ Below w.heap.size w w' := by
  have C := Lib.hid (dispersion_any T s L w hT hg hs hl hL h2)
  have hbd := disp_bound hg L
  obtain ⟨x, hx⟩ : ∃ x, x = dispT T.con L := ⟨_, rfl⟩
  have HE : Hid (negD T.con L = -x) := Lib.hid (by unfold negD; rw [hx])
  rw [HE.out]
  rw [← hx] at C hbd
  have e1 : IntKind.i64.wrap (-x) = -x := IntWalk.i64_in _ (by omega)
  clear hT hg hs hl hL h2 hx HE
  go_enter Try.func31, Try.ntmps31
  go_wp2_with fail
  refine (show Calls _ _ _ _ _ from C.out).mono ?_
  rintro e W ⟨rfl, rfl⟩
  go_wp2
  go_ret
  exact ⟨rfl, Below.refl _ _⟩

/-- What BestDispersion answers. -/
def BDis (d : List (List Int)) (k : Int) (l : List Int) (b : Bool) : Prop :=
  (spreadB d k = false ∧ l = [] ∧ b = false) ∨ (spreadB d k = true ∧ b = true ∧ l = up (bestK (negD d) d.length k.toNat))
theorem spread_nat {d : List (List Int)} {k : Int} (h : spreadB d k = true) : Grd d ∧ ∃ m : Nat, k = m ∧ 2 ≤ m ∧ m ≤ d.length := by
  unfold spreadB at h
  simp only [Bool.and_eq_true, decide_eq_true_eq] at h
  exact ⟨grdB_iff.1 h.1.1, k.toNat, by omega, by omega, by omega⟩
theorem bestD_ok {d : List (List Int)} (hg : Grd d) {m : Nat} (h2 : 2 ≤ m) (hm : m ≤ d.length) : (bestK (negD d) d.length m).length = m ∧ ∀ x ∈ bestK (negD d) d.length m, x < d.length :=
  (combs_ok hg.few (by omega) hm).2.2.1 _ (bestK_mem _ hg.few (by omega) hm)
theorem bDis_some (d : List (List Int)) (k : Int) : ∃ l b, BDis d k l b ∧ l.length ≤ 1048576 := by
  by_cases h : spreadB d k = true
  · obtain ⟨hg, m, rfl, h2, hm⟩ := spread_nat h
    refine ⟨_, _, .inr ⟨h, rfl, rfl⟩, ?_⟩
    have := hg.few
    rw [up_length, Int.toNat_natCast, (bestD_ok hg h2 hm).1]; omega
  · exact ⟨_, _, .inl ⟨by simpa using h, rfl, rfl⟩, by simp⟩

set_option maxRecDepth 32000 in
set_option maxHeartbeats 2000000 in
theorem implBestD_any (T : Tab) (k : Int) (w : World) (hT : T.At w) (l : List Int) (b : Bool) (hv : BDis T.con k l b) :
    Calls Try.prog 10 #[.slice T.a T.R.length T.c, .int .i64 k] w (PInts l b w) := by
  obtain ⟨wA, hA⟩ : ∃ u, u = w.alloc (.cells #[.slice T.a T.R.length T.c] 39) := ⟨_, rfl⟩
  have hbA : Below w.heap.size w wA := by rw [hA]; exact below_alloc _ _
  have cA : wA.cell? ⟨w.heap.size, 0, none⟩ = some (.slice T.a T.R.length T.c) := by rw [hA]; exact (Boxed.new w 39 (.slice T.a T.R.length T.c)).cell
  have HT := Lib.hid (hT.on hbA)
  have CT := Lib.hid (canSpread_any T k wA (hT.on hbA))
  have HA := Lib.hid hA
  have HCA := Lib.hid cA
  have y0 := cA
  rw [hA] at y0
  have hCL := con_length T
  rcases hv with ⟨h2, rfl, rfl⟩ | ⟨h2, rfl, rfl⟩
  · rw [h2] at CT
    clear h2 hT hA cA hCL
    go_enter Try.func10, Try.ntmps10
    go_wp2_with fail
    rw [← HA.out]
    refine (show Calls _ _ _ _ _ from CT.out).mono ?_
    rintro e W1 ⟨rfl, hb1⟩
    have HB := Lib.hid (hbA.trans (hb1.mono hbA.size))
    clear hb1 y0
    go_wp2
    go_ret2
    obtain ⟨t, ht, htl, hto, hti⟩ := row_of_own (empty_own W1)
    exact ⟨t, congrArg (fun v => Ending.returned (.tuple #[v, .bool false])) ht, htl, hto, hti.wide HB.out.size (Nat.le_refl _), HB.out.trans ((below_alloc W1 _).mono HB.out.size)⟩
  · rw [h2] at CT
    obtain ⟨hg, m, rfl, h2m, hm⟩ := spread_nat h2
    rw [hCL] at hm
    have hn7 : T.R.length ≤ 7 := by have := hg.few; rw [hCL] at this; exact this
    have hco := combs_ok (n := T.R.length) (k := m) hn7 (by omega) hm
    have CS := Lib.hid (fun u => setsOfSizeL_any T.R.length m u hn7 (by omega) hm)
    have CF := Lib.hid (fun (u W : World) (lb : Array Value) (hu : Below wA.heap.size wA u) (hW : Below u.heap.size u W) (hs : ∀ n, 2 ≤ n → ListSeqX Fence.wide n Try.prog 82 lb ((combs T.R.length m).map up) u.heap.size W.heap.size W) => (by
      have hAW := hu.trans (hW.mono hu.size)
      have cW : W.cell? ⟨w.heap.size, 0, none⟩ = some (.slice T.a T.R.length T.c) := (hAW.cell (p := ⟨w.heap.size, 0, none⟩) (World.block_lt_of_cell? _ _ HCA.out)).trans HCA.out
      exact callsIn_wide.1 (firstLeastD_in 4 (Nat.le_refl _) (negD T.con) (.pointer (some ⟨w.heap.size, 0, none⟩)) 82 lb (combs T.R.length m) u.heap.size W.heap.size W W (Nat.le_refl _) (enters_of Try.func82 (by kernel_rfl) rfl) (hs 3 (by omega)).all (Below.refl _ _) (fun L _ => by have := disp_bound hg L; unfold negD; omega)
        (fun L hL x u' hu' hx hxl => bestDisp1_any T x L w.heap.size u' ((HT.out.on hAW).on hu') hg hx hxl (hco.2.2.1 L hL).2 (by rw [(hco.2.2.1 L hL).1]; exact h2m) ((hu'.cell (p := ⟨w.heap.size, 0, none⟩) (World.block_lt_of_cell? _ _ cW)).trans cW))
        (fun L hL e => by have := (hco.2.2.1 L hL).1; rw [e] at this; simp at this; omega)) : Calls Try.prog 29 #[.func (.func 82) #[] lb, .func (.func 31) #[] #[.pointer (some ⟨w.heap.size, 0, none⟩)]] W fun e w' => ∃ t : Row, e = .returned (.slice t.a t.l.length t.c) ∧ Best1 W.heap.size w' t (firstB (negD T.con) (combs T.R.length m)) ∧ Below W.heap.size W w'))
    have HRES : Hid (up (bestK (negD T.con) T.con.length ((m : Nat) : Int).toNat) = up (firstB (negD T.con) (combs T.R.length m))) := Lib.hid (by rw [Int.toNat_natCast, hCL]; rfl)
    clear h2 hT hA cA hCL hg hm hn7 hco h2m
    go_enter Try.func10, Try.ntmps10
    go_wp2_with fail
    rw [← HA.out]
    refine (show Calls _ _ _ _ _ from CT.out).mono ?_
    rintro e W1 ⟨rfl, hb1⟩
    clear y0
    have y0 : W1.cell? ⟨w.heap.size, 0, none⟩ = some (.slice T.a T.R.length T.c) := (hb1.cell (p := ⟨w.heap.size, 0, none⟩) (World.block_lt_of_cell? _ _ HCA.out)).trans HCA.out
    have HB1 := Lib.hid hb1
    clear hb1
    go_wp2_with fail
    refine (show Calls _ _ _ _ _ from CS.out W1).mono ?_
    rintro e W2 ⟨lb, rfl, HSQ, hb2⟩
    have CF1 := Lib.hid (CF.out W1 W2 lb HB1.out hb2 HSQ.out)
    have HB2 := Lib.hid (HB1.out.trans (hb2.mono HB1.out.size))
    clear y0 hb2 HSQ CF
    go_wp2_with fail
    refine (show Calls _ _ _ _ _ from CF1.out).mono ?_
    rintro e W3 ⟨t, rfl, ht, hb3⟩
    have HTT := Lib.hid ht
    have HFIN := Lib.hid (hbA.trans ((HB2.out.trans (hb3.mono HB2.out.size)).mono hbA.size))
    have hs2 : w.heap.size ≤ W2.heap.size := Nat.le_trans hbA.size HB2.out.size
    clear ht hb3
    go_wp2
    go_ret2
    exact ⟨t, rfl, by rw [HRES.out]; exact HTT.out.l, HTT.out.own, HTT.out.ins.wide hs2 (Nat.le_refl _), HFIN.out⟩
end Go.Proofs.Ytddnadipleknoaa
