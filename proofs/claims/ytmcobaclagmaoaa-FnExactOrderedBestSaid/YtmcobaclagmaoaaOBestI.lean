/- OrderedBest: the program's side. Condition: Field and weights read as such. -/
import Derived.Test.YtmcobaclagmaoaaPairOrderedValue
import Derived.Test.YtmcobaclagmaoaaHasSites
import Derived.Test.YtmcobaclagmaoaaSizeSeqL
namespace Go.Proofs.Ytmcobaclagmaoaa
open Go.RowKit Go.Shelf
attribute [local go_sem] Oper.semAt_some

/-- What the search holds between two rounds. -/
structure Holds (B : Nat) (V w : World) (φ : List Nat → Int) (C : List (List Nat)) (k : Nat) (y : Row) (W : World) : Prop where
  b5 : Boxed W (B + 1 + 1) 22 (.slice y.a y.l.length y.c)
  b6 : Boxed W (B + 1 + 1 + 1) 3 (.int .i64 (if k = 0 then 9223372036854775807 else φ (firstB φ (C.take k))))
  b3 : W.heap[B]? = V.heap[B]?
  bl : Below B w W
  yl : y.l = up (firstB φ (C.take k))
  ge : y.Ge B
theorem Holds.keep {B M : Nat} {V w : World} {φ : List Nat → Int} {C : List (List Nat)} {k : Nat} {y : Row} {A A' : World} (h : Holds B V w φ C k y A) (hb : Below M A A') (hM : B + 1 + 1 + 1 + 1 ≤ M) : Holds B V w φ C k y A' :=
  ⟨(hb.block _ (by omega)).trans h.b5, (hb.block _ (by omega)).trans h.b6, (hb.block _ (by omega)).trans h.b3, h.bl.trans (hb.mono (by omega)), h.yl, h.ge⟩

set_option maxRecDepth 100000 in
set_option maxHeartbeats 4000000 in
theorem firstLeastO_in (n : Nat) (hn : 4 ≤ n) (φ : List Nat → Int) (x0 x1 : Value) (gf : Nat) (lb : Array Value) (C : List (List Nat)) (p q : Nat) (w0 w : World) (hq : q ≤ w.heap.size)
    (eg : ∀ args w, (callFunc gf args).run Try.prog w = .ok (.enter gf args) w) (hseq : ListSeq Fence.wide (n - 1) Try.prog gf lb (C.map up) p q w0) (hb0 : Below w0.heap.size w0 w)
    (hφ : ∀ T ∈ C, -9223372036854775808 ≤ φ T ∧ φ T < 9223372036854775807) (CO : ∀ T ∈ C, ∀ (x : Row) (u : World), Below w.heap.size w u → x.At u → x.l = up T → Calls Try.prog 38 #[.slice x.a x.l.length x.c, x0, x1] u fun e w' => e = .returned (.int .i64 (φ T)) ∧ Below u.heap.size u w') (hC : ∀ T ∈ C, T ≠ []) :
    CallsIn Fence.wide n Try.prog 36 #[.func (.func gf) #[] lb, .func (.func 38) #[] #[x0, x1]] w fun e w' => ∃ t : Row, e = .returned (.slice t.a t.l.length t.c) ∧ Best1 w.heap.size w' t (firstB φ C) ∧ Below w.heap.size w w' := by
  have h1 : 1 ≤ n := by omega
  refine callsIn_of_wp_marks Try.func36 rfl trivial ?_ rfl
  simp only [Try.ntmps36, List.size_toArray, List.length_cons, List.length_nil, Nat.reduceAdd, Nat.reduceSub, Array.replicate_succ, Array.replicate_zero, List.push_toArray, List.append_toArray, List.nil_append, List.cons_append]
  gi_wp2
  obtain ⟨V, hV⟩ : ∃ V, (((w.alloc (.cells #[.func (.func 38) #[] #[x0, x1]] 47)).alloc (.cells #[] 3)).alloc (.cells #[.slice (some ⟨w.heap.size + 1, 0, none⟩) 0 0] 22)).alloc (.cells #[.int .i64 9223372036854775807] 3) = V := ⟨_, rfl⟩
  have hBV : Below w.heap.size w V := by rw [← hV]; exact (((((Below.refl _ w).alloc (Nat.le_refl _) _).alloc (by simp) _).alloc (by simp; omega) _).alloc (by simp; omega) _)
  have szV : V.heap.size = w.heap.size + 1 + 1 + 1 + 1 := by rw [← hV]; simp only [World.size_alloc]
  have v3 : Boxed V w.heap.size 47 (.func (.func 38) #[] #[x0, x1]) := by rw [← hV]; exact (((Boxed.new w 47 _).alloc _).alloc _).alloc _
  have v5 : Boxed V (w.heap.size + 1 + 1) 22 (.slice (some ⟨w.heap.size + 1, 0, none⟩) 0 0) := by
    rw [← hV]
    have := (Boxed.new ((w.alloc (.cells #[.func (.func 38) #[] #[x0, x1]] 47)).alloc (.cells #[] 3)) 22 (.slice (some ⟨w.heap.size + 1, 0, none⟩) 0 0)).alloc (.cells #[.int .i64 9223372036854775807] 3)
    simp only [World.size_alloc] at this; exact this
  have v6 : Boxed V (w.heap.size + 1 + 1 + 1) 3 (.int .i64 9223372036854775807) := by
    rw [← hV]
    have := Boxed.new (((w.alloc (.cells #[.func (.func 38) #[] #[x0, x1]] 47)).alloc (.cells #[] 3)).alloc (.cells #[.slice (some ⟨w.heap.size + 1, 0, none⟩) 0 0] 22)) 3 (.int .i64 9223372036854775807)
    simp only [World.size_alloc] at this; exact this
  have hOw : V.ownsRow (w.heap.size + 1) 3 1 (.slice (some ⟨w.heap.size + 1, 0, none⟩) 0 0) ([] : List Int).length (iv []) := by
    rw [← hV]
    have := ((empty_own (w.alloc (.cells #[.func (.func 38) #[] #[x0, x1]] 47))).alloc (.cells #[.slice (some ⟨w.heap.size + 1, 0, none⟩) 0 0] 22)).alloc (.cells #[.int .i64 9223372036854775807] 3)
    simp only [World.size_alloc] at this; exact this
  rw [hV]
  clear hV
  obtain ⟨y0, hy0v, hy0l, hy0o, hy0i⟩ := row_of_own hOw
  have HV3 := Lib.hid v3.cell
  have hy0 : y0.Held V := ⟨hy0o, hy0i.wide (Nat.zero_le _) (Nat.le_refl _)⟩
  have HFB := Lib.hid CO
  have HPB := Lib.hid hφ
  have HCL : Hid ((C.map up).length = C.length) := Lib.hid (List.length_map _)
  have HCC := Lib.hid hC
  have HEG := Lib.hid eg
  have HSQ := Lib.hid hseq
  have HSV := Lib.hid szV
  have hsv := hBV.size
  have HB0 := Lib.hid (hb0.trans (hBV.mono hb0.size))
  have hw0 := hb0.size
  have HY0V := Lib.hid hy0v
  have HY0L := Lib.hid hy0l
  clear hφ CO hC eg hseq hOw hy0v hy0l
  refine wpIn_rangeLists (F := Fence.wide) rfl h1 (gf := gf) (lb := lb) rfl trivial HEG.out HSQ.out HB0.out rfl (w.heap.size + 1 + 1) (w.heap.size + 1 + 1 + 1 + 1) (.inr (by omega)) (by omega)
    (Holds w.heap.size V w φ C) (fun k y A B h hb => h.keep hb (by omega)) y0 ⟨by rw [← HY0V.out]; exact v5, v6, rfl, hBV, HY0L.out, fun hl => absurd HY0L.out hl⟩ hy0
    (fun x => { tmps := #[.func (.func gf) #[] lb, .func (.func 38) #[] #[x0, x1], undef, .pointer (some ⟨w.heap.size, 0, none⟩), .slice none 0 0, .pointer (some ⟨w.heap.size + 1 + 1, 0, none⟩), .pointer (some ⟨w.heap.size + 1 + 1 + 1, 0, none⟩), .slice x.a x.l.length x.c, undef, .slice (some ⟨w.heap.size + 1, 0, none⟩) 0 0, .func (.func gf) #[] lb, .slice x.a x.l.length x.c, undef, undef, undef, undef, undef, undef, undef, undef, undef], defers := [] }) ?assign ?body ?done
  case assign =>
    intro l x W K hK
    gi_wp2
    exact hK
  case body =>
    intro l k y x W hk hx hI hyH hxH hxI hsz
    have hkC : k < C.length := by rw [HCL.out] at hk; exact hk
    have hxC : x.l = up C[k] := by rw [hx, List.getElem_map]
    have hne := HCC.out _ (List.getElem_mem hkC)
    obtain ⟨v, hv⟩ : ∃ v, v = φ C[k] := ⟨_, rfl⟩
    have CL := Lib.hid (by
      have := HFB.out C[k] (List.getElem_mem hkC) x W hI.bl hxH.2.at hxC
      rw [← hv] at this; exact this)
    have c3 : W.cell? ⟨w.heap.size, 0, none⟩ = some (.func (.func 38) #[] #[x0, x1]) := (World.cell?_of_block (a := ⟨w.heap.size, 0, none⟩) hI.b3).trans HV3.out
    have HI := Lib.hid hI
    have HYH := Lib.hid hyH
    have HXH := Lib.hid hxH
    have HXI := Lib.hid hxI
    have HXC := Lib.hid hxC
    have hvM : v < 9223372036854775807 := by rw [hv]; exact (HPB.out _ (List.getElem_mem hkC)).2
    have HVV := Lib.hid hv
    have HNE := Lib.hid hne
    have hvb := HPB.out _ (List.getElem_mem hkC)
    rw [← hv] at hvb
    have hWsz : V.heap.size ≤ W.heap.size := hsz
    clear hx hI hyH hxH hxI hxC hne hv hsz
    gi_wp2
    refine ⟨trivial, fun _ => by omega, (callsIn_wide.2 CL.out).mono ?_⟩
    rintro e W2 ⟨rfl, hb2⟩
    have hI2 := HI.out.keep hb2 (by omega)
    have HI2 := Lib.hid hI2
    have c5 := hI2.b5.cell
    have c6 := hI2.b6.cell
    have f5 := hI2.b5.frozen
    have f6 := hI2.b6.frozen
    have HYL : Hid (y.l.length = (firstB φ (C.take k)).length) := Lib.hid (by rw [hI2.yl, up_length])
    have HST := Lib.hid (firstB_step φ C hkC)
    have HB2 := Lib.hid hb2
    have hsz2 := hb2.size
    have HSTORE : Hid (stepB φ (firstB φ (C.take k)) C[k] = C[k] → ∀ W', W' = (W2.setCell ⟨w.heap.size + 1 + 1, 0, none⟩ (.slice x.a x.l.length x.c)).setCell ⟨w.heap.size + 1 + 1 + 1, 0, none⟩ (.int .i64 v) → RoundEnd (Holds w.heap.size V w φ C) k y x (w.heap.size + 1 + 1) (w.heap.size + 1 + 1 + 1 + 1) W .normal { tmps := #[], defers := [] } W') := Lib.hid (fun hs W' hW' => by
      have t2 : Touch (w.heap.size + 1 + 1) (w.heap.size + 1 + 1 + 1 + 1) W2 W' := by
        rw [hW']; exact ((Touch.refl _ _ W2).set (Nat.le_refl _) (by omega) 0 _).set (by omega) (by omega) 0 _
      have hx2 := HXH.out.on hb2
      have hxi2 : x.In V.heap.size W2.heap.size W2 := (HXI.out.on hb2).wide (Nat.le_refl _) hb2.size
      refine ⟨(Touch.of_below hb2).trans t2, x, .inr rfl, ⟨?_, ?_, ?_, hI2.bl.trans (t2.below (by omega) (by omega)), by rw [HST.out, hs]; exact HXC.out, fun hl a ha => by have := in_ge HXI.out hl a ha; omega⟩, hx2.1.touch hxi2 t2 (.inr (by omega)), ((hxi2.touch t2 (.inr (by omega))).wide (Nat.zero_le _) t2.size)⟩
      · rw [hW']
        exact (hI2.b5.set (.slice x.a x.l.length x.c)).kept (grownBy_setCell' _ (w.heap.size + 1 + 1 + 1) (.int .i64 v)) (by intro e; injection e with e; omega)
      · rw [hW', HST.out, hs, if_neg (Nat.succ_ne_zero k), ← HVV.out]
        have h6 : Boxed (W2.setCell ⟨w.heap.size + 1 + 1, 0, none⟩ (.slice x.a x.l.length x.c)) (w.heap.size + 1 + 1 + 1) 3 _ := hI2.b6.kept (grownBy_setCell' _ (w.heap.size + 1 + 1) _) (by intro e; injection e with e; omega)
        exact h6.set (.int .i64 v)
      · exact (t2.block _ (by omega) (by omega)).trans hI2.b3)
    have HKEEP : Hid (stepB φ (firstB φ (C.take k)) C[k] = firstB φ (C.take k) → k ≠ 0 → RoundEnd (Holds w.heap.size V w φ C) k y x (w.heap.size + 1 + 1) (w.heap.size + 1 + 1 + 1 + 1) W .normal { tmps := #[], defers := [] } W2) := Lib.hid (fun hs hk0 => by
      refine ⟨Touch.of_below hb2, y, .inl rfl, ⟨hI2.b5, ?_, hI2.b3, hI2.bl, by rw [HST.out, hs]; exact hI2.yl, hI2.ge⟩, HYH.out.on hb2⟩
      have := hI2.b6
      rw [if_neg hk0] at this
      rw [HST.out, hs, if_neg (Nat.succ_ne_zero k)]; exact this)
    clear hI2 hb2 c3
    by_cases hk0 : k = 0
    · have hy0' : firstB φ (C.take k) = [] := by rw [hk0]; rfl
      rw [if_pos hk0] at c6
      have HS := Lib.hid (HSTORE.out (by unfold stepB; rw [if_pos (.inl hy0')]) _ rfl)
      clear hy0'
      gi_wp2
      exact HS.out
    · have hpne : firstB φ (C.take k) ≠ [] := by
        intro e
        have h7 := firstB_some (φ := φ) (L := C.take k) (fun e2 => by have := congrArg List.length e2; rw [List.length_take, List.length_nil] at this; omega) (fun T hT => HCC.out T (List.mem_of_mem_take hT))
        rw [e] at h7
        exact HCC.out _ (List.mem_of_mem_take h7) rfl
      rw [if_neg hk0] at c6
      obtain ⟨z, hz⟩ : ∃ z, z = φ (firstB φ (C.take k)) := ⟨_, rfl⟩
      rw [← hz] at c6
      have HZ := Lib.hid hz
      clear hz
      by_cases hvz : v < z
      · have HS := Lib.hid (HSTORE.out (by unfold stepB; rw [if_pos (.inr (by rw [← HVV.out, ← HZ.out]; exact hvz))]) _ rfl)
        clear hpne
        gi_wp2
        exact HS.out
      · have HS := Lib.hid (HKEEP.out (by unfold stepB; rw [if_neg (fun h => h.elim hpne (fun h => hvz (by rw [HVV.out, HZ.out]; exact h)))]) hk0)
        clear hpne
        gi_wp2
        exact HS.out
  case done =>
    intro D y W hD hI hyH hK
    have c5 := hI.b5.cell
    have HI := Lib.hid hI
    have HYH := Lib.hid hyH
    have hsv2 := HSV.out
    clear hI hyH
    gi_wp2
    refine ⟨by simp, .inl ⟨_, _, rfl, run_takeDeferred hK, ?_⟩⟩
    refine ⟨_, results_tmp rfl _ _ _, y, rfl, ⟨?_, ?_, ?_⟩, ?_⟩
    · have := HI.out.yl
      rw [HCL.out, List.take_length] at this; exact this
    · exact (held_put HYH.out _ hK rfl).1
    · exact held_in (held_put HYH.out _ hK rfl) HI.out.ge
    · exact HI.out.bl.trans (put_below _ (by omega))

theorem ord_bound {F : Fld} (hg : F.good = true) {p : List Int} (hp : ∀ x ∈ p, 0 ≤ x ∧ x ≤ 99) (T : List Nat) : 0 ≤ ordT F p T ∧ ordT F p T ≤ 68607 := by
  have := DotsW.sum (xs := p) (ys := sortA (lens F.t.con T)) ⟨hp, sorted_bound hg T⟩ F.t.con.length
  have h7 := (good_sizes hg).2.2
  rw [con_length] at this
  unfold ordT
  rw [con_length]; omega
/-- What OrderedBest answers. -/
def OBest (F : Fld) (k : Int) (p : List Int) (l : List Int) (b : Bool) : Prop :=
  ((kB F k && rowB F.t.R.length p) = false ∧ l = [] ∧ b = false) ∨ ((kB F k && rowB F.t.R.length p) = true ∧ b = true ∧ l = up (bestK (ordT F p) F.o.l.length k.toNat))
theorem bestO_ok {F : Fld} (hg : F.good = true) (φ : List Nat → Int) {m : Nat} (h1 : 1 ≤ m) (hm : m ≤ F.o.l.length) : (bestK φ F.o.l.length m).length = m ∧ ∀ x ∈ bestK φ F.o.l.length m, x < F.o.l.length := by
  have h7 := (good_sizes hg).2.1
  exact (combs_ok h7 h1 hm).2.2.1 _ (bestK_mem _ h7 h1 hm)
theorem oBest_some (F : Fld) (k : Int) (p : List Int) : ∃ l b, OBest F k p l b ∧ l.length ≤ 1048576 := by
  by_cases h : (kB F k && rowB F.t.R.length p) = true
  · have h' := h
    rw [Bool.and_eq_true] at h'
    obtain ⟨hg, m, rfl, h1, hm⟩ := kB_nat h'.1
    refine ⟨_, _, .inr ⟨h, rfl, rfl⟩, ?_⟩
    have := (good_sizes hg).2.1
    rw [up_length, Int.toNat_natCast, (bestO_ok hg _ h1 hm).1]; omega
  · exact ⟨_, _, .inl ⟨by simpa using h, rfl, rfl⟩, by simp⟩
theorem oBest_like {F G : Fld} {k : Int} {p : List Int} {l : List Int} {b : Bool} (h : OBest F k p l b) (hl : G.Like F) : OBest G k p l b := by
  have hn : G.t.R.length = F.t.R.length := by have := congrArg List.length hl.2; rw [con_length, con_length] at this; exact this
  have ho : ordT G p = ordT F p := by funext T; unfold ordT; rw [hl.2]
  rcases h with ⟨h1, h2⟩ | ⟨h1, h2, h3⟩
  · exact .inl ⟨by rw [kB_like hl, hn]; exact h1, h2⟩
  · exact .inr ⟨by rw [kB_like hl, hn]; exact h1, h2, by rw [ho, hl.1]; exact h3⟩

set_option maxHeartbeats 1000000 in
theorem ordBest1_any (F : Fld) (s r : Row) (T : List Nat) (g1 g2 : Nat) (w : World) (hF : F.At w) (hs : s.At w) (hr : r.At w) (hf : Fine F s T) (hrn : r.l.length = F.t.R.length) (hrb : ∀ x ∈ r.l, 0 ≤ x ∧ x ≤ 99) (bx : Box2 w g1 F.o.val F.t.val 29) (h2 : w.cell? ⟨g2, 0, none⟩ = some (.slice r.a r.l.length r.c)) :
    Calls Try.prog 38 #[.slice s.a s.l.length s.c, .pointer (some ⟨g1, 0, none⟩), .pointer (some ⟨g2, 0, none⟩)] w fun e w' => e = .returned (.int .i64 (ordT F r.l T)) ∧ Below w.heap.size w w' := by
  have C := Lib.hid (orderedValue_any F s r T w hF hs hr hf hrn hrb)
  have y0 : w.cell? ⟨g1, 0, none⟩ = some (.slice F.o.a F.o.l.length F.o.c) := bx.c0
  have y1 : w.cell? ⟨g1, 1, none⟩ = some (.slice F.t.a F.t.R.length F.t.c) := bx.c1
  clear hF hs hr hf hrn hrb bx
  go_enter Try.func38, Try.ntmps38
  go_wp2_with fail
  refine (show Calls _ _ _ _ _ from C.out).mono ?_
  rintro e W ⟨rfl, hb⟩
  clear y0 y1 h2
  go_wp2
  go_ret
  exact ⟨rfl, hb⟩

set_option maxRecDepth 32000 in
set_option maxHeartbeats 2000000 in
theorem implOBest_any (F : Fld) (k : Int) (r : Row) (w : World) (hF : F.At w) (hr : r.At w) (l : List Int) (b : Bool) (hv : OBest F k r.l l b) :
    Calls Try.prog 16 #[F.val, .int .i64 k, .slice r.a r.l.length r.c] w (PInts l b w) := by
  obtain ⟨w0, hw0, hb0, bx0, hF0, hsz0⟩ := laid_fld F w 29 hF
  obtain ⟨wA, hA0⟩ : ∃ u, u = w0.alloc (.cells #[.slice r.a r.l.length r.c] 22) := ⟨_, rfl⟩
  have hb1 : Below w0.heap.size w0 wA := by rw [hA0]; exact below_alloc _ _
  have hbA : Below w.heap.size w wA := hb0.trans (hb1.mono hb0.size)
  have cR : wA.cell? ⟨w.heap.size + 1, 0, none⟩ = some (.slice r.a r.l.length r.c) := by
    have := (Boxed.new w0 22 (.slice r.a r.l.length r.c)).cell
    rw [hsz0] at this; rw [hA0]; exact this
  have bx := bx0.on hb1
  have hFA := hF0.on hb1
  have hrA := (hr.on hb0).on hb1
  have HA : Hid (wA = (w.alloc (Obj.cells #[.slice F.o.a F.o.l.length F.o.c, .slice F.t.a F.t.R.length F.t.c] 29)).alloc (.cells #[.slice r.a r.l.length r.c] 22)) := Lib.hid (by rw [hA0, hw0]; rfl)
  obtain ⟨g, hg⟩ : ∃ g, g = kB F k := ⟨_, rfl⟩
  obtain ⟨u, hu⟩ : ∃ u, u = rowB F.t.R.length r.l := ⟨_, rfl⟩
  have HFA := Lib.hid hFA
  have HRA := Lib.hid hrA
  have HBX := Lib.hid bx
  have HCR := Lib.hid cR
  have CT := Lib.hid (show Calls Try.prog 35 #[.agg #[.slice F.o.a F.o.l.length F.o.c, .slice F.t.a F.t.R.length F.t.c], .int .i64 k] wA fun e w' => e = .returned (.bool g) ∧ Below wA.heap.size wA w' from by have := hasSites_any F k wA hFA; rw [← hg] at this; exact this)
  have C3 := Lib.hid (fun W (hb : Below wA.heap.size wA W) (h : g = true) => (by have := areWeights_any F r W (HFA.out.on hb) (HRA.out.on hb) (kB_nat (hg.symm.trans h)).1; rw [← hu] at this; exact this : Calls Try.prog 31 #[.agg #[.slice F.o.a F.o.l.length F.o.c, .slice F.t.a F.t.R.length F.t.c], .slice r.a r.l.length r.c] W fun e w' => e = .returned (.bool u) ∧ Below W.heap.size W w'))
  have HNO : Hid ((g && u) = false → l = [] ∧ b = false) := Lib.hid fun h => by
    rcases hv with ⟨_, h1, h2⟩ | ⟨h1, _⟩
    · exact ⟨h1, h2⟩
    · rw [← hg, ← hu, h] at h1; cases h1
  have HYES : Hid ((g && u) = true → b = true ∧ l = up (bestK (ordT F r.l) F.o.l.length k.toNat) ∧ kB F k = true ∧ rowB F.t.R.length r.l = true) := Lib.hid fun h => by
    rcases hv with ⟨h1, _⟩ | ⟨_, h2, h3⟩
    · rw [← hg, ← hu, h] at h1; cases h1
    · rw [hg, hu, Bool.and_eq_true] at h; exact ⟨h2, h3, h.1, h.2⟩
  have x0 := (bx.c0 : wA.cell? ⟨w.heap.size, 0, none⟩ = some (.slice F.o.a F.o.l.length F.o.c))
  have x1 := (bx.c1 : wA.cell? ⟨w.heap.size, 1, none⟩ = some (.slice F.t.a F.t.R.length F.t.c))
  rw [HA.out] at x0 x1
  clear hF hr hw0 hb0 bx0 hF0 hsz0 hA0 hb1 cR bx hFA hrA hg hu hv
  show Calls _ _ #[.agg #[.slice F.o.a F.o.l.length F.o.c, .slice F.t.a F.t.R.length F.t.c], _, _] w _
  cases g with
  | false =>
    obtain ⟨rfl, rfl⟩ := HNO.out rfl
    clear HNO HYES
    go_enter Try.func16, Try.ntmps16
    go_wp2_with fail
    rw [← HA.out]
    refine (show Calls _ _ _ _ _ from CT.out).mono ?_
    rintro e W1 ⟨rfl, hb1⟩
    have HB := Lib.hid (hbA.trans (hb1.mono hbA.size))
    clear hb1 x0 x1
    go_wp2
    go_ret2
    obtain ⟨t, ht, htl, hto, hti⟩ := row_of_own (empty_own W1)
    exact ⟨t, congrArg (fun v => Ending.returned (.tuple #[v, .bool false])) ht, htl, hto, hti.wide HB.out.size (Nat.le_refl _), HB.out.trans ((below_alloc W1 _).mono HB.out.size)⟩
  | true =>
    cases u with
    | false =>
      obtain ⟨rfl, rfl⟩ := HNO.out rfl
      clear HNO HYES
      go_enter Try.func16, Try.ntmps16
      go_wp2_with fail
      rw [← HA.out]
      refine (show Calls _ _ _ _ _ from CT.out).mono ?_
      rintro e W1 ⟨rfl, hb1⟩
      clear x0 x1
      have y0 : W1.cell? ⟨w.heap.size, 0, none⟩ = some (.slice F.o.a F.o.l.length F.o.c) := (HBX.out.on hb1).c0
      have y1 : W1.cell? ⟨w.heap.size, 1, none⟩ = some (.slice F.t.a F.t.R.length F.t.c) := (HBX.out.on hb1).c1
      have y2 : W1.cell? ⟨w.heap.size + 1, 0, none⟩ = some (.slice r.a r.l.length r.c) := (hb1.cell (p := ⟨w.heap.size + 1, 0, none⟩) (World.block_lt_of_cell? _ _ HCR.out)).trans HCR.out
      have HB1 := Lib.hid (hbA.trans (hb1.mono hbA.size))
      go_wp2_with fail
      refine (show Calls _ _ _ _ _ from C3.out W1 hb1 (by first | rfl | trivial)).mono ?_
      rintro e W2 ⟨rfl, hb2⟩
      have HB := Lib.hid (HB1.out.trans (hb2.mono HB1.out.size))
      clear hb1 hb2 y0 y1 y2
      go_wp2
      go_ret2
      obtain ⟨t, ht, htl, hto, hti⟩ := row_of_own (empty_own W2)
      exact ⟨t, congrArg (fun v => Ending.returned (.tuple #[v, .bool false])) ht, htl, hto, hti.wide HB.out.size (Nat.le_refl _), HB.out.trans ((below_alloc W2 _).mono HB.out.size)⟩
    | true =>
      obtain ⟨rfl, rfl, hkb, hrb⟩ := HYES.out rfl
      obtain ⟨hgood, m, rfl, h1m, hm⟩ := kB_nat hkb
      have hsz := good_sizes hgood
      have hr2 := rowB_iffO hrb
      have hrx : ∀ x ∈ r.l, 0 ≤ x ∧ x ≤ 99 := fun x hx => upTo_iff.1 (List.all_eq_true.1 hr2.1 x hx)
      have hco := combs_ok (n := F.o.l.length) (k := m) hsz.2.1 h1m hm
      have CS := Lib.hid (fun u => setsOfSizeL_any F.o.l.length m u hsz.2.1 h1m hm)
      have CF := Lib.hid (fun (u W : World) (lb : Array Value) (hu : Below wA.heap.size wA u) (hW : Below u.heap.size u W) (hs : ∀ n, 2 ≤ n → ListSeqX Fence.wide n Try.prog 77 lb ((combs F.o.l.length m).map up) u.heap.size W.heap.size W) => (by
        have hAW := hu.trans (hW.mono hu.size)
        have cW : W.cell? ⟨w.heap.size + 1, 0, none⟩ = some (.slice r.a r.l.length r.c) := (hAW.cell (p := ⟨w.heap.size + 1, 0, none⟩) (World.block_lt_of_cell? _ _ HCR.out)).trans HCR.out
        exact callsIn_wide.1 (firstLeastO_in 4 (Nat.le_refl _) (ordT F r.l) (.pointer (some ⟨w.heap.size, 0, none⟩)) (.pointer (some ⟨w.heap.size + 1, 0, none⟩)) 77 lb (combs F.o.l.length m) u.heap.size W.heap.size W W (Nat.le_refl _) (enters_of Try.func77 (by kernel_rfl) rfl) (hs 3 (by omega)).all (Below.refl _ _) (fun L _ => by have := ord_bound hgood hrx L; omega)
          (fun L hL x u' hu' hx hxl => ordBest1_any F x r L w.heap.size (w.heap.size + 1) u' ((HFA.out.on hAW).on hu') hx ((HRA.out.on hAW).on hu') ⟨hgood, hxl, by rw [(hco.2.2.1 L hL).1]; omega, (hco.2.2.1 L hL).2⟩ hr2.2 hrx ((HBX.out.on hAW).on hu') ((hu'.cell (p := ⟨w.heap.size + 1, 0, none⟩) (World.block_lt_of_cell? _ _ cW)).trans cW))
          (fun L hL e => by have := (hco.2.2.1 L hL).1; rw [e] at this; simp at this; omega)) : Calls Try.prog 36 #[.func (.func 77) #[] lb, .func (.func 38) #[] #[.pointer (some ⟨w.heap.size, 0, none⟩), .pointer (some ⟨w.heap.size + 1, 0, none⟩)]] W fun e w' => ∃ t : Row, e = .returned (.slice t.a t.l.length t.c) ∧ Best1 W.heap.size w' t (firstB (ordT F r.l) (combs F.o.l.length m)) ∧ Below W.heap.size W w'))
      have HRES : Hid (up (bestK (ordT F r.l) F.o.l.length ((m : Nat) : Int).toNat) = up (firstB (ordT F r.l) (combs F.o.l.length m))) := Lib.hid (by rw [Int.toNat_natCast]; rfl)
      clear HNO HYES hkb hrb hgood h1m hm hsz hr2 hrx hco
      go_enter Try.func16, Try.ntmps16
      go_wp2_with fail
      rw [← HA.out]
      refine (show Calls _ _ _ _ _ from CT.out).mono ?_
      rintro e W1 ⟨rfl, hb1⟩
      clear x0 x1
      have y0 : W1.cell? ⟨w.heap.size, 0, none⟩ = some (.slice F.o.a F.o.l.length F.o.c) := (HBX.out.on hb1).c0
      have y1 : W1.cell? ⟨w.heap.size, 1, none⟩ = some (.slice F.t.a F.t.R.length F.t.c) := (HBX.out.on hb1).c1
      have y2 : W1.cell? ⟨w.heap.size + 1, 0, none⟩ = some (.slice r.a r.l.length r.c) := (hb1.cell (p := ⟨w.heap.size + 1, 0, none⟩) (World.block_lt_of_cell? _ _ HCR.out)).trans HCR.out
      have HB1 := Lib.hid hb1
      go_wp2_with fail
      refine (show Calls _ _ _ _ _ from C3.out W1 hb1 (by first | rfl | trivial)).mono ?_
      rintro e W2 ⟨rfl, hb2⟩
      have HB2 := Lib.hid (HB1.out.trans (hb2.mono HB1.out.size))
      clear hb1 hb2 y0 y1 y2
      have y0 : W2.cell? ⟨w.heap.size, 0, none⟩ = some (.slice F.o.a F.o.l.length F.o.c) := (HBX.out.on HB2.out).c0
      go_wp2_with fail
      refine (show Calls _ _ _ _ _ from CS.out W2).mono ?_
      rintro e W3 ⟨lb, rfl, HSQ, hb3⟩
      have CF1 := Lib.hid (CF.out W2 W3 lb HB2.out hb3 HSQ.out)
      have HB3 := Lib.hid (HB2.out.trans (hb3.mono HB2.out.size))
      clear y0 hb3 HSQ CF
      go_wp2_with fail
      refine (show Calls _ _ _ _ _ from CF1.out).mono ?_
      rintro e W4 ⟨t, rfl, ht, hb4⟩
      have HTT := Lib.hid ht
      have HFIN := Lib.hid (hbA.trans ((HB3.out.trans (hb4.mono HB3.out.size)).mono hbA.size))
      have hs2 : w.heap.size ≤ W3.heap.size := Nat.le_trans hbA.size HB3.out.size
      clear ht hb4
      go_wp2
      go_ret2
      exact ⟨t, rfl, by rw [HRES.out]; exact HTT.out.l, HTT.out.own, HTT.out.ins.wide hs2 (Nat.le_refl _), HFIN.out⟩
end Go.Proofs.Ytmcobaclagmaoaa
