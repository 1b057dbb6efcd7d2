/- BestUnder: the program's side. Condition: the Field reads as such. -/
import Derived.Test.YtemflcegkebloaaPointAny
import Derived.Test.YtemflcegkebloaaPicked
import Derived.Test.YtemflcegkebloaaSiteSeqL
import Derived.Test.YtemflcegkebloaaBestTot
namespace Go.Proofs.Ytemflcegkebloaa
open Go.RowKit Go.Shelf
attribute [local go_sem] Oper.semAt_some

/-- What the search holds between two rounds. -/
structure Holds (B : Nat) (V w : World) (φ : List Nat → Int) (C : List (List Nat)) (k : Nat) (y : Row) (W : World) : Prop where
  b5 : Boxed W (B + 1 + 1) 22 (.slice y.a y.l.length y.c)
  b6 : Boxed W (B + 1 + 1 + 1) 3 (.int .i64 (if k = 0 then 9223372036854775807 else φ (firstB φ (C.take k))))
  b3 : W.heap[B]? = V.heap[B]?
  bl : Below B w W
  yl : y.l = up (firstB φ (C.take k))
  ge : y.Ge B
theorem Holds.keep {B M : Nat} {V w : World} {φ : List Nat → Int} {C : List (List Nat)} {k : Nat} {y : Row} {A A' : World} (h : Holds B V w φ C k y A) (hb : Below M A A') (hM : B + 1 + 1 + 1 + 1 ≤ M) : Holds B V w φ C k y A' :=
  ⟨(hb.block _ (by omega)).trans h.b5, (hb.block _ (by omega)).trans h.b6, (hb.block _ (by omega)).trans h.b3, h.bl.trans (hb.mono (by omega)), h.yl, h.ge⟩

set_option maxRecDepth 100000 in
set_option maxHeartbeats 4000000 in
theorem firstLeastBU_in (n : Nat) (hn : 4 ≤ n) (φ : List Nat → Int) (x0 : Value) (gf : Nat) (lb : Array Value) (C : List (List Nat)) (p q : Nat) (w0 w : World) (hq : q ≤ w.heap.size)
    (eg : ∀ args w, (callFunc gf args).run Try.prog w = .ok (.enter gf args) w) (hseq : ListSeq Fence.wide (n - 1) Try.prog gf lb (C.map up) p q w0) (hb0 : Below w0.heap.size w0 w)
    (hφ : ∀ T ∈ C, -9223372036854775808 ≤ φ T ∧ φ T < 9223372036854775807) (CO : ∀ T ∈ C, ∀ (x : Row) (u : World), Below w.heap.size w u → x.At u → x.l = up T → Calls Try.prog 37 #[.slice x.a x.l.length x.c, x0] u fun e w' => e = .returned (.int .i64 (φ T)) ∧ Below u.heap.size u w') (hC : ∀ T ∈ C, T ≠ []) :
    CallsIn Fence.wide n Try.prog 36 #[.func (.func gf) #[] lb, .func (.func 37) #[] #[x0]] w fun e w' => ∃ t : Row, e = .returned (.slice t.a t.l.length t.c) ∧ Best1 w.heap.size w' t (firstB φ C) ∧ Below w.heap.size w w' := by
  have h1 : 1 ≤ n := by omega
  refine callsIn_of_wp_marks Try.func36 rfl trivial ?_ rfl
  simp only [Try.ntmps36, List.size_toArray, List.length_cons, List.length_nil, Nat.reduceAdd, Nat.reduceSub, Array.replicate_succ, Array.replicate_zero, List.push_toArray, List.append_toArray, List.nil_append, List.cons_append]
  gi_wp2
  obtain ⟨V, hV⟩ : ∃ V, (((w.alloc (.cells #[.func (.func 37) #[] #[x0]] 61)).alloc (.cells #[] 3)).alloc (.cells #[.slice (some ⟨w.heap.size + 1, 0, none⟩) 0 0] 22)).alloc (.cells #[.int .i64 9223372036854775807] 3) = V := ⟨_, rfl⟩
  have hBV : Below w.heap.size w V := by rw [← hV]; exact (((((Below.refl _ w).alloc (Nat.le_refl _) _).alloc (by simp) _).alloc (by simp; omega) _).alloc (by simp; omega) _)
  have szV : V.heap.size = w.heap.size + 1 + 1 + 1 + 1 := by rw [← hV]; simp only [World.size_alloc]
  have v3 : Boxed V w.heap.size 61 (.func (.func 37) #[] #[x0]) := by rw [← hV]; exact (((Boxed.new w 61 _).alloc _).alloc _).alloc _
  have v5 : Boxed V (w.heap.size + 1 + 1) 22 (.slice (some ⟨w.heap.size + 1, 0, none⟩) 0 0) := by
    rw [← hV]
    have := (Boxed.new ((w.alloc (.cells #[.func (.func 37) #[] #[x0]] 61)).alloc (.cells #[] 3)) 22 (.slice (some ⟨w.heap.size + 1, 0, none⟩) 0 0)).alloc (.cells #[.int .i64 9223372036854775807] 3)
    simp only [World.size_alloc] at this; exact this
  have v6 : Boxed V (w.heap.size + 1 + 1 + 1) 3 (.int .i64 9223372036854775807) := by
    rw [← hV]
    have := Boxed.new (((w.alloc (.cells #[.func (.func 37) #[] #[x0]] 61)).alloc (.cells #[] 3)).alloc (.cells #[.slice (some ⟨w.heap.size + 1, 0, none⟩) 0 0] 22)) 3 (.int .i64 9223372036854775807)
    simp only [World.size_alloc] at this; exact this
  have hOw : V.ownsRow (w.heap.size + 1) 3 1 (.slice (some ⟨w.heap.size + 1, 0, none⟩) 0 0) ([] : List Int).length (iv []) := by
    rw [← hV]
    have := ((empty_own (w.alloc (.cells #[.func (.func 37) #[] #[x0]] 61))).alloc (.cells #[.slice (some ⟨w.heap.size + 1, 0, none⟩) 0 0] 22)).alloc (.cells #[.int .i64 9223372036854775807] 3)
    simp only [World.size_alloc] at this; exact this
  rw [hV]
  clear hV
  obtain ⟨y0, hy0v, hy0l, hy0o, hy0i⟩ := row_of_own hOw
  have HV3 := Lib.hid v3.cell
  have hy0 : y0.Held V := ⟨hy0o, hy0i.wide (Nat.zero_le _) (Nat.le_refl _)⟩
  have HFB := Lib.hid CO
  have HPB := Lib.hid hφ
  have HCL : Hid ((C.map up).length = C.length) := Lib.hid (List.length_map _)
  have HCC := Lib.hid hC
  have HEG := Lib.hid eg
  have HSQ := Lib.hid hseq
  have HSV := Lib.hid szV
  have hsv := hBV.size
  have HB0 := Lib.hid (hb0.trans (hBV.mono hb0.size))
  have hw0 := hb0.size
  have HY0V := Lib.hid hy0v
  have HY0L := Lib.hid hy0l
  clear hφ CO hC eg hseq hOw hy0v hy0l
  refine wpIn_rangeLists (F := Fence.wide) rfl h1 (gf := gf) (lb := lb) rfl trivial HEG.out HSQ.out HB0.out rfl (w.heap.size + 1 + 1) (w.heap.size + 1 + 1 + 1 + 1) (.inr (by omega)) (by omega)
    (Holds w.heap.size V w φ C) (fun k y A B h hb => h.keep hb (by omega)) y0 ⟨by rw [← HY0V.out]; exact v5, v6, rfl, hBV, HY0L.out, fun hl => absurd HY0L.out hl⟩ hy0
    (fun x => { tmps := #[.func (.func gf) #[] lb, .func (.func 37) #[] #[x0], undef, .pointer (some ⟨w.heap.size, 0, none⟩), .slice none 0 0, .pointer (some ⟨w.heap.size + 1 + 1, 0, none⟩), .pointer (some ⟨w.heap.size + 1 + 1 + 1, 0, none⟩), .slice x.a x.l.length x.c, undef, .slice (some ⟨w.heap.size + 1, 0, none⟩) 0 0, .func (.func gf) #[] lb, .slice x.a x.l.length x.c, undef, undef, undef, undef, undef, undef, undef, undef, undef], defers := [] }) ?assign ?body ?done
  case assign =>
    intro l x W K hK
    gi_wp2
    exact hK
  case body =>
    intro l k y x W hk hx hI hyH hxH hxI hsz
    have hkC : k < C.length := by rw [HCL.out] at hk; exact hk
    have hxC : x.l = up C[k] := by rw [hx, List.getElem_map]
    have hne := HCC.out _ (List.getElem_mem hkC)
    obtain ⟨v, hv⟩ : ∃ v, v = φ C[k] := ⟨_, rfl⟩
    have CL := Lib.hid (by
      have := HFB.out C[k] (List.getElem_mem hkC) x W hI.bl hxH.2.at hxC
      rw [← hv] at this; exact this)
    have c3 : W.cell? ⟨w.heap.size, 0, none⟩ = some (.func (.func 37) #[] #[x0]) := (World.cell?_of_block (a := ⟨w.heap.size, 0, none⟩) hI.b3).trans HV3.out
    have HI := Lib.hid hI
    have HYH := Lib.hid hyH
    have HXH := Lib.hid hxH
    have HXI := Lib.hid hxI
    have HXC := Lib.hid hxC
    have hvM : v < 9223372036854775807 := by rw [hv]; exact (HPB.out _ (List.getElem_mem hkC)).2
    have HVV := Lib.hid hv
    have HNE := Lib.hid hne
    have hvb := HPB.out _ (List.getElem_mem hkC)
    rw [← hv] at hvb
    have hWsz : V.heap.size ≤ W.heap.size := hsz
    clear hx hI hyH hxH hxI hxC hne hv hsz
    gi_wp2
    refine ⟨trivial, fun _ => by omega, (callsIn_wide.2 CL.out).mono ?_⟩
    rintro e W2 ⟨rfl, hb2⟩
    have hI2 := HI.out.keep hb2 (by omega)
    have HI2 := Lib.hid hI2
    have c5 := hI2.b5.cell
    have c6 := hI2.b6.cell
    have f5 := hI2.b5.frozen
    have f6 := hI2.b6.frozen
    have HYL : Hid (y.l.length = (firstB φ (C.take k)).length) := Lib.hid (by rw [hI2.yl, up_length])
    have HST := Lib.hid (firstB_step φ C hkC)
    have HB2 := Lib.hid hb2
    have hsz2 := hb2.size
    have HSTORE : Hid (stepB φ (firstB φ (C.take k)) C[k] = C[k] → ∀ W', W' = (W2.setCell ⟨w.heap.size + 1 + 1, 0, none⟩ (.slice x.a x.l.length x.c)).setCell ⟨w.heap.size + 1 + 1 + 1, 0, none⟩ (.int .i64 v) → RoundEnd (Holds w.heap.size V w φ C) k y x (w.heap.size + 1 + 1) (w.heap.size + 1 + 1 + 1 + 1) W .normal { tmps := #[], defers := [] } W') := Lib.hid (fun hs W' hW' => by
      have t2 : Touch (w.heap.size + 1 + 1) (w.heap.size + 1 + 1 + 1 + 1) W2 W' := by
        rw [hW']; exact ((Touch.refl _ _ W2).set (Nat.le_refl _) (by omega) 0 _).set (by omega) (by omega) 0 _
      have hx2 := HXH.out.on hb2
      have hxi2 : x.In V.heap.size W2.heap.size W2 := (HXI.out.on hb2).wide (Nat.le_refl _) hb2.size
      refine ⟨(Touch.of_below hb2).trans t2, x, .inr rfl, ⟨?_, ?_, ?_, hI2.bl.trans (t2.below (by omega) (by omega)), by rw [HST.out, hs]; exact HXC.out, fun hl a ha => by have := in_ge HXI.out hl a ha; omega⟩, hx2.1.touch hxi2 t2 (.inr (by omega)), ((hxi2.touch t2 (.inr (by omega))).wide (Nat.zero_le _) t2.size)⟩
      · rw [hW']
        exact (hI2.b5.set (.slice x.a x.l.length x.c)).kept (grownBy_setCell' _ (w.heap.size + 1 + 1 + 1) (.int .i64 v)) (by intro e; injection e with e; omega)
      · rw [hW', HST.out, hs, if_neg (Nat.succ_ne_zero k), ← HVV.out]
        have h6 : Boxed (W2.setCell ⟨w.heap.size + 1 + 1, 0, none⟩ (.slice x.a x.l.length x.c)) (w.heap.size + 1 + 1 + 1) 3 _ := hI2.b6.kept (grownBy_setCell' _ (w.heap.size + 1 + 1) _) (by intro e; injection e with e; omega)
        exact h6.set (.int .i64 v)
      · exact (t2.block _ (by omega) (by omega)).trans hI2.b3)
    have HKEEP : Hid (stepB φ (firstB φ (C.take k)) C[k] = firstB φ (C.take k) → k ≠ 0 → RoundEnd (Holds w.heap.size V w φ C) k y x (w.heap.size + 1 + 1) (w.heap.size + 1 + 1 + 1 + 1) W .normal { tmps := #[], defers := [] } W2) := Lib.hid (fun hs hk0 => by
      refine ⟨Touch.of_below hb2, y, .inl rfl, ⟨hI2.b5, ?_, hI2.b3, hI2.bl, by rw [HST.out, hs]; exact hI2.yl, hI2.ge⟩, HYH.out.on hb2⟩
      have := hI2.b6
      rw [if_neg hk0] at this
      rw [HST.out, hs, if_neg (Nat.succ_ne_zero k)]; exact this)
    clear hI2 hb2 c3
    by_cases hk0 : k = 0
    · have hy0' : firstB φ (C.take k) = [] := by rw [hk0]; rfl
      rw [if_pos hk0] at c6
      have HS := Lib.hid (HSTORE.out (by unfold stepB; rw [if_pos (.inl hy0')]) _ rfl)
      clear hy0'
      gi_wp2
      exact HS.out
    · have hpne : firstB φ (C.take k) ≠ [] := by
        intro e
        have h7 := firstB_some (φ := φ) (L := C.take k) (fun e2 => by have := congrArg List.length e2; rw [List.length_take, List.length_nil] at this; omega) (fun T hT => HCC.out T (List.mem_of_mem_take hT))
        rw [e] at h7
        exact HCC.out _ (List.mem_of_mem_take h7) rfl
      rw [if_neg hk0] at c6
      obtain ⟨z, hz⟩ : ∃ z, z = φ (firstB φ (C.take k)) := ⟨_, rfl⟩
      rw [← hz] at c6
      have HZ := Lib.hid hz
      clear hz
      by_cases hvz : v < z
      · have HS := Lib.hid (HSTORE.out (by unfold stepB; rw [if_pos (.inr (by rw [← HVV.out, ← HZ.out]; exact hvz))]) _ rfl)
        clear hpne
        gi_wp2
        exact HS.out
      · have HS := Lib.hid (HKEEP.out (by unfold stepB; rw [if_neg (fun h => h.elim hpne (fun h => hvz (by rw [HVV.out, HZ.out]; exact h)))]) hk0)
        clear hpne
        gi_wp2
        exact HS.out
  case done =>
    intro D y W hD hI hyH hK
    have c5 := hI.b5.cell
    have HI := Lib.hid hI
    have HYH := Lib.hid hyH
    have hsv2 := HSV.out
    clear hI hyH
    gi_wp2
    refine ⟨by simp, .inl ⟨_, _, rfl, run_takeDeferred hK, ?_⟩⟩
    refine ⟨_, results_tmp rfl _ _ _, y, rfl, ⟨?_, ?_, ?_⟩, ?_⟩
    · have := HI.out.yl
      rw [HCL.out, List.take_length] at this; exact this
    · exact (held_put HYH.out _ hK rfl).1
    · exact held_in (held_put HYH.out _ hK rfl) HI.out.ge
    · exact HI.out.bl.trans (put_below _ (by omega))


theorem partT_ge {F : Fld} (h : F.good = true) (z : Nat) (T : List Nat) : -9223372036854775808 ≤ partT F z T := by
  unfold partT partV
  split
  · omega
  · rw [List.getD_eq_getElem?_getD]
    cases hx : (sortA (lens F.t.con T))[(lens F.t.con T).length - 1 - z]? with
    | none => simp
    | some x =>
      have hm : x ∈ lens F.t.con T := (sortA_perm _).mem_iff.1 (List.mem_of_getElem? hx)
      have := lens_bound h T x hm
      simp only [Option.getD_some]; omega
theorem objV_bounds {F : Fld} (h : F.good = true) (T : List Nat) (hT : T.length ≤ 7) (k : Int) : -9223372036854775808 ≤ objV F T k ∧ objV F T k < 9223372036854775807 := by
  have h1 := obj_bound h T
  have h2 := sum_bound (pays_bound h T)
  have h3 : (pays F.o.l T).length = T.length := by unfold pays; simp
  have h4 := partT_lt h 0 T
  have h5 := partT_ge h 0 T
  unfold objV
  split
  · omega
  split
  · omega
  split
  · omega
  split
  · exact ⟨h5, h4⟩
  · omega

/-- What BestUnder answers. -/
def underB (F : Fld) (a b : Int) : Bool := (F.good && isObj a) && (F.good && isObj b)
def pickB (F : Fld) (b lim : Int) (T : List Nat) : Bool := decide (objV F T b ≤ lim)
def underC (F : Fld) (b lim : Int) : List (List Nat) := (allSets F.o.l.length).filter (pickB F b lim)
def BUIs (F : Fld) (a b lim : Int) (l : List Int) (v : Bool) : Prop :=
  (underB F a b = false ∧ l = [] ∧ v = false) ∨ (underB F a b = true ∧ l = up (firstB (fun T => objV F T a) (underC F b lim)) ∧ v = decide (0 < l.length))

set_option maxRecDepth 32000 in
set_option maxHeartbeats 3000000 in
theorem implBU_any (F : Fld) (a b lim : Int) (w : World) (hF : F.At w) (l : List Int) (v : Bool) (hv : BUIs F a b lim l v) :
    Calls Try.prog 9 #[F.val, .int .i64 a, .int .i64 b, .int .i64 lim] w (PInts l v w) := by
  obtain ⟨w0, hw0, hb0, bx0, hF0, hsz0⟩ := laid_fld F w 29 hF
  obtain ⟨wA, hA0⟩ : ∃ u, u = w0.alloc (.cells #[.int .i64 lim] 3) := ⟨_, rfl⟩
  have hb1 : Below w0.heap.size w0 wA := by rw [hA0]; exact below_alloc _ _
  have hbA : Below w.heap.size w wA := hb0.trans (hb1.mono hb0.size)
  have cL : wA.cell? ⟨w.heap.size + 1, 0, none⟩ = some (.int .i64 lim) := by
    have := (Boxed.new w0 3 (.int .i64 lim)).cell
    rw [hsz0] at this; rw [hA0]; exact this
  have bx := bx0.on hb1
  have hFA := hF0.on hb1
  have HA : Hid (wA = (w.alloc (Obj.cells #[F.o.val, F.t.val] 29)).alloc (.cells #[.int .i64 lim] 3)) := Lib.hid (by rw [hA0, hw0])
  have HFA := Lib.hid hFA
  have HBX := Lib.hid bx
  have HCL := Lib.hid cL
  have CT := Lib.hid (pointsFor_any F a b wA hFA)
  have x0 := bx.c0
  have x1 := bx.c1
  have x2 := cL
  rw [HA.out] at x0 x1 x2
  have HV := Lib.hid hv
  clear hF hw0 hb0 bx0 hF0 hsz0 hA0 hb1 cL bx hFA hv
  show Calls _ _ #[.agg #[F.o.val, F.t.val], _, _, _] w _
  go_enter Try.func9, Try.ntmps9
  go_wp2_with fail
  rw [← HA.out]
  refine (show Calls _ _ _ _ _ from CT.out).mono ?_
  rintro e W1 ⟨b1, b2, g1, g2, f1, f2, rfl, c1, c2, o1, o2, bx1, bx2, hb1⟩
  obtain ⟨W2, hW2⟩ : ∃ u, u = W1.alloc (.cells #[.func (.func 54) #[] #[.pointer (some ⟨b1, 0, none⟩), .pointer (some ⟨b2, 0, none⟩)]] 51) := ⟨_, rfl⟩
  have hb2 : Below W1.heap.size W1 W2 := by rw [hW2]; exact below_alloc _ _
  have hbW : Below wA.heap.size wA W2 := hb1.trans (hb2.mono hb1.size)
  have cP : W2.cell? ⟨W1.heap.size, 0, none⟩ = some (.func (.func 54) #[] #[.pointer (some ⟨b1, 0, none⟩), .pointer (some ⟨b2, 0, none⟩)]) := by rw [hW2]; exact (Boxed.new W1 51 _).cell
  have HW2 := Lib.hid hW2
  have HBW := Lib.hid hbW
  have hs1 := hb1.size
  have hsA := hbA.size
  obtain ⟨g, hg⟩ : ∃ g, g = underB F a b := ⟨_, rfl⟩
  rw [show ((F.good && isObj a) && (F.good && isObj b)) = g from hg.symm]
  have HG := Lib.hid hg
  cases g with
  | false =>
    obtain ⟨rfl, rfl⟩ : l = [] ∧ v = false := by
      rcases HV.out with ⟨_, h1, h2⟩ | ⟨h1, _⟩
      · exact ⟨h1, h2⟩
      · rw [← HG.out] at h1; cases h1
    clear c1 c2 o1 o2 bx1 bx2 hb1 hb2 hbW cP hW2 x0 x1 x2 hg
    go_wp2
    rw [← HW2.out]
    go_ret2
    obtain ⟨t, ht, htl, hto, hti⟩ := row_of_own (empty_own W2)
    have hz : W2.heap.size = W1.heap.size + 1 := by rw [HW2.out]; simp
    rw [hz] at ht
    have hB := hbA.trans (HBW.out.mono hsA)
    exact ⟨t, congrArg (fun v => Ending.returned (.tuple #[v, .bool false])) ht, htl, hto, hti.wide hB.size (Nat.le_refl _), hB.trans ((below_alloc W2 _).mono hB.size)⟩
  | true =>
    have hu : F.good = true ∧ isObj a = true ∧ isObj b = true := by
      have := hg.symm
      unfold underB at this
      simp only [Bool.and_eq_true] at this
      exact ⟨this.1.1, this.1.2, this.2.2⟩
    obtain ⟨hgood, hoa, hob⟩ := hu
    obtain ⟨hl, hvv⟩ : l = up (firstB (fun T => objV F T a) (underC F b lim)) ∧ v = decide (0 < l.length) := by
      rcases HV.out with ⟨h1, _⟩ | ⟨_, h1, h2⟩
      · rw [← HG.out] at h1; cases h1
      · exact ⟨h1, h2⟩
    have o1' := o1 (by rw [hgood, hoa]; rfl)
    have o2' := o2 (by rw [hgood, hob]; rfl)
    have hsz := good_sizes hgood
    have CPT := Lib.hid (fun (T : List Nat) (hT : T ∈ allSets F.o.l.length) (x : Row) (u : World) (hu : Below W2.heap.size W2 u) (hx : x.At u) (hxl : x.l = up T) => by
      obtain ⟨q1, q2, q3⟩ := all_ok hsz.2.1 hT
      have h12 : Below W1.heap.size W1 u := hb2.trans (hu.mono hb2.size)
      exact pt_any F x T a b b1 b2 g1 g2 f1 f2 u ((HFA.out.on HBW.out).on hu) hx (fine_all hgood hxl q1 q2.2) ⟨hgood, hxl, q2.2, by omega⟩ (bx1.on h12) (bx2.on h12) o1' o2' ((h12.cell (p := ⟨b1, 0, none⟩) (World.block_lt_of_cell? _ _ c1)).trans c1) ((h12.cell (p := ⟨b2, 0, none⟩) (World.block_lt_of_cell? _ _ c2)).trans c2))
    have CL2 : W2.cell? ⟨w.heap.size + 1, 0, none⟩ = some (.int .i64 lim) := (hbW.cell (p := ⟨w.heap.size + 1, 0, none⟩) (World.block_lt_of_cell? _ _ HCL.out)).trans HCL.out
    have CS := Lib.hid (siteSets_any F.o.l.length W2)
    have CK := Lib.hid (fun Bk Bs W => pickedFrom_any 73 35 #[.pointer (some ⟨Bk, 0, none⟩), .pointer (some ⟨Bs, 0, none⟩)] #[.pointer (some ⟨W1.heap.size, 0, none⟩), .pointer (some ⟨w.heap.size + 1, 0, none⟩)] W)
    have CF := Lib.hid (fun (Bk Bs : Nat) (W3 W4 : World) (h23 : Below W2.heap.size W2 W3) (h34 : Below W3.heap.size W3 W4) (hk : W3.cell? ⟨Bk, 0, none⟩ = some (.int .i64 F.o.l.length)) (hs : W3.cell? ⟨Bs, 0, none⟩ = some (.int .i64 F.o.l.length)) (hp : W4.cell? ⟨W3.heap.size, 0, none⟩ = some (.func (.func 73) #[] #[.pointer (some ⟨Bk, 0, none⟩), .pointer (some ⟨Bs, 0, none⟩)])) (hq : W4.cell? ⟨W3.heap.size + 1, 0, none⟩ = some (.func (.func 35) #[] #[.pointer (some ⟨W1.heap.size, 0, none⟩), .pointer (some ⟨w.heap.size + 1, 0, none⟩)])) => (by
      have h24 : Below W2.heap.size W2 W4 := h23.trans (h34.mono h23.size)
      have hup := upTo_seqX 4 (Nat.le_refl _) Bk Bs F.o.l.length F.o.l.length W3 hsz.2.1 (Nat.le_refl _) hk hs 0 W3.heap.size (Nat.zero_le _) (World.block_lt_of_cell? _ _ hs)
      rw [preS_all] at hup
      have hpk := picked_seqX 5 (by omega) W3.heap.size (W3.heap.size + 1) 73 #[.pointer (some ⟨Bk, 0, none⟩), .pointer (some ⟨Bs, 0, none⟩)] (.pointer (some ⟨W1.heap.size, 0, none⟩)) (.pointer (some ⟨w.heap.size + 1, 0, none⟩)) (allSets F.o.l.length) (pickB F b lim) W3 W4 (enters_of Try.func73 (by kernel_rfl) rfl) hup h34 hp hq
        (fun T hT x u hu hx hxl => under1_any _ b1 b2 W1.heap.size (w.heap.size + 1) (objV F T a) (objV F T b) lim u (fun W hW => CPT.out T hT x W ((h24.trans (hu.mono h24.size)).trans (hW.mono (h24.trans (hu.mono h24.size)).size)) (hx.on hW) hxl) (((h24.trans (hu.mono h24.size)).cell (p := ⟨W1.heap.size, 0, none⟩) (World.block_lt_of_cell? _ _ cP)).trans cP) (((h24.trans (hu.mono h24.size)).cell (p := ⟨w.heap.size + 1, 0, none⟩) (World.block_lt_of_cell? _ _ CL2)).trans CL2))
      exact callsIn_wide.1 (firstLeastBU_in 6 (by omega) (fun T => objV F T a) (.pointer (some ⟨W1.heap.size, 0, none⟩)) 55 #[.pointer (some ⟨W3.heap.size, 0, none⟩), .pointer (some ⟨W3.heap.size + 1, 0, none⟩)] (underC F b lim) 0 W4.heap.size W4 W4 (Nat.le_refl _) (enters_of Try.func55 (by kernel_rfl) rfl) hpk.all (Below.refl _ _)
        (fun T hT => objV_bounds hgood T (all_ok hsz.2.1 (List.mem_filter.1 hT).1).2.2 a)
        (fun T hT x u hu hx hxl => under2_any _ b1 b2 W1.heap.size (objV F T a) (objV F T b) u (CPT.out T (List.mem_filter.1 hT).1 x u (h24.trans (hu.mono h24.size)) hx hxl) (((h24.trans (hu.mono h24.size)).cell (p := ⟨W1.heap.size, 0, none⟩) (World.block_lt_of_cell? _ _ cP)).trans cP))
        (fun T hT => (all_ok hsz.2.1 (List.mem_filter.1 hT).1).1)) : Calls Try.prog 36 #[.func (.func 55) #[] #[.pointer (some ⟨W3.heap.size, 0, none⟩), .pointer (some ⟨W3.heap.size + 1, 0, none⟩)], .func (.func 37) #[] #[.pointer (some ⟨W1.heap.size, 0, none⟩)]] W4 fun e w' => ∃ t : Row, e = .returned (.slice t.a t.l.length t.c) ∧ Best1 W4.heap.size w' t (firstB (fun T => objV F T a) (underC F b lim)) ∧ Below W4.heap.size W4 w'))
    have HL := Lib.hid hl
    have HVV := Lib.hid hvv
    have y0 : (W1.alloc (.cells #[.func (.func 54) #[] #[.pointer (some ⟨b1, 0, none⟩), .pointer (some ⟨b2, 0, none⟩)]] 51)).cell? ⟨w.heap.size, 0, none⟩ = some F.o.val := by rw [← hW2]; exact (HBX.out.on hbW).c0
    clear c1 c2 o1 o2 o1' o2' bx1 bx2 hb1 hb2 hbW cP hW2 x0 x1 x2 hg hgood hoa hob hsz CL2 hl hvv
    unfold Row.val at y0
    go_wp2_with fail
    rw [← HW2.out]
    refine (show Calls _ _ _ _ _ from CS.out).mono ?_
    rintro e W3 ⟨Bk, Bs, rfl, HK, HS, hb3⟩
    have HB3 := Lib.hid hb3
    have CK1 := Lib.hid (CK.out Bk Bs W3)
    clear y0 hb3
    go_wp2_with fail
    refine (show Calls _ _ _ _ _ from CK1.out).mono ?_
    rintro e W4 ⟨rfl, HP, HQ, hb4⟩
    have CF1 := Lib.hid (CF.out Bk Bs W3 W4 HB3.out hb4 HK.out HS.out HP.out HQ.out)
    have HB4 := Lib.hid (HB3.out.trans (hb4.mono HB3.out.size))
    clear hb4
    go_wp2_with fail
    refine (show Calls _ _ _ _ _ from CF1.out).mono ?_
    rintro e W5 ⟨t, rfl, ht, hb5⟩
    have HT := Lib.hid ht
    have hB := hbA.trans (((HBW.out.trans (HB4.out.mono HBW.out.size)).trans (hb5.mono (Nat.le_trans HBW.out.size HB4.out.size))).mono hsA)
    have hB4 := (hbA.trans ((HBW.out.trans (HB4.out.mono HBW.out.size)).mono hsA)).size
    have HBB := Lib.hid hB
    have HE : Hid (v = decide (t.l.length > 0)) := Lib.hid (by rw [HVV.out, HL.out, ← ht.l])
    clear ht hb5 hB
    go_wp2
    go_ret2
    exact ⟨t, by first | rfl | (simp; rw [HE.out]; try simp), by rw [HL.out]; exact HT.out.l, HT.out.own, HT.out.ins.wide hB4 (Nat.le_refl _), HBB.out⟩
end Go.Proofs.Ytemflcegkebloaa
