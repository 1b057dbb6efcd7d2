/- The search of the best set under a rule (classRule), the program's side. Condition: the Field reads as such, and the rule's two tests are told by contracts. -/
import Derived.Test.YtbochmpkjacnnaaPlainBestG
import Derived.Test.YtbochmpkjacnnaaWorthAsk
import Derived.Test.YtbochmpkjacnnaaEigSiteSeq
namespace Go.Proofs.Ytbochmpkjacnnaa
open Go.RowKit Go.Shelf
attribute [local go_sem] Oper.semAt_some

/-- What the search holds between two rounds. -/
structure HoldsGC (B : Nat) (V w : World) (φ : List Nat → Int) (p : List Nat → Bool) (C : List (List Nat)) (k : Nat) (y : Row) (W : World) : Prop where
  b3 : Boxed W (B + 1 + 1 + 1) 22 (.slice y.a y.l.length y.c)
  b4 : Boxed W (B + 1 + 1 + 1 + 1) 3 (.int .i64 (φ (bestG φ p (C.take k))))
  e0 : W.heap[B]? = V.heap[B]?
  e1 : W.heap[B + 1]? = V.heap[B + 1]?
  bl : Below B w W
  yl : y.l = up (bestG φ p (C.take k))
  ge : y.Ge B
theorem HoldsGC.keep {B M : Nat} {V w : World} {φ : List Nat → Int} {p : List Nat → Bool} {C : List (List Nat)} {k : Nat} {y : Row} {A A' : World} (h : HoldsGC B V w φ p C k y A) (hb : Below M A A') (hM : B + 1 + 1 + 1 + 1 + 1 ≤ M) : HoldsGC B V w φ p C k y A' :=
  ⟨(hb.block _ (by omega)).trans h.b3, (hb.block _ (by omega)).trans h.b4, (hb.block _ (by omega)).trans h.e0, (hb.block _ (by omega)).trans h.e1, h.bl.trans (hb.mono (by omega)), h.yl, h.ge⟩

set_option maxRecDepth 100000 in
set_option maxHeartbeats 4000000 in
theorem bestUnderC_in (n : Nat) (hn : 8 ≤ n) (F : Fld) (u : Int) (pay : Value) (rb : Bool) (p : List Nat → Bool) (w : World) (hF : F.At w)
    (hV : ∀ W, Below w.heap.size w W → Calls Try.prog 141 #[pay] W fun e w' => e = .returned (.bool rb) ∧ Below W.heap.size W w')
    (hA : worthB F u = true → rb = true → ∀ T ∈ E8.allSets F.o.l.length, ∀ (x : Row) (W : World), Below w.heap.size w W → x.At W → x.l = up T → Calls Try.prog 140 #[pay, .slice x.a x.l.length x.c] W fun e w' => e = .returned (.bool (p T)) ∧ Below W.heap.size W w')
    (b : Bool) (hb0 : b = (worthB F u && rb)) (l : List Int) (hl0 : l = if b then up (bestG (gainT F u) p (E8.allSets F.o.l.length)) else []) :
    CallsIn Fence.wide n Try.prog 42 #[.agg #[.slice F.o.a F.o.l.length F.o.c, .slice F.t.a F.t.R.length F.t.c, .int .i64 u], .iface 57 pay] w (PInts l b w) := by
  have h1 : 1 ≤ n := by omega
  refine callsIn_of_wp_marks Try.func42 rfl trivial ?_ rfl
  simp only [Try.ntmps42, List.size_toArray, List.length_cons, List.length_nil, Nat.reduceAdd, Nat.reduceSub, Array.replicate_succ, Array.replicate_zero, List.push_toArray, List.append_toArray, List.nil_append, List.cons_append]
  obtain ⟨V, hV0⟩ : ∃ V, ((((w.alloc (Obj.cells #[.slice F.o.a F.o.l.length F.o.c, .slice F.t.a F.t.R.length F.t.c, .int .i64 u] 50)).alloc (.cells #[.iface 57 pay] 71)).alloc (.cells #[] 3)).alloc (.cells #[.slice (some ⟨w.heap.size + 1 + 1, 0, none⟩) 0 0] 22)).alloc (.cells #[.int .i64 0] 3) = V := ⟨_, rfl⟩
  have hBV : Below w.heap.size w V := by rw [← hV0]; exact (((((Below.refl _ w).alloc (Nat.le_refl _) _).alloc (by simp) _).alloc (by simp; omega) _).alloc (by simp; omega) _).alloc (by simp; omega) _
  have szV : V.heap.size = w.heap.size + 1 + 1 + 1 + 1 + 1 := by rw [← hV0]; simp only [World.size_alloc]
  have v0 : BoxV V w.heap.size F u 50 := by
    rw [← hV0]
    refine (BoxV.made w F u 50).on ?_
    exact ((((Below.refl _ _).alloc (Nat.le_refl _) _).alloc (by simp) _).alloc (by first | (simp; done) | (simp; omega)) _).alloc (by first | (simp; done) | (simp; omega)) _
  have v1 : Boxed V (w.heap.size + 1) 71 (.iface 57 pay) := by
    rw [← hV0]
    have := (((Boxed.new (w.alloc (Obj.cells #[.slice F.o.a F.o.l.length F.o.c, .slice F.t.a F.t.R.length F.t.c, .int .i64 u] 50)) 71 (.iface 57 pay)).alloc (.cells #[] 3)).alloc (.cells #[.slice (some ⟨w.heap.size + 1 + 1, 0, none⟩) 0 0] 22)).alloc (.cells #[.int .i64 0] 3)
    simp only [World.size_alloc] at this; exact this
  have v3 : Boxed V (w.heap.size + 1 + 1 + 1) 22 (.slice (some ⟨w.heap.size + 1 + 1, 0, none⟩) 0 0) := by
    rw [← hV0]
    have := (Boxed.new (((w.alloc (Obj.cells #[.slice F.o.a F.o.l.length F.o.c, .slice F.t.a F.t.R.length F.t.c, .int .i64 u] 50)).alloc (.cells #[.iface 57 pay] 71)).alloc (.cells #[] 3)) 22 (.slice (some ⟨w.heap.size + 1 + 1, 0, none⟩) 0 0)).alloc (.cells #[.int .i64 0] 3)
    simp only [World.size_alloc] at this; exact this
  have v4 : Boxed V (w.heap.size + 1 + 1 + 1 + 1) 3 (.int .i64 0) := by
    rw [← hV0]
    have := Boxed.new ((((w.alloc (Obj.cells #[.slice F.o.a F.o.l.length F.o.c, .slice F.t.a F.t.R.length F.t.c, .int .i64 u] 50)).alloc (.cells #[.iface 57 pay] 71)).alloc (.cells #[] 3)).alloc (.cells #[.slice (some ⟨w.heap.size + 1 + 1, 0, none⟩) 0 0] 22)) 3 (.int .i64 0)
    simp only [World.size_alloc] at this; exact this
  have hOw : V.ownsRow (w.heap.size + 1 + 1) 3 1 (.slice (some ⟨w.heap.size + 1 + 1, 0, none⟩) 0 0) ([] : List Int).length (iv []) := by
    rw [← hV0]
    have := ((empty_own ((w.alloc (Obj.cells #[.slice F.o.a F.o.l.length F.o.c, .slice F.t.a F.t.R.length F.t.c, .int .i64 u] 50)).alloc (.cells #[.iface 57 pay] 71))).alloc (.cells #[.slice (some ⟨w.heap.size + 1 + 1, 0, none⟩) 0 0] 22)).alloc (.cells #[.int .i64 0] 3)
    simp only [World.size_alloc] at this; exact this
  obtain ⟨y0, hy0v, hy0l, hy0o, hy0i⟩ := row_of_own hOw
  obtain ⟨g, hg⟩ : ∃ g, g = worthB F u := ⟨_, rfl⟩
  have x0 := v0.c0
  have x1 := v0.c1
  have x2 := v0.c2
  have x3 := v1.cell
  rw [← hV0] at x0 x1 x2 x3
  have CW := Lib.hid (by have := validV_any F u V (hF.on hBV); rw [← hg] at this; exact this)
  have CR := Lib.hid hV
  have HY0 := Lib.hid (And.intro hy0v (And.intro hy0l (And.intro hy0o hy0i)))
  have HV0 := Lib.hid hV0
  have HBV := Lib.hid hBV
  have HSV := Lib.hid szV
  have HV1 := Lib.hid v0
  have HVR := Lib.hid v1
  have HV3 := Lib.hid v3
  have HV4 := Lib.hid v4
  have HB0 : Hid (b = (g && rb)) := Lib.hid (by rw [hb0, hg])
  have HL0 := Lib.hid hl0
  have HGW := Lib.hid hg
  have HFF := Lib.hid hF
  have HAA := Lib.hid hA
  have HNO : Hid (b = false → ∀ W, Below V.heap.size V W → PInts l b w (.returned (.tuple #[.slice (some ⟨w.heap.size + 1 + 1, 0, none⟩) 0 0, .bool false])) W) := Lib.hid (fun h W hW => by
    have e : l = [] := by rw [hl0, h]; rfl
    rw [hy0v, e, h]
    exact ⟨y0, rfl, hy0l, hy0o.on hW, ((hy0i.on hW).wide (by omega) hW.size), hBV.trans (hW.mono hBV.size)⟩)
  clear hV0 hBV szV v0 v1 v3 v4 hOw hy0v hy0l hy0o hy0i hb0 hl0 hg hF hA hV
  have hm1 : ∀ (k : Nat) W, Sem.run Try.prog (method (k + 1) 57 pay "loop.example/g01110/impl.isValid") W = Result.ok (141, pay) W := fun _ _ => rfl
  have hm2 : ∀ (k : Nat) W, Sem.run Try.prog (method (k + 1) 57 pay "loop.example/g01110/impl.allows") W = Result.ok (140, pay) W := fun _ _ => rfl
  gi_wp2
  rw [HV0.out]
  clear x0 x1 x2 x3
  refine ⟨trivial, (callsIn_wide.2 CW.out).mono ?_⟩
  rintro e W1 ⟨rfl, hb1⟩
  have HB1 := Lib.hid hb1
  have hszV := HSV.out
  have c3 : W1.cell? ⟨w.heap.size + 1 + 1 + 1, 0, none⟩ = some (.slice (some ⟨w.heap.size + 1 + 1, 0, none⟩) 0 0) := (show Boxed W1 _ _ _ from (hb1.block _ (by omega)).trans HV3.out).cell
  cases g with
  | false =>
    have hbf : b = false := HB0.out
    have HE := Lib.hid (HNO.out hbf W1 hb1)
    clear hb1 hszV hbf
    gi_wp2
    all_goals (refine ⟨fun _ _ => trivial, ?_⟩; apply_assumption; gi_wp2)
    all_goals exact ⟨_, by simp [results, Try.results42, go_sem], HE.out⟩
  | true =>
    have c1 : W1.cell? ⟨w.heap.size + 1, 0, none⟩ = some (.iface 57 pay) := (show Boxed W1 _ _ _ from (hb1.block _ (by omega)).trans HVR.out).cell
    have CR1 := Lib.hid (CR.out W1 (HBV.out.trans (hb1.mono HBV.out.size)))
    clear hb1 hszV
    gi_wp2
    refine ⟨trivial, (callsIn_wide.2 CR1.out).mono ?_⟩
    rintro e W2 ⟨rfl, hb2⟩
    have HB2 := Lib.hid (HB1.out.trans (hb2.mono HB1.out.size))
    have hszV := HSV.out
    have hz12 := HB2.out.size
    clear c3 c1 hb2
    have c3 : W2.cell? ⟨w.heap.size + 1 + 1 + 1, 0, none⟩ = some (.slice (some ⟨w.heap.size + 1 + 1, 0, none⟩) 0 0) := (show Boxed W2 _ _ _ from (HB2.out.block _ (by omega)).trans HV3.out).cell
    cases rb with
    | false =>
      have hbf : b = false := HB0.out
      have HE := Lib.hid (HNO.out hbf W2 HB2.out)
      clear hszV hbf hz12
      gi_wp2
      exact ⟨_, by simp [results, Try.results42, go_sem], HE.out⟩
    | true =>
      obtain rfl : b = true := HB0.out
      have hgood : worthB F u = true := HGW.out.symm
      have hsz := good_sizes (worthB_iff.1 hgood).1
      have hN8 : F.o.l.length ≤ 8 := by omega
      have hNi : (F.o.l.length : Int) ≤ 8 := by omega
      have CC := Lib.hid (siteSetsB_any F.o.l.length W2)
      have z0 := (HV1.out.on HB2.out).c0
      have HLL : Hid (l = up (bestG (gainT F u) p (E8.allSets F.o.l.length))) := Lib.hid HL0.out
      have HGD := Lib.hid hgood
      clear hgood hsz hszV hz12
      gi_wp2
      refine ⟨trivial, (callsIn_wide.2 CC.out).mono ?_⟩
      rintro e W3 ⟨Bk, Bs, rfl, HBB, HBK, HBS, hb3⟩
      have HB3 := Lib.hid (HB2.out.trans (hb3.mono HB2.out.size))
      have hszV := HSV.out
      have hsz3 := HB3.out.size
      have hls := World.block_lt_of_cell? W3 _ HBS.out
      have hlk := World.block_lt_of_cell? W3 _ HBK.out
      clear hb3 z0 c3
      obtain ⟨φ, hφ⟩ : ∃ φ, φ = gainT F u := ⟨_, rfl⟩
      obtain ⟨C, hC⟩ : ∃ C, C = E8.allSets F.o.l.length := ⟨_, rfl⟩
      have hBsW := HBB.out
      have HSQ := Lib.hid (by have := E8.sites_seq (n - 1) (by omega) Bk Bs F.o.l.length W3 hN8 HBK.out HBS.out (w.heap.size + 1 + 1 + 1 + 1 + 1) W3.heap.size (by have := HB2.out.size; omega) hls; rw [← hC] at this; exact this)
      have HCL : Hid ((C.map up).length = C.length) := Lib.hid (List.length_map _)
      have HOK : Hid (∀ T ∈ C, T.length ≤ 8 ∧ ∀ x ∈ T, x < F.o.l.length) := Lib.hid (fun T hT => (sets_ok hN8 (by rw [← hC]; exact hT)).2)
      have HAC : Hid (∀ T ∈ C, ∀ (x : Row) (W : World), Below w.heap.size w W → x.At W → x.l = up T → Calls Try.prog 140 #[pay, .slice x.a x.l.length x.c] W fun e w' => e = .returned (.bool (p T)) ∧ Below W.heap.size W w') := Lib.hid (fun T hT => HAA.out HGD.out (by first | rfl | trivial) T (by rw [← hC]; exact hT))
      have HPH := Lib.hid hφ
      have HLC : Hid (l = up (bestG φ p C)) := Lib.hid (by rw [HLL.out, hφ, hC])
      have HGB : Hid (∀ T, 0 ≤ φ T ∧ φ T ≤ 6993) := Lib.hid (fun T => by rw [hφ]; exact gainT_bound HGD.out T)
      have hp0 : φ [] = 0 := by rw [hφ]; exact gainT_nil F u
      have hy0 : y0.Held W3 := by
        obtain ⟨h1, h2, h3, h4⟩ := HY0.out
        exact ⟨h3.on HB3.out, ((h4.on HB3.out).wide (Nat.zero_le _) (by omega))⟩
      have hge0 : y0.Ge w.heap.size := fun hl => absurd HY0.out.2.1 hl
      have b33 : Boxed W3 (w.heap.size + 1 + 1 + 1) 22 (.slice y0.a y0.l.length y0.c) := by
        rw [← HY0.out.1]; exact (HB3.out.block _ (by omega)).trans HV3.out
      have b43 : Boxed W3 (w.heap.size + 1 + 1 + 1 + 1) 3 (.int .i64 (φ (bestG φ p (C.take 0)))) := by
        rw [show bestG φ p (C.take 0) = [] by rw [List.take_zero]; rfl, hp0]; exact (HB3.out.block _ (by omega)).trans HV4.out
      have h00 : HoldsGC w.heap.size W3 w φ p C 0 y0 W3 := ⟨b33, b43, rfl, rfl, HBV.out.trans (HB3.out.mono HBV.out.size), by rw [HY0.out.2.1, List.take_zero]; rfl, hge0⟩
      have H00 := Lib.hid h00
      have HBV3 : Hid (BoxV W3 w.heap.size F u 50) := Lib.hid (HV1.out.on HB3.out)
      have HBR3 : Hid (Boxed W3 (w.heap.size + 1) 71 (.iface 57 pay)) := Lib.hid ((HB3.out.block _ (by omega)).trans HVR.out)
      clear hφ hC hp0 hge0 b33 b43 h00 hBsW
      gi_wp2
      refine wpIn_rangeLists (F := Fence.wide) rfl h1 (gf := 109) (lb := #[.pointer (some ⟨Bk, 0, none⟩), .pointer (some ⟨Bs, 0, none⟩)]) rfl trivial (enters_of Try.func109 (by kernel_rfl) rfl) HSQ.out (Below.refl _ _) rfl (w.heap.size + 1 + 1 + 1) (w.heap.size + 1 + 1 + 1 + 1 + 1) (.inl (Nat.le_refl _)) (by omega)
        (HoldsGC w.heap.size W3 w φ p C) (fun k y A B h hb => h.keep hb (by omega)) y0 H00.out hy0
        (fun x => { tmps := #[.agg #[.slice F.o.a F.o.l.length F.o.c, .slice F.t.a F.t.R.length F.t.c, .int .i64 u], .iface 57 pay, .pointer (some ⟨w.heap.size, 0, none⟩), .pointer (some ⟨w.heap.size + 1, 0, none⟩), .slice none 0 0, .bool false, .pointer (some ⟨w.heap.size + 1 + 1 + 1, 0, none⟩), .pointer (some ⟨w.heap.size + 1 + 1 + 1 + 1, 0, none⟩), .slice x.a x.l.length x.c, undef, .slice (some ⟨w.heap.size + 1 + 1, 0, none⟩) 0 0, .agg #[.slice F.o.a F.o.l.length F.o.c, .slice F.t.a F.t.R.length F.t.c, .int .i64 u], .bool true, .bool false, .bool false, .iface 57 pay, .bool true, .bool false, .bool false, undef, .pointer (some ⟨w.heap.size, 0, none⟩), .pointer (some ⟨w.heap.size, 0, none⟩), .slice F.o.a F.o.l.length F.o.c, .int .i64 F.o.l.length, .func (.func 109) #[] #[.pointer (some ⟨Bk, 0, none⟩), .pointer (some ⟨Bs, 0, none⟩)], .slice x.a x.l.length x.c, undef, undef, undef, undef, undef, undef, undef, undef, undef, undef, undef, undef, undef, undef], defers := [] }) ?assign ?body ?done
      case assign =>
        intro l x W K hK
        gi_wp2
        exact hK
      case body =>
        intro l' k y x W hk hx hI hyH hxH hxI hsz
        have hkC : k < C.length := by rw [HCL.out] at hk; exact hk
        have hxC : x.l = up C[k] := by rw [hx, List.getElem_map]
        have hok := HOK.out _ (List.getElem_mem hkC)
        have hvb := HGB.out C[k]
        obtain ⟨v, hv⟩ : ∃ v, v = φ C[k] := ⟨_, rfl⟩
        obtain ⟨z, hz⟩ : ∃ z, z = φ (bestG φ p (C.take k)) := ⟨_, rfl⟩
        obtain ⟨pv, hpv⟩ : ∃ pv, pv = p C[k] := ⟨_, rfl⟩
        have bv := hI.e0.trans HBV3.out
        have x0 := BoxV.c0 bv
        have x1 := BoxV.c1 bv
        have x2 := BoxV.c2 bv
        have hFW : F.At W := HFF.out.on hI.bl
        have CG := Lib.hid (by
          have := gain_any F u x C[k] W hFW hxH.2.at ⟨HGD.out, hxC, hok.2, by omega⟩
          rw [← HPH.out, ← hv] at this; exact this)
        have CA := Lib.hid (fun W' (hW : Below w.heap.size w W') (ht : x.At W') => by have := HAC.out _ (List.getElem_mem hkC) x W' hW ht hxC; rw [← hpv] at this; exact this)
        have HST : Hid (bestG φ p (C.take (k + 1)) = stepG φ p (bestG φ p (C.take k)) C[k]) := Lib.hid (bestG_step φ p C hkC)
        have HI := Lib.hid hI
        have HYH := Lib.hid hyH
        have HXH := Lib.hid hxH
        have HXI := Lib.hid hxI
        have HXC := Lib.hid hxC
        have HVV := Lib.hid hv
        have HZZ := Lib.hid hz
        have HPV := Lib.hid hpv
        have hWsz : W3.heap.size ≤ W.heap.size := hsz
        clear hx hI hyH hxH hxI hxC hv hz hpv hsz bv hFW hok
        gi_wp2
        refine ⟨trivial, fun _ => by omega, (callsIn_wide.2 CG.out).mono ?_⟩
        rintro e W4 ⟨rfl, hb4⟩
        clear x0 x1 x2
        have hI4 := HI.out.keep hb4 (by omega)
        have HB4 := Lib.hid hb4
        have HI4 := Lib.hid hI4
        have hsz4 := hb4.size
        have c4 := hI4.b4.cell
        rw [← HZZ.out] at c4
        have c1 : W4.cell? ⟨w.heap.size + 1, 0, none⟩ = some (.iface 57 pay) := (show Boxed W4 _ _ _ from hI4.e1.trans HBR3.out).cell
        have HKEEP : Hid (bestG φ p (C.take (k + 1)) = bestG φ p (C.take k) → ∀ W', Below W.heap.size W W' → RoundEnd (HoldsGC w.heap.size W3 w φ p C) k y x (w.heap.size + 1 + 1 + 1) (w.heap.size + 1 + 1 + 1 + 1 + 1) W .normal { tmps := #[], defers := [] } W') := Lib.hid (fun hs W' hW' => by
          have hI2 := HI.out.keep hW' (by omega)
          exact ⟨Touch.of_below hW', y, .inl rfl, ⟨hI2.b3, by rw [hs]; exact hI2.b4, hI2.e0, hI2.e1, hI2.bl, by rw [hs]; exact hI2.yl, hI2.ge⟩, HYH.out.on hW'⟩)
        have HSTORE : Hid (bestG φ p (C.take (k + 1)) = C[k] → ∀ W5, Below W.heap.size W W5 → ∀ W', W' = (W5.setCell ⟨w.heap.size + 1 + 1 + 1, 0, none⟩ (.slice x.a x.l.length x.c)).setCell ⟨w.heap.size + 1 + 1 + 1 + 1, 0, none⟩ (.int .i64 v) → RoundEnd (HoldsGC w.heap.size W3 w φ p C) k y x (w.heap.size + 1 + 1 + 1) (w.heap.size + 1 + 1 + 1 + 1 + 1) W .normal { tmps := #[], defers := [] } W') := Lib.hid (fun hs W5 hb5 W' hW' => by
          have hI2 := HI.out.keep hb5 (by omega)
          have hsz5 := hb5.size
          have t2 : Touch (w.heap.size + 1 + 1 + 1) (w.heap.size + 1 + 1 + 1 + 1 + 1) W5 W' := by
            rw [hW']; exact ((Touch.refl _ _ W5).set (Nat.le_refl _) (by omega) 0 _).set (by omega) (by omega) 0 _
          have hx2 := HXH.out.on hb5
          have hxi2 : x.In W3.heap.size W5.heap.size W5 := (HXI.out.on hb5).wide (Nat.le_refl _) hb5.size
          refine ⟨(Touch.of_below hb5).trans t2, x, .inr rfl, ⟨?_, ?_, (t2.block _ (by omega) (by omega)).trans hI2.e0, (t2.block _ (by omega) (by omega)).trans hI2.e1, hI2.bl.trans (t2.below (by omega) (by omega)), by rw [hs]; exact HXC.out, fun hl a ha => by have := in_ge HXI.out hl a ha; omega⟩, hx2.1.touch hxi2 t2 (.inr (by omega)), ((hxi2.touch t2 (.inr (by omega))).wide (Nat.zero_le _) t2.size)⟩
          · rw [hW']
            exact (hI2.b3.set (.slice x.a x.l.length x.c)).kept (grownBy_setCell' _ (w.heap.size + 1 + 1 + 1 + 1) (.int .i64 v)) (by intro e; injection e with e; omega)
          · rw [hW', hs, ← HVV.out]
            have h6 : Boxed (W5.setCell ⟨w.heap.size + 1 + 1 + 1, 0, none⟩ (.slice x.a x.l.length x.c)) (w.heap.size + 1 + 1 + 1 + 1) 3 _ := hI2.b4.kept (grownBy_setCell' _ (w.heap.size + 1 + 1 + 1) _) (by intro e; injection e with e; omega)
            exact h6.set (.int .i64 v))
        have CA4 := Lib.hid (CA.out W4 hI4.bl (HXH.out.on hb4).2.at)
        clear hI4 hb4
        by_cases hgt : z < v
        · have hgt' : v > z := hgt
          gi_wp2
          refine ⟨trivial, fun _ => by omega, (callsIn_wide.2 CA4.out).mono ?_⟩
          rintro e W5 ⟨rfl, hb5⟩
          have HB5 := Lib.hid (HB4.out.trans (hb5.mono HB4.out.size))
          have hI5 := HI4.out.keep hb5 (by omega)
          have c35 := hI5.b3.cell
          have c45 := hI5.b4.cell
          have f35 := hI5.b3.frozen
          have f45 := hI5.b4.frozen
          clear c4 c1 hb5 hI5
          cases pv with
          | false =>
            have HK := Lib.hid (HKEEP.out (by rw [HST.out]; unfold stepG; rw [if_neg (fun h => by rw [← HPV.out] at h; exact Bool.noConfusion h.2)]) W5 HB5.out)
            clear c35 c45 f35 f45
            gi_wp2
            exact HK.out
          | true =>
            have HT := Lib.hid (HSTORE.out (by rw [HST.out]; unfold stepG; rw [if_pos ⟨by rw [← HVV.out, ← HZZ.out]; exact hgt, HPV.out.symm⟩]) W5 HB5.out _ rfl)
            gi_wp2
            exact HT.out
        · have hgt' : ¬ v > z := hgt
          have HK := Lib.hid (HKEEP.out (by rw [HST.out]; unfold stepG; rw [if_neg (fun h => hgt (by rw [HVV.out, HZZ.out]; exact h.1))]) W4 HB4.out)
          gi_wp2
          all_goals (refine ⟨fun _ _ => trivial, ?_⟩; apply_assumption; gi_wp2)
          all_goals exact HK.out
      case done =>
        intro D y W hD hI hyH hK
        have c3 := hI.b3.cell
        have HI := Lib.hid hI
        have HYH := Lib.hid hyH
        have HBW := HB3.out.size
        clear hI hyH
        gi_wp2
        refine ⟨by simp, .inl ⟨_, _, rfl, run_takeDeferred hK, ?_⟩⟩
        refine ⟨_, by simp [results, Try.results42, go_sem], y, rfl, ?_, ?_, ?_, ?_⟩
        · have := HI.out.yl
          rw [HCL.out, List.take_length] at this; rw [this, HLC.out]
        · exact (held_put HYH.out _ hK rfl).1
        · exact held_in (held_put HYH.out _ hK rfl) HI.out.ge
        · exact HI.out.bl.trans (put_below _ (by omega))
end Go.Proofs.Ytbochmpkjacnnaa
