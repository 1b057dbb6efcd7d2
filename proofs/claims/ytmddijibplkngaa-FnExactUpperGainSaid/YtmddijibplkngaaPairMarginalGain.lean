/- Both sides of MarginalGain answer alike. Condition: the arguments read as such; the set is whole. -/
import Derived.Test.YtmddijibplkngaaMargSpec
import Derived.Test.YtmddijibplkngaaMargImpl
import Derived.Test.YtmddijibplkngaaWorthLay
namespace Go.Proofs.Ytmddijibplkngaa
open Go.RowKit Go.Shelf

/-- What MarginalGain answers. -/
def askMg (F : Fld) (u : Int) (l : List Int) (a : Int) : Bool := askG F u l && (decide (0 ≤ a) && (decide (a < (F.o.l.length : Int)) && !hasI l a))
theorem askMg_like {F G : Fld} (h : G.Like F) (u : Int) (l : List Int) (a : Int) : askMg G u l a = askMg F u l a := by unfold askMg; rw [askG_like h, h.1]
theorem moreT_like {F G : Fld} (h : G.Like F) (u : Int) (T : List Nat) (i : Nat) : moreT G u T i = moreT F u T i := by unfold moreT; rw [gainT_like h, gainT_like h]
theorem set_few {F : Fld} {u : Int} {s : Row} (h : askG F u s.l = true) : s.l.length ≤ 7 := by
  obtain ⟨h1, h2⟩ := askG_iff.1 h
  have h7 := (good_sizes (worthB_iff.1 h1).1).2.1
  obtain ⟨T, hT, hl⟩ := set_nat h2
  have hr : T.Pairwise (· < ·) := by
    have : ∀ (T : List Nat) (lo : Int), rise (F.o.l.length : Int) lo (up T) = true → T.Pairwise (· < ·) := by
      intro T
      induction T with
      | nil => intro _ _; exact List.Pairwise.nil
      | cons a T ih =>
        intro lo h
        have h' : rise (F.o.l.length : Int) lo ([(a : Int)] ++ up T) = true := h
        rw [rise_append, Bool.and_eq_true] at h'
        refine List.Pairwise.cons (fun b hb => ?_) (ih _ h'.2)
        have := rise_bounds _ _ _ h'.2 (b : Int) (by unfold up; exact List.mem_map.2 ⟨b, hb, rfl⟩)
        have e : lst lo [(a : Int)] = (a : Int) := lst_snoc [] lo _
        omega
    have h2' := h2
    rw [hT] at h2'
    exact this T _ h2'
  have := nodup_len T (List.range F.o.l.length) (hr.imp (fun h => by omega)) (fun x hx => List.mem_range.2 (hl x hx))
  rw [List.length_range] at this
  rw [hT, up_length]; omega
theorem contW_any (s : Row) (x : Int) (w : World) (hs : s.At w) (hsm : s.l.length ≤ 1048576) :
    Calls Try.prog 47 #[.slice s.a s.l.length s.c, .int .i64 x] w fun e w' => e = .returned (.bool (hasI s.l x)) ∧ w' = w := by
  obtain ⟨a, c, l⟩ := s
  obtain ⟨h1, h2, h3⟩ := hs
  simp only at h1 h2 h3 hsm ⊢
  by_cases h0 : l = []
  · subst h0
    exact Try.slices_Contains_int_empty a c x w
  rcases h3 with h3 | ⟨b, o, rfl, hb, hcell⟩
  · exact absurd (iv_nil h3) h0
  have := Try.slices_Contains_int b o l.length c l x w (Nat.le_refl _) (by omega) (fun j hj => by rw [hcell j _ (iv_at hj), List.getD_eq_getElem?_getD, List.getElem?_eq_getElem hj]; rfl)
  rw [List.take_length] at this; exact this

set_option maxRecDepth 16000 in
set_option maxHeartbeats 1500000 in
theorem implMarg_any (F : Fld) (u : Int) (s : Row) (a : Int) (w : World) (hF : F.At w) (hs : s.At w) (hw : s.Whole 3 w) (hsm : s.l.length ≤ 1048576) (b : Bool) (hb0 : b = askMg F u s.l a) (v : Int) (hv : v = if b then moreT F u (nats s.l) a.toNat else 0) :
    Calls Try.prog 19 #[F.val, .int .i64 u, .slice s.a s.l.length s.c, .int .i64 a] w (PInt v b w) := by
  obtain ⟨wB, L⟩ := laid2 F u w
  have x0 := L.c0
  have x1 := L.c1
  have hFB := hF.on L.below
  have hsB := hs.on L.below
  obtain ⟨g, hg⟩ : ∃ g, g = askG F u s.l := ⟨_, rfl⟩
  obtain ⟨c, hc⟩ : ∃ c, c = hasI s.l a := ⟨_, rfl⟩
  have hoi : (F.o.l.length : Int) ≤ 9223372036854775807 := by obtain ⟨q1, q2, _⟩ := hF.1; rw [iv_length] at q1; unfold maxLen at q2; omega
  have HB : Hid (b = (g && (decide (0 ≤ a) && (decide (a < (F.o.l.length : Int)) && !c)))) := Lib.hid (by rw [hb0, hg, hc]; rfl)
  have CH := Lib.hid (by have := hasSet_any F u s wB hFB hsB; rw [← hg] at this; exact this)
  have HL := Lib.hid L
  have HV := Lib.hid hv
  have CC := Lib.hid (fun W (hW : Below wB.heap.size wB W) => by have := contW_any s a W (hsB.on hW) hsm; rw [← hc] at this; exact this : ∀ W, Below wB.heap.size wB W → Calls Try.prog 47 #[.slice s.a s.l.length s.c, .int .i64 a] W fun e w' => e = .returned (.bool c) ∧ w' = W)
  have CG := Lib.hid (fun (h : g = true) (h0 : 0 ≤ a) (h1 : a < (F.o.l.length : Int)) W (hW : Below wB.heap.size wB W) => (by
    have h7 := set_few (show askG F u s.l = true by rw [← hg]; exact h)
    have := marginal_any F u s (nats s.l) a.toNat W (hFB.on hW) (hsB.on hW) hw.some (worthy_of (by rw [← hg]; exact h) hsm) (by unfold nats; rw [List.length_map]; omega) (by omega)
    rw [show ((a.toNat : Nat) : Int) = a by omega] at this
    exact this : Calls Try.prog 48 #[.agg #[.slice F.o.a F.o.l.length F.o.c, .slice F.t.a F.t.R.length F.t.c, .int .i64 u], .slice s.a s.l.length s.c, .int .i64 a] W fun e w' => e = .returned (.int .i64 (moreT F u (nats s.l) a.toNat)) ∧ Below W.heap.size W w'))
  clear hF hs hw hsm hb0 hv L hFB hsB hg hc
  unfold PInt
  show Calls _ _ #[.agg #[.slice F.o.a F.o.l.length F.o.c, .slice F.t.a F.t.R.length F.t.c], _, _, _] w _
  go_enter Try.func19, Try.ntmps19
  go_wp2_with fail
  rw [HL.out.eq]
  clear x0 x1
  refine (show Calls _ _ _ _ _ from CH.out).mono ?_
  rintro e W1 ⟨rfl, hb1⟩
  have hbw1 := HL.out.below.trans (hb1.mono HL.out.below.size)
  have HNO : Hid (b = false → v = 0) := Lib.hid fun h => by rw [HV.out, h]; rfl
  cases g with
  | false =>
    obtain rfl : b = false := HB.out
    have : v = 0 := HNO.out rfl
    subst this
    go_wp2
    go_ret2
    exact ⟨rfl, hbw1⟩
  | true =>
    by_cases h0 : 0 ≤ a
    · have h0' : ¬ a < 0 := by omega
      have y0 := (HL.out.box.on hb1).c0
      by_cases h1 : a < (F.o.l.length : Int)
      · have h1' : ¬ a ≥ (F.o.l.length : Int) := by omega
        have CC1 := Lib.hid (CC.out W1 hb1)
        have HB2 : Hid (b = !c) := Lib.hid (by rw [HB.out, decide_eq_true h0, decide_eq_true h1]; rfl)
        go_wp2_with fail
        refine (show Calls _ _ _ _ _ from CC1.out).mono ?_
        rintro e W2 ⟨rfl, rfl⟩
        cases c with
        | true =>
          obtain rfl : b = false := HB2.out
          have : v = 0 := HNO.out rfl
          subst this
          go_wp2
          go_ret2
          exact ⟨rfl, hbw1⟩
        | false =>
          obtain rfl : b = true := HB2.out
          have HV2 : Hid (v = moreT F u (nats s.l) a.toNat) := Lib.hid HV.out
          have z0 := (HL.out.val.on hb1).c0
          have z1 := (HL.out.val.on hb1).c1
          have z2 := (HL.out.val.on hb1).c2
          have CG1 := Lib.hid (CG.out (by first | rfl | trivial) h0 h1 _ hb1)
          clear hb1
          go_wp2_with fail
          refine (show Calls _ _ _ _ _ from CG1.out).mono ?_
          rintro e W2 ⟨rfl, hb2⟩
          go_wp2
          go_ret2
          exact ⟨by rw [HV2.out]; rfl, hbw1.trans (hb2.mono hbw1.size)⟩
      · have h1' : a ≥ (F.o.l.length : Int) := by omega
        obtain rfl : b = false := by rw [HB.out, decide_eq_false h1]; simp
        have : v = 0 := HNO.out rfl
        subst this
        go_wp2
        go_ret2
        exact ⟨rfl, hbw1⟩
    · have h0' : a < 0 := by omega
      obtain rfl : b = false := by rw [HB.out, decide_eq_false h0]; simp
      have : v = 0 := HNO.out rfl
      subst this
      go_wp2
      go_ret2
      exact ⟨rfl, hbw1⟩

set_option maxRecDepth 16000 in
set_option maxHeartbeats 1500000 in
theorem specMarg_any (F : Fld) (u : Int) (s : Row) (a : Int) (w : World) (hF : F.At w) (hs : s.At w) (hw : s.Whole 3 w) (hsm : s.l.length ≤ 1048576) (b : Bool) (hb0 : b = askMg F u s.l a) (v : Int) (hv : v = if b then moreT F u (nats s.l) a.toNat else 0) :
    Calls Try.prog 18 #[F.val, .int .i64 u, .slice s.a s.l.length s.c, .int .i64 a] w (PInt v b w) := by
  obtain ⟨wA, hA, hbA, bx, hFA, hszA⟩ := laid_fld F w 29 hF
  have x0 := bx.c0
  have x1 := bx.c1
  rw [hA] at x0 x1
  have HBX := Lib.hid bx
  have HA := Lib.hid hA
  obtain ⟨g, hg⟩ : ∃ g, g = worthB F u := ⟨_, rfl⟩
  obtain ⟨c, hc⟩ : ∃ c, c = setB F.o.l.length s.l := ⟨_, rfl⟩
  obtain ⟨d, hd⟩ : ∃ d, d = hasI s.l a := ⟨_, rfl⟩
  obtain ⟨f, hf⟩ : ∃ f, f = (decide (0 ≤ a) && decide (a ≤ (F.o.l.length : Int) - 1)) := ⟨_, rfl⟩
  have hoi : (F.o.l.length : Int) ≤ 9223372036854775807 := by obtain ⟨q1, q2, _⟩ := hF.1; rw [iv_length] at q1; unfold maxLen at q2; omega
  have hfe : (decide (0 ≤ a) && (decide (a < (F.o.l.length : Int)) && !d)) = (f && !d) := by
    rw [hf]
    by_cases h : a < (F.o.l.length : Int)
    · rw [decide_eq_true h, decide_eq_true (by omega : a ≤ (F.o.l.length : Int) - 1)]; simp
    · rw [decide_eq_false h, decide_eq_false (by omega : ¬ a ≤ (F.o.l.length : Int) - 1)]; simp
  have HB : Hid (b = (g && c && (f && !d))) := Lib.hid (by rw [hb0]; unfold askMg askG; rw [← hg, ← hc, ← hd, hfe])
  have CW := Lib.hid (by have := l8Good_any F u wA hFA; rw [← hg] at this; exact this)
  have CS := Lib.hid (fun W (h : Below wA.heap.size wA W) => by have := l2Set_any F s W (hFA.on h) ((hs.on hbA).on h); rw [← hc] at this; exact this : ∀ W, Below wA.heap.size wA W → Calls Try.prog 38 #[F.val, .slice s.a s.l.length s.c] W fun e w' => e = .returned (.bool c) ∧ Below W.heap.size W w')
  have CHs := Lib.hid (fun W (h : Below wA.heap.size wA W) => by have := l1Has_any s a W ((hs.on hbA).on h); rw [← hd] at this; exact this)
  have CI := Lib.hid (fun W => by have := l1In_any a 0 ((F.o.l.length : Int) - 1) W; rw [← hf] at this; exact this : ∀ W : World, Calls Try.prog 45 #[.int .i64 a, .int .i64 0, .int .i64 ((F.o.l.length : Int) - 1)] W fun e w' => e = .returned (.bool f) ∧ w' = W)
  have CG := Lib.hid (fun (hgt : g = true) (hct : c = true) (hft : f = true) (hdf : d = false) W (hW : Below wA.heap.size wA W) => (by
    have hask : askG F u s.l = true := askG_iff.2 ⟨by rw [← hg]; exact hgt, by rw [← hc]; exact hct⟩
    have hf2 := hft
    rw [hf, Bool.and_eq_true, decide_eq_true_eq, decide_eq_true_eq] at hf2
    have h7 := set_few hask
    have hwy := worthy_of hask hsm
    have hni : a.toNat ∉ nats s.l := by
      have := hdf
      rw [hd, hwy.set, ← show ((a.toNat : Nat) : Int) = a by omega, hasN] at this
      exact decide_eq_false_iff_not.1 this
    have := l8More_any F u s (nats s.l) a.toNat W (hFA.on hW) ((hs.on hbA).on hW) ((hw.on hbA).on hW) hwy (by unfold nats; rw [List.length_map]; omega) (by omega) hni
    rw [show ((a.toNat : Nat) : Int) = a by omega] at this
    exact this : Calls Try.prog 46 #[F.val, .int .i64 u, .slice s.a s.l.length s.c, .int .i64 a] W fun e w' => e = .returned (.int .i64 (moreT F u (nats s.l) a.toNat)) ∧ Below W.heap.size W w'))
  have HV := Lib.hid hv
  have HNO : Hid (b = false → v = 0) := Lib.hid fun h => by rw [hv, h]; rfl
  have e1 : (-9223372036854775808 : Int) ≤ (F.o.l.length : Int) - 1 := by omega
  have e2 : (F.o.l.length : Int) - 1 ≤ 9223372036854775807 := by omega
  clear hF hs hw hsm hb0 hv bx hFA hA hg hc hd hf hfe hszA
  unfold PInt
  show Calls _ _ #[.agg #[F.o.val, F.t.val], _, _, _] w _
  go_enter Try.func18, Try.ntmps18
  go_wp2_with fail
  rw [show w.alloc (Obj.cells #[F.o.val, F.t.val] 29) = wA from HA.out.symm]
  clear x0 x1
  refine (show Calls _ _ _ _ _ from CW.out).mono ?_
  rintro e W1 ⟨rfl, hb1⟩
  have hbw1 := hbA.trans (hb1.mono hbA.size)
  cases g with
  | false =>
    obtain rfl : b = false := HB.out
    obtain rfl : v = 0 := HNO.out rfl
    go_wp2
    go_ret2
    exact ⟨rfl, hbw1⟩
  | true =>
    have y0 := (HBX.out.on hb1).c0
    have y1 := (HBX.out.on hb1).c1
    have CS1 := Lib.hid (CS.out W1 hb1)
    go_wp2_with fail
    clear y0 y1
    refine (show Calls _ _ _ _ _ from CS1.out).mono ?_
    rintro e W2 ⟨rfl, hb2⟩
    have hbw2 := hbw1.trans (hb2.mono hbw1.size)
    have hb12 := hb1.trans (hb2.mono hb1.size)
    clear hb1 hb2 hbw1
    cases c with
    | false =>
      obtain rfl : b = false := HB.out
      obtain rfl : v = 0 := HNO.out rfl
      go_wp2
      go_ret2
      exact ⟨rfl, hbw2⟩
    | true =>
      have CH1 := Lib.hid (CHs.out W2 hb12)
      go_wp2_with fail
      refine (show Calls _ _ _ _ _ from CH1.out).mono ?_
      rintro e W3 ⟨rfl, rfl⟩
      cases d with
      | true =>
        obtain rfl : b = false := by rw [HB.out]; simp
        obtain rfl : v = 0 := HNO.out rfl
        go_wp2
        go_ret2
        exact ⟨rfl, hbw2⟩
      | false =>
        have HB2 : Hid (b = f) := Lib.hid (by rw [HB.out]; simp)
        have y0 : W3.cell? ⟨w.heap.size, 0, none⟩ = some (.slice F.o.a F.o.l.length F.o.c) := (HBX.out.on hb12).c0
        have CI1 := Lib.hid (CI.out W3)
        go_wp2_with fail
        clear y0
        refine (show Calls _ _ _ _ _ from CI1.out).mono ?_
        rintro e W4 ⟨rfl, rfl⟩
        cases f with
        | false =>
          obtain rfl : b = false := HB2.out
          obtain rfl : v = 0 := HNO.out rfl
          go_wp2
          go_ret2
          exact ⟨rfl, hbw2⟩
        | true =>
          obtain rfl : b = true := HB2.out
          have HV2 : Hid (v = moreT F u (nats s.l) a.toNat) := Lib.hid HV.out
          have y0 := (HBX.out.on hb12).c0
          have y1 := (HBX.out.on hb12).c1
          have CG1 := Lib.hid (CG.out (by first | rfl | trivial) (by first | rfl | trivial) (by first | rfl | trivial) (by first | rfl | trivial) _ hb12)
          clear hb12
          go_wp2_with fail
          refine (show Calls _ _ _ _ _ from CG1.out).mono ?_
          rintro e W5 ⟨rfl, hb5⟩
          go_wp2
          go_ret2
          exact ⟨by rw [HV2.out]; rfl, hbw2.trans (hb5.mono hbw2.size)⟩

theorem marginalGain_pair (F : Fld) (u : Int) (s : Row) (a : Int) {Q : Prop} (_ : Q) {Q' : Prop} (_ : Q') (_ : F.Small) (hs : s.l.length ≤ 1048576) : ∃ (v : Int) (b : Bool),
    (∀ (G : Fld) (t : Row) (W : World), G.At W → t.At W → G.Like F → t.l = s.l → t.Whole 3 W → Calls Try.prog 18 #[G.val, .int .i64 u, .slice t.a t.l.length t.c, .int .i64 a] W (PInt v b W)) ∧
    (∀ (G : Fld) (t : Row) (W : World), G.At W → t.At W → G.Like F → t.l = s.l → t.Whole 3 W → Calls Try.prog 19 #[G.val, .int .i64 u, .slice t.a t.l.length t.c, .int .i64 a] W (PInt v b W)) :=
  ⟨if askMg F u s.l a then moreT F u (nats s.l) a.toNat else 0, askMg F u s.l a,
    fun G t W hG ht hl hl2 hw => specMarg_any G u t a W hG ht hw (by rw [hl2]; exact hs) _ (by rw [hl2, askMg_like hl]) _ (by rw [hl2, moreT_like hl]),
    fun G t W hG ht hl hl2 hw => implMarg_any G u t a W hG ht hw (by rw [hl2]; exact hs) _ (by rw [hl2, askMg_like hl]) _ (by rw [hl2, moreT_like hl])⟩
end Go.Proofs.Ytmddijibplkngaa
