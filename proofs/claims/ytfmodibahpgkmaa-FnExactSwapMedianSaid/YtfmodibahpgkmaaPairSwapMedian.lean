/- Both sides of SwapMedian answer alike. Condition: the Field and the set read as such. -/
import Derived.Test.YtfmodibahpgkmaaBestImpl
import Derived.Test.YtfmodibahpgkmaaOwn
namespace Go.Proofs.Ytfmodibahpgkmaa
open Go.RowKit

def PIntsN (l : List Int) (n : Int) (b : Bool) (W : World) (e : Ending) (w' : World) : Prop :=
  ∃ s : Row, e = .returned (.tuple #[.slice s.a s.l.length s.c, .int .i64 n, .bool b]) ∧ s.l = l ∧ s.Own 3 w' ∧ s.In W.heap.size w'.heap.size w' ∧ Below W.heap.size W w'

/-- Best swaps, again and again, at most k of them. -/
def runS (F : Fld) : Nat → List Int → Int → List Int × Int
  | 0, l, c => (l, c)
  | k + 1, l, c => if 0 < (bestS F l l.length).2.2 then runS F k (swapd l (bestS F l l.length).1 (bestS F l l.length).2.1) (c + 1) else (l, c)
theorem runS_stop {F : Fld} {l : List Int} (h : ¬ 0 < (bestS F l l.length).2.2) (k : Nat) (c : Int) : runS F k l c = (l, c) := by
  cases k with
  | zero => rfl
  | succ k => simp only [runS]; rw [if_neg h]
theorem runS_more {F : Fld} {l : List Int} (h : 0 < (bestS F l l.length).2.2) (k : Nat) (c : Int) : runS F (k + 1) l c = runS F k (swapd l (bestS F l l.length).1 (bestS F l l.length).2.1) (c + 1) := by
  simp only [runS]; rw [if_pos h]
theorem runS_le (F : Fld) : ∀ (k : Nat) (l : List Int) (c : Int), c ≤ (runS F k l c).2 ∧ (runS F k l c).2 ≤ c + k
  | 0, l, c => ⟨Int.le_refl _, by simp [runS]⟩
  | k + 1, l, c => by
    by_cases h : 0 < (bestS F l l.length).2.2
    · rw [runS_more h]
      have := runS_le F k (swapd l (bestS F l l.length).1 (bestS F l l.length).2.1) (c + 1)
      exact ⟨by omega, by push_cast; omega⟩
    · rw [runS_stop h]; exact ⟨Int.le_refl _, by push_cast; omega⟩
theorem runS_like {F G : Fld} (hl : G.Like F) : ∀ (k : Nat) (l : List Int) (c : Int), runS G k l c = runS F k l c
  | 0, l, c => rfl
  | k + 1, l, c => by simp only [runS]; rw [bestS_like hl, runS_like hl k]
/-- One swap of the run. -/
theorem run_step {F : Fld} {s : Row} {p q g : Int} (h2 : twoB F s = true) (hb : bestS F s.l s.l.length = (p, q, g)) (hg : 0 < g) : SwapAt F s p q ∧ serv F (swapd s.l p q) + g = serv F s.l := by
  have hk := kept_best (twoB_iff.1 h2).1 (l := s.l) s.l.length (Nat.le_refl _)
  rw [hb] at hk
  obtain ⟨o, n, h1, h3, h4, h5⟩ := hk.2.2 hg
  injection h5 with e1 h5
  injection h5 with e2 e3
  subst e1; subst e2
  exact ⟨swapAt_of h2 h1 h3 h4, by rw [e3]; unfold gain; omega⟩
/-- What is kept from swap to swap. -/
structure RunAt (F : Fld) (l : List Int) (cE : Int) (B : Nat) (t : Row) (c : Int) (k : Nat) (w : World) : Prop where
  at_ : t.In B w.heap.size w
  own : t.Own 3 w
  two : twoB F t = true
  few : t.l.length ≤ 1048576
  srv : serv F t.l ≤ k
  run : runS F k t.l c = (l, cE)
  lo : 0 ≤ c
  hi : c ≤ cE
theorem RunAt.on {F : Fld} {l : List Int} {cE c : Int} {B k : Nat} {t : Row} {w w' : World} (h : RunAt F l cE B t c k w) (hb : Below w.heap.size w w') : RunAt F l cE B t c k w' :=
  ⟨(h.at_.on hb).wide (Nat.le_refl _) hb.size, h.own.on hb, h.two, h.few, h.srv, h.run, h.lo, h.hi⟩
theorem RunAt.stop {F : Fld} {l : List Int} {cE c : Int} {B k : Nat} {t : Row} {w : World} (h : RunAt F l cE B t c k w) {p q g : Int} (hb : bestS F t.l t.l.length = (p, q, g)) (hg : ¬ 0 < g) : t.l = l ∧ c = cE := by
  have h1 := h.run
  rw [runS_stop (by rw [hb]; exact hg)] at h1
  injection h1 with e1 e2
  exact ⟨e1, e2⟩
theorem RunAt.next {F : Fld} {l : List Int} {cE c : Int} {B k : Nat} {t : Row} {w : World} (h : RunAt F l cE B t c k w) {p q g : Int} (hb : bestS F t.l t.l.length = (p, q, g)) (hg : 0 < g) :
    SwapAt F t p q ∧ c + 1 ≤ cE ∧ ∃ k' : Nat, ∀ (u : Row) (w' : World), u.l = swapd t.l p q → u.In B w'.heap.size w' → u.Own 3 w' → RunAt F l cE B u (c + 1) k' w' := by
  obtain ⟨h1, h2⟩ := run_step h.two hb hg
  have h3 := h.srv
  have h4 := (serv_bounds (twoB_iff.1 h.two).1 (swapd t.l p q)).1
  cases k with
  | zero => omega
  | succ k =>
    have h5 := h.run
    rw [runS_more (by rw [hb]; exact hg), hb] at h5
    have h6 := runS_le F k (swapd t.l p q) (c + 1)
    have h7 : (runS F k (swapd t.l p q) (c + 1)).2 = cE := by rw [h5]
    rw [h7] at h6
    refine ⟨h1, h6.1, k, fun u w' hu hi ho => ⟨hi, ho, swapd_two h1 hu, by rw [hu, swapd_len h1]; exact h.few, by rw [hu]; push_cast at h3; omega, by rw [hu]; exact h5, by have := h.lo; omega, h6.1⟩⟩
/-- What SwapMedian answers. -/
def Medis (F : Fld) (s : Row) (l : List Int) (c : Int) (b : Bool) : Prop :=
  (twoB F s = false ∧ l = [] ∧ c = 0 ∧ b = false) ∨ (twoB F s = true ∧ runS F 693 s.l 0 = (l, c) ∧ b = true)
theorem Medis.start {F : Fld} {s t : Row} {l : List Int} {c : Int} {B : Nat} {w : World} (h2 : twoB F s = true) (h : runS F 693 s.l 0 = (l, c)) (hs : s.l.length ≤ 1048576) (ht : t.l = s.l) (hi : t.In B w.heap.size w) (ho : t.Own 3 w) : RunAt F l c B t 0 693 w ∧ 0 ≤ c ∧ c ≤ 693 := by
  have h6 := runS_le F 693 s.l 0
  rw [h] at h6
  refine ⟨⟨hi, ho, by rw [twoB_like (show F.Like F from ⟨rfl, rfl⟩) ht]; exact h2, by rw [ht]; exact hs, by have := serv_bounds (twoB_iff.1 h2).1 t.l; exact this.2, by rw [ht]; exact h, Int.le_refl _, h6.1⟩, h6.1, by simpa using h6.2⟩

theorem clone_any (s : Row) (w : World) (hs : s.At w) (h0 : 0 < s.l.length) (hn : s.l.length ≤ 1048576) :
    Calls Try.prog 74 #[.slice s.a s.l.length s.c] w fun e w' => ∃ t : Row, e = .returned (.slice t.a t.l.length t.c) ∧ t.l = s.l ∧ t.Own 3 w' ∧ t.In w.heap.size w'.heap.size w' ∧ Below w.heap.size w w' := by
  obtain ⟨q1, q2, q3⟩ := hs
  rcases q3 with h3 | ⟨bk, of, hsa, hbb, hcell⟩
  · have h3' := congrArg List.length (iv_nil h3); rw [List.length_nil] at h3'; omega
  have HC : ∀ j, j < s.l.length → w.cell? ⟨bk, of + j, none⟩ = some (.int .i64 (s.l.getD j 0)) := fun j hj => by
    rw [hcell j _ (iv_at hj), List.getD_eq_getElem?_getD, List.getElem?_eq_getElem hj]; rfl
  rw [hsa]
  refine (Try.slices_Clone_int bk of s.l.length s.c s.l w (Nat.le_refl _) (by omega) HC).mono ?_
  rintro e w' ⟨v', rfl, ho, hne, hb⟩
  rw [List.take_length] at ho
  obtain ⟨t, ht, htl, hto, hti⟩ := row_of_own ho
  exact ⟨t, congrArg Ending.returned ht, htl, hto, hti, hb⟩

set_option maxRecDepth 16000 in
set_option maxHeartbeats 2000000 in
theorem specMedi_any (F : Fld) (s : Row) (w : World) (hF : F.At w) (hs : s.At w) (hsm : s.l.length ≤ 1048576) (l : List Int) (cE : Int) (b : Bool) (hv : Medis F s l cE b) :
    Calls Try.prog 34 #[F.val, .slice s.a s.l.length s.c] w (PIntsN l cE b w) := by
  obtain ⟨wA, hA, hbA, bx, hFA, hszA⟩ := laid_fld F w 29 hF
  have HSA := Lib.hid (hs.on hbA)
  have HFA := Lib.hid hFA
  have HBX := Lib.hid bx
  have HA := Lib.hid hA
  have CT := Lib.hid (l2Two_any F s wA hFA HSA.out)
  clear hF hs hA hFA bx
  show Calls _ _ #[.agg #[F.o.val, F.t.val], _] w _
  rcases hv with ⟨h2, rfl, rfl, rfl⟩ | ⟨h2, hv, rfl⟩
  · rw [h2] at CT
    clear h2
    go_enter Try.func34, Try.ntmps34
    go_wp2_with fail
    rw [show w.alloc (Obj.cells #[F.o.val, F.t.val] 29) = wA from HA.out.symm]
    refine (show Calls _ _ _ _ _ from CT.out).mono ?_
    rintro e W1 ⟨rfl, hb1⟩
    have HB := Lib.hid (hbA.trans (hb1.mono hbA.size))
    clear hb1
    go_wp2
    go_ret3
    obtain ⟨t, ht, htl, hto, hti⟩ := row_of_own (empty_own W1)
    obtain ⟨t', rfl⟩ : ∃ t', t' = t := ⟨_, rfl⟩
    exact ⟨t', by rw [show (Value.slice (some ⟨W1.heap.size, 0, none⟩) 0 0) = .slice t'.a t'.l.length t'.c from ht]; rfl, htl, hto, hti.wide HB.out.size (Nat.le_refl _), HB.out.trans ((below_alloc W1 _).mono HB.out.size)⟩
  · rw [h2] at CT
    have HV := Lib.hid hv
    have H2 := Lib.hid h2
    have hpos := (twoB_iff.1 h2).2.2
    have CO := Lib.hid (fun W1 (hb1 : Below wA.heap.size wA W1) => l1Own_any s W1 (HSA.out.on hb1) hpos hsm)
    clear hv h2 hpos
    go_enter Try.func34, Try.ntmps34
    go_wp2_with fail
    rw [show w.alloc (Obj.cells #[F.o.val, F.t.val] 29) = wA from HA.out.symm]
    refine (show Calls _ _ _ _ _ from CT.out).mono ?_
    rintro e W1 ⟨rfl, hb1⟩
    have C2 := CO.out W1 hb1
    have HB1 := Lib.hid hb1
    clear hb1
    go_wp2_with fail
    refine (show Calls _ _ _ _ _ from C2).mono ?_
    rintro e W2 ⟨t0, rfl, htl, hto, hti, hb2⟩
    clear C2
    have HB2 := Lib.hid (HB1.out.trans (hb2.mono HB1.out.size))
    obtain ⟨hr, hc0, hc1⟩ := Medis.start H2.out HV.out hsm htl (hti.wide HB1.out.size (Nat.le_refl _)) hto
    have HR := Lib.hid hr
    clear htl hto hti hb2 hr
    go_wp2
    go_loopw [7, 8, 9, 10, 11] (fun a c _ _ _ wr => ∃ (t : Row) (n : Int) (k : Nat), a = .slice t.a t.l.length t.c ∧ c = .int .i64 n ∧ RunAt F l cE wA.heap.size t n k wr ∧ Below wA.heap.size wA wr) (fun _ c _ _ _ _ => (cE - intOf c).toNat)
    case atStart => exact ⟨t0, 0, 693, rfl, rfl, HR.out, HB2.out⟩
    case round =>
      obtain ⟨t, n, k, rfl, rfl, hr, hnx⟩ := hrel
      have y0 := (HBX.out.on hnx).c0
      have y1 := (HBX.out.on hnx).c1
      obtain ⟨p, q, g, hb⟩ : ∃ p q g, bestS F t.l t.l.length = (p, q, g) := ⟨_, _, _, rfl⟩
      have hk := kept_best (twoB_iff.1 hr.two).1 (l := t.l) t.l.length (Nat.le_refl _)
      rw [hb] at hk
      have hg0 : 0 ≤ g := hk.1
      have CF := Lib.hid (l4Find_any F t wr (HFA.out.on hnx) hr.at_.at hr.few hr.two p q g hb)
      have HR1 := Lib.hid hr
      have HNX := Lib.hid hnx
      have HBE := Lib.hid hb
      have hn0 := hr.lo
      have hn1 := hr.hi
      clear hr hnx hb hk
      by_cases hg : g = 0
      · subst hg
        have HE := Lib.hid (HR1.out.stop HBE.out (by omega))
        go_wp2_with fail
        refine (show Calls _ _ _ _ _ from CF.out).mono ?_
        rintro e W3 ⟨rfl, hb3⟩
        have HB3 := Lib.hid hb3
        clear hb3 y0 y1
        go_wp2
        go_ret3
        have hr3 := HR1.out.on HB3.out
        have hB := HNX.out.trans (HB3.out.mono HNX.out.size)
        exact ⟨t, by rw [← HE.out.2]; rfl, HE.out.1, hr3.own, hr3.at_.wide hbA.size (Nat.le_refl _), hbA.trans (hB.mono hbA.size)⟩
      · have hg1 : 0 < g := by omega
        obtain ⟨hsw, hce, k', hnext⟩ := HR1.out.next HBE.out hg1
        have HNT := Lib.hid hnext
        have HSW := Lib.hid hsw
        have hge : (g == 0) = false := by simp [hg]
        clear hnext hsw
        go_wp2_with fail
        refine (show Calls _ _ _ _ _ from CF.out).mono ?_
        rintro e W3 ⟨rfl, hb3⟩
        have HR3 := Lib.hid (HR1.out.on hb3)
        have HB3 := Lib.hid (HNX.out.trans (hb3.mono HNX.out.size))
        have CS := Lib.hid (l4Swap_any t p q W3 HR3.out.at_.at HR3.out.few HSW.out.no)
        clear hb3 y0 y1
        go_wp2_with fail
        refine (show Calls _ _ _ _ _ from CS.out).mono ?_
        rintro e W4 ⟨u, rfl, hul, huo, hui, hb4⟩
        have hR4 := Lib.hid (HNT.out u W4 hul (hui.wide HB3.out.size (Nat.le_refl _)) huo)
        have hB4 := Lib.hid (HB3.out.trans (hb4.mono HB3.out.size))
        clear hul huo hui hb4
        go_wp2
        go_roundw
        case rel => exact ⟨u, n + 1, k', rfl, by go_num, hR4.out, hB4.out⟩
        case measure => simp [intOf]; omega

set_option maxRecDepth 16000 in
set_option maxHeartbeats 2000000 in
theorem implMedi_any (F : Fld) (s : Row) (w : World) (hF : F.At w) (hs : s.At w) (hsm : s.l.length ≤ 1048576) (l : List Int) (cE : Int) (b : Bool) (hv : Medis F s l cE b) :
    Calls Try.prog 35 #[F.val, .slice s.a s.l.length s.c] w (PIntsN l cE b w) := by
  obtain ⟨wA, hA, hbA, bx, hFA, hszA⟩ := laid_fld F w 29 hF
  have HSA := Lib.hid (hs.on hbA)
  have HFA := Lib.hid hFA
  have HBX := Lib.hid bx
  have HA := Lib.hid hA
  have CT := Lib.hid (canServe_any F s wA hFA HSA.out)
  clear hF hs hA hFA bx
  show Calls _ _ #[.agg #[F.o.val, F.t.val], _] w _
  rcases hv with ⟨h2, rfl, rfl, rfl⟩ | ⟨h2, hv, rfl⟩
  · rw [h2] at CT
    clear h2
    go_enter Try.func35, Try.ntmps35
    go_wp2_with fail
    rw [show w.alloc (Obj.cells #[F.o.val, F.t.val] 29) = wA from HA.out.symm]
    refine (show Calls _ _ _ _ _ from CT.out).mono ?_
    rintro e W1 ⟨rfl, hb1⟩
    have HB := Lib.hid (hbA.trans (hb1.mono hbA.size))
    clear hb1
    go_wp2
    go_ret3
    obtain ⟨t, ht, htl, hto, hti⟩ := row_of_own (empty_own W1)
    obtain ⟨t', rfl⟩ : ∃ t', t' = t := ⟨_, rfl⟩
    exact ⟨t', by rw [show (Value.slice (some ⟨W1.heap.size, 0, none⟩) 0 0) = .slice t'.a t'.l.length t'.c from ht]; rfl, htl, hto, hti.wide HB.out.size (Nat.le_refl _), HB.out.trans ((below_alloc W1 _).mono HB.out.size)⟩
  · rw [h2] at CT
    have HV := Lib.hid hv
    have H2 := Lib.hid h2
    have hpos := (twoB_iff.1 h2).2.2
    have CO := Lib.hid (fun W1 (hb1 : Below wA.heap.size wA W1) => clone_any s W1 (HSA.out.on hb1) hpos hsm)
    clear hv h2 hpos
    go_enter Try.func35, Try.ntmps35
    go_wp2_with fail
    rw [show w.alloc (Obj.cells #[F.o.val, F.t.val] 29) = wA from HA.out.symm]
    refine (show Calls _ _ _ _ _ from CT.out).mono ?_
    rintro e W1 ⟨rfl, hb1⟩
    have C2 := CO.out W1 hb1
    have HB1 := Lib.hid hb1
    clear hb1
    go_wp2_with fail
    refine (show Calls _ _ _ _ _ from C2).mono ?_
    rintro e W2 ⟨t0, rfl, htl, hto, hti, hb2⟩
    clear C2
    have HB2 := Lib.hid (HB1.out.trans (hb2.mono HB1.out.size))
    obtain ⟨hr, hc0, hc1⟩ := Medis.start H2.out HV.out hsm htl (hti.wide HB1.out.size (Nat.le_refl _)) hto
    have HR := Lib.hid hr
    clear htl hto hti hb2 hr
    go_wp2
    go_loopw [7, 8, 9, 10, 11] (fun a c _ _ _ wr => ∃ (t : Row) (n : Int) (k : Nat), a = .slice t.a t.l.length t.c ∧ c = .int .i64 n ∧ RunAt F l cE wA.heap.size t n k wr ∧ Below wA.heap.size wA wr) (fun _ c _ _ _ _ => (cE - intOf c).toNat)
    case atStart => exact ⟨t0, 0, 693, rfl, rfl, HR.out, HB2.out⟩
    case round =>
      obtain ⟨t, n, k, rfl, rfl, hr, hnx⟩ := hrel
      have y0 := (HBX.out.on hnx).c0
      have y1 := (HBX.out.on hnx).c1
      obtain ⟨p, q, g, hb⟩ : ∃ p q g, bestS F t.l t.l.length = (p, q, g) := ⟨_, _, _, rfl⟩
      obtain ⟨z, hz⟩ : ∃ z, z = decide (0 < g) := ⟨_, rfl⟩
      have CF := Lib.hid (implBest_any F t wr (HFA.out.on hnx) hr.at_.at hr.few p q z (.inr ⟨hr.two, g, hb, hz⟩))
      have HR1 := Lib.hid hr
      have HNX := Lib.hid hnx
      have HBE := Lib.hid hb
      have hn0 := hr.lo
      have hn1 := hr.hi
      clear hr hnx hb
      cases z with
      | false =>
        have HE := Lib.hid (HR1.out.stop HBE.out (by simpa using hz.symm))
        clear hz
        go_wp2_with fail
        refine (show Calls _ _ _ _ _ from CF.out).mono ?_
        rintro e W3 ⟨rfl, hb3⟩
        have HB3 := Lib.hid hb3
        clear hb3 y0 y1
        go_wp2
        go_ret3
        have hr3 := HR1.out.on HB3.out
        have hB := HNX.out.trans (HB3.out.mono HNX.out.size)
        exact ⟨t, by rw [← HE.out.2]; rfl, HE.out.1, hr3.own, hr3.at_.wide hbA.size (Nat.le_refl _), hbA.trans (hB.mono hbA.size)⟩
      | true =>
        have hg1 : 0 < g := by simpa using hz.symm
        obtain ⟨hsw, hce, k', hnext⟩ := HR1.out.next HBE.out hg1
        have HNT := Lib.hid hnext
        have HSW := Lib.hid hsw
        clear hnext hsw hz
        go_wp2_with fail
        refine (show Calls _ _ _ _ _ from CF.out).mono ?_
        rintro e W3 ⟨rfl, hb3⟩
        have HR3 := Lib.hid (HR1.out.on hb3)
        have HB3 := Lib.hid (HNX.out.trans (hb3.mono HNX.out.size))
        have CS := Lib.hid (implSwap_any F t p q W3 (HFA.out.on HB3.out) HR3.out.at_.at HR3.out.few _ _ HSW.out.swaps)
        have x0 := (HBX.out.on HB3.out).c0
        have x1 := (HBX.out.on HB3.out).c1
        clear hb3 y0 y1
        go_wp2_with fail
        refine (show Calls _ _ _ _ _ from CS.out).mono ?_
        rintro e W4 ⟨u, rfl, hul, huo, hui, hb4⟩
        have hR4 := Lib.hid (HNT.out u W4 hul (hui.wide HB3.out.size (Nat.le_refl _)) huo)
        have hB4 := Lib.hid (HB3.out.trans (hb4.mono HB3.out.size))
        clear hul huo hui hb4 x0 x1
        go_wp2
        go_roundw
        case rel => exact ⟨u, n + 1, k', rfl, by go_num, hR4.out, hB4.out⟩
        case measure => simp [intOf]; omega

theorem medis_like {F G : Fld} {s u : Row} {l : List Int} {c : Int} {b : Bool} (h : Medis F s l c b) (hl : G.Like F) (hs : u.l = s.l) : Medis G u l c b := by
  rcases h with ⟨h1, h2⟩ | ⟨h1, h2, h3⟩
  · exact .inl ⟨by rw [twoB_like hl hs, h1], h2⟩
  · exact .inr ⟨by rw [twoB_like hl hs, h1], by rw [runS_like hl, hs, h2], h3⟩
theorem runS_two {F : Fld} : ∀ (k : Nat) (s : Row) (c : Int), twoB F s = true → (runS F k s.l c).1.length = s.l.length
  | 0, _, _, _ => rfl
  | k + 1, s, c, h2 => by
    by_cases h : 0 < (bestS F s.l s.l.length).2.2
    · rw [runS_more h]
      have hs := (run_step h2 (p := (bestS F s.l s.l.length).1) (q := (bestS F s.l s.l.length).2.1) rfl h).1
      have := runS_two k ⟨none, 0, swapd s.l (bestS F s.l s.l.length).1 (bestS F s.l s.l.length).2.1⟩ (c + 1) (swapd_two hs rfl)
      exact this.trans (swapd_len hs)
    · rw [runS_stop h]
theorem swapMedian_pair (F : Fld) (s : Row) (_ : F.Small) (hs : s.l.length ≤ 1048576) : ∃ (l : List Int) (c : Int) (b : Bool) (_ : l.length ≤ 1048576),
    (∀ (G : Fld) (t : Row) (W : World), G.At W → t.At W → G.Like F → t.l = s.l → Calls Try.prog 34 #[G.val, .slice t.a t.l.length t.c] W (PIntsN l c b W)) ∧
    (∀ (G : Fld) (t : Row) (W : World), G.At W → t.At W → G.Like F → t.l = s.l → Calls Try.prog 35 #[G.val, .slice t.a t.l.length t.c] W (PIntsN l c b W)) := by
  obtain ⟨l, c, b, h, hl⟩ : ∃ l c b, Medis F s l c b ∧ l.length ≤ 1048576 := by
    by_cases h : twoB F s = true
    · obtain ⟨l, c, hr⟩ : ∃ l c, runS F 693 s.l 0 = (l, c) := ⟨(runS F 693 s.l 0).1, (runS F 693 s.l 0).2, rfl⟩
      have h7 := runS_two 693 s 0 h
      rw [hr] at h7
      exact ⟨l, c, true, .inr ⟨h, hr, rfl⟩, Nat.le_trans (Nat.le_of_eq h7) hs⟩
    · exact ⟨_, _, _, .inl ⟨by simpa using h, rfl, rfl, rfl⟩, by simp⟩
  exact ⟨l, c, b, hl, fun G t W hG ht hlk hst => specMedi_any G t W hG ht (by rw [hst]; exact hs) l c b (medis_like h hlk hst), fun G t W hG ht hlk hst => implMedi_any G t W hG ht (by rw [hst]; exact hs) l c b (medis_like h hlk hst)⟩
end Go.Proofs.Ytfmodibahpgkmaa
