/- Both sides of AreFarClients answer alike. Condition: Field and list read as such. -/
import Derived.Test.YtlnompeojhaigaaFars
import Derived.Test.YtlnompeojhaigaaPost
namespace Go.Proofs.Ytlnompeojhaigaa
open Go.RowKit

set_option maxHeartbeats 1000000 in
theorem hasRadius_any (F : Fld) (r : Int) (w : World) (hF : F.At w) :
    Calls Try.prog 67 #[F.val, .int .i64 r] w fun e w' => e = .returned (.bool (F.good && decide (0 ≤ r))) ∧ Below w.heap.size w w' := by
  obtain ⟨wA, hA, hbA, bx, hFA, hszA⟩ := laid_fld F w 29 hF
  have HA := Lib.hid hA
  obtain ⟨g, hg⟩ : ∃ g, g = F.good := ⟨_, rfl⟩
  have CT := Lib.hid (by have := implIsField_any F wA hFA; rw [← hg] at this; exact this)
  rw [← hg]
  have x0 := bx.c0
  have x1 := bx.c1
  rw [hA] at x0 x1
  clear hF hA hFA bx hg
  show Calls _ _ #[.agg #[F.o.val, F.t.val], _] w _
  go_enter Try.func67, Try.ntmps67
  go_wp2_with fail
  rw [show w.alloc (Obj.cells #[F.o.val, F.t.val] 29) = wA from HA.out.symm]
  refine (show Calls _ _ _ _ _ from CT.out).mono ?_
  rintro e W1 ⟨rfl, hb1⟩
  clear x0 x1
  cases g with
  | false =>
    go_wp2
    go_ret
    exact ⟨rfl, hbA.trans (hb1.mono hbA.size)⟩
  | true =>
    go_wp2
    go_ret
    exact ⟨by rw [Bool.true_and]; first | rfl | (congr 2; rw [Bool.eq_iff_iff]; simp), hbA.trans (hb1.mono hbA.size)⟩

/-- What AreFarClients answers. -/
def Fars (F : Fld) (l : List Int) (r : Int) (v b : Bool) : Prop :=
  ((F.good && (setB F.t.R.length l && decide (0 ≤ r))) = false ∧ v = false ∧ b = false) ∨ (∃ T, F.good = true ∧ l = up T ∧ setB F.t.R.length l = true ∧ (∀ j ∈ T, j < F.t.R.length) ∧ 0 ≤ r ∧ v = farUp F r T T.length ∧ b = true)
theorem fars_no {F : Fld} {l : List Int} {r : Int} {v b : Bool} (h : Fars F l r v b) (hn : F.good = false ∨ setB F.t.R.length l = false ∨ r < 0) : v = false ∧ b = false := by
  rcases h with ⟨_, h2⟩ | ⟨T, h1, _, h3, _, h5, _⟩
  · exact h2
  · rcases hn with hn | hn | hn
    · rw [h1] at hn; cases hn
    · rw [h3] at hn; cases hn
    · omega
theorem fars_yes {F : Fld} {l : List Int} {r : Int} {v b : Bool} (h : Fars F l r v b) (h1 : F.good = true) (h2 : setB F.t.R.length l = true) (h3 : 0 ≤ r) : ∃ T, l = up T ∧ (∀ j ∈ T, j < F.t.R.length) ∧ v = farUp F r T T.length ∧ b = true := by
  rcases h with ⟨h, _⟩ | ⟨T, _, h5, _, h6, _, h7, h8⟩
  · rw [h1, h2, decide_eq_true h3] at h; cases h
  · exact ⟨T, h5, h6, h7, h8⟩
theorem fars_some (F : Fld) (l : List Int) (r : Int) : ∃ v b, Fars F l r v b := by
  by_cases h : (F.good && (setB F.t.R.length l && decide (0 ≤ r))) = true
  · simp only [Bool.and_eq_true, decide_eq_true_eq] at h
    obtain ⟨T, hT, hl⟩ := set_nat h.2.1
    exact ⟨_, _, .inr ⟨T, h.1, hT, h.2.1, hl, h.2.2, rfl, rfl⟩⟩
  · exact ⟨_, _, .inl ⟨by simpa using h, rfl, rfl⟩⟩
theorem far_rows {F G : Fld} (h : F.Like G) : F.t.R.length = G.t.R.length := by have := congrArg List.length h.2; rw [con_length, con_length] at this; exact this
theorem fars_like {F G : Fld} {l : List Int} {r : Int} {v b : Bool} (h : Fars F l r v b) (hl : G.Like F) : Fars G l r v b := by
  rcases h with ⟨h1, h2⟩ | ⟨T, h1, h2, h3, h4, h5, h6, h7⟩
  · exact .inl ⟨by rw [hl.good, far_rows hl]; exact h1, h2⟩
  · exact .inr ⟨T, by rw [hl.good]; exact h1, h2, by rw [far_rows hl]; exact h3, by rw [far_rows hl]; exact h4, h5, by rw [farUp_like hl]; exact h6, h7⟩

set_option maxHeartbeats 1000000 in
theorem implAreFar_any (F : Fld) (s : Row) (r : Int) (w : World) (hF : F.At w) (hs : s.At w) (hsm : s.l.length ≤ 1048576) (v b : Bool) (hv : Fars F s.l r v b) :
    Calls Try.prog 30 #[F.val, .slice s.a s.l.length s.c, .int .i64 r] w fun e w' => e = .returned (.tuple #[.bool v, .bool b]) ∧ Below w.heap.size w w' := by
  obtain ⟨wA, hA, hbA, bx, hFA, hszA⟩ := laid_fld F w 29 hF
  have HSA := Lib.hid (hs.on hbA)
  have HFA := Lib.hid hFA
  have HBX := Lib.hid bx
  have HA := Lib.hid hA
  have HV := Lib.hid hv
  obtain ⟨g, hg⟩ : ∃ g, g = (F.good && decide (0 ≤ r)) := ⟨_, rfl⟩
  have CT := Lib.hid (by have := hasRadius_any F r wA hFA; rw [← hg] at this; exact this)
  have HG := Lib.hid hg
  obtain ⟨h1, h2, _⟩ := hFA.2.1
  rw [tv_length] at h1
  have hRi : (F.t.R.length : Int) ≤ 9223372036854775807 := by unfold maxLen at h2; omega
  have CA := Lib.hid (fun u (hu : Below wA.heap.size wA u) => ascends_any s F.t.R.length u (HSA.out.on hu) hRi)
  have x0 := bx.c0
  have x1 := bx.c1
  rw [hA] at x0 x1
  clear hF hs hA hFA bx hg hv h1 h2
  show Calls _ _ #[.agg #[F.o.val, F.t.val], _, _] w _
  go_enter Try.func30, Try.ntmps30
  go_wp2_with fail
  rw [show w.alloc (Obj.cells #[F.o.val, F.t.val] 29) = wA from HA.out.symm]
  refine (show Calls _ _ _ _ _ from CT.out).mono ?_
  rintro e W1 ⟨rfl, hb1⟩
  clear x0 x1
  cases g with
  | false =>
    obtain ⟨rfl, rfl⟩ := fars_no HV.out (by
      have := HG.out
      by_cases e : F.good = true
      · right; right; rw [e] at this; simp at this; omega
      · left; simpa using e)
    go_wp2
    go_ret2
    exact ⟨rfl, hbA.trans (hb1.mono hbA.size)⟩
  | true =>
    have hgr : F.good = true ∧ 0 ≤ r := by have := HG.out.symm; simpa using this
    have HGR := Lib.hid hgr
    have y0 := (HBX.out.on hb1).c0
    have y1 : W1.cell? ⟨w.heap.size, 1, none⟩ = some (.slice F.t.a F.t.R.length F.t.c) := (HBX.out.on hb1).c1
    obtain ⟨c, hc⟩ : ∃ c, c = setB F.t.R.length s.l := ⟨_, rfl⟩
    have CA1 := Lib.hid (by have := CA.out W1 hb1; rw [← hc] at this; exact this)
    have HC := Lib.hid hc
    have HB1 := Lib.hid hb1
    clear hc hgr hb1
    go_wp2_with fail
    refine (show Calls _ _ _ _ _ from CA1.out).mono ?_
    rintro e W ⟨rfl, rfl⟩
    cases c with
    | false =>
      obtain ⟨rfl, rfl⟩ := fars_no HV.out (.inr (.inl HC.out.symm))
      go_wp2
      go_ret2
      exact ⟨rfl, hbA.trans (HB1.out.mono hbA.size)⟩
    | true =>
      obtain ⟨T, hT, hlt, hvv, rfl⟩ := fars_yes HV.out HGR.out.1 HC.out.symm HGR.out.2
      have CF := Lib.hid (by have := areFar_any F s T r W (HFA.out.on HB1.out) (HSA.out.on HB1.out) HGR.out.1 hT hlt hsm; rw [← hvv] at this; exact this)
      clear hT hlt hvv
      go_wp2_with fail
      refine (show Calls _ _ _ _ _ from CF.out).mono ?_
      rintro e W3 ⟨rfl, hb3⟩
      go_wp2
      go_ret2
      exact ⟨rfl, hbA.trans ((HB1.out.trans (hb3.mono HB1.out.size)).mono hbA.size)⟩

set_option maxHeartbeats 1000000 in
theorem specAreFar_any (F : Fld) (s : Row) (r : Int) (w : World) (hF : F.At w) (hs : s.At w) (hsm : s.l.length ≤ 1048576) (v b : Bool) (hv : Fars F s.l r v b) :
    Calls Try.prog 29 #[F.val, .slice s.a s.l.length s.c, .int .i64 r] w fun e w' => e = .returned (.tuple #[.bool v, .bool b]) ∧ Below w.heap.size w w' := by
  obtain ⟨wA, hA, hbA, bx, hFA, hszA⟩ := laid_fld F w 29 hF
  have HSA := Lib.hid (hs.on hbA)
  have HFA := Lib.hid hFA
  have HBX := Lib.hid bx
  have HA := Lib.hid hA
  have HV := Lib.hid hv
  obtain ⟨g, hg⟩ : ∃ g, g = F.good := ⟨_, rfl⟩
  have CT := Lib.hid (by have := l2Good_any F wA hFA; rw [← hg] at this; exact this)
  have HG := Lib.hid hg
  obtain ⟨h1, h2, _⟩ := hFA.2.1
  rw [tv_length] at h1
  have hRi : (F.t.R.length : Int) ≤ 9223372036854775807 := by unfold maxLen at h2; omega
  have wl : IntKind.i64.wrap ((F.t.R.length : Int) - 1) = (F.t.R.length : Int) - 1 := IntWalk.i64_in _ (by omega)
  have CA := Lib.hid (fun u (hu : Below wA.heap.size wA u) => rising_any s F.t.R.length u (HSA.out.on hu) hRi)
  have x0 := bx.c0
  have x1 := bx.c1
  rw [hA] at x0 x1
  clear hF hs hA hFA bx hg hv h1 h2
  show Calls _ _ #[.agg #[F.o.val, F.t.val], _, _] w _
  go_enter Try.func29, Try.ntmps29
  go_wp2_with fail
  rw [show w.alloc (Obj.cells #[F.o.val, F.t.val] 29) = wA from HA.out.symm]
  refine (show Calls _ _ _ _ _ from CT.out).mono ?_
  rintro e W1 ⟨rfl, hb1⟩
  clear x0 x1
  cases g with
  | false =>
    obtain ⟨rfl, rfl⟩ := fars_no HV.out (.inl HG.out.symm)
    go_wp2
    go_ret2
    exact ⟨rfl, hbA.trans (hb1.mono hbA.size)⟩
  | true =>
    have y0 := (HBX.out.on hb1).c0
    have y1 : W1.cell? ⟨w.heap.size, 1, none⟩ = some (.slice F.t.a F.t.R.length F.t.c) := (HBX.out.on hb1).c1
    obtain ⟨c, hc⟩ : ∃ c, c = setB F.t.R.length s.l := ⟨_, rfl⟩
    have CA1 := Lib.hid (by have := CA.out W1 hb1; rw [← hc] at this; exact this)
    have HC := Lib.hid hc
    have HB1 := Lib.hid hb1
    clear hc hb1
    go_wp2_with fail
    refine (show Calls _ _ _ _ _ from CA1.out).mono ?_
    rintro e W2 ⟨rfl, hd⟩
    have HB2 := Lib.hid (HB1.out.trans (hd.below.mono HB1.out.size))
    have hd2 := hd.below
    have z0 := (HBX.out.on HB2.out).c0
    have z1 := (HBX.out.on HB2.out).c1
    clear hd hd2 y0 y1
    cases c with
    | false =>
      obtain ⟨rfl, rfl⟩ := fars_no HV.out (.inr (.inl HC.out.symm))
      go_wp2
      go_ret2
      exact ⟨rfl, hbA.trans (HB2.out.mono hbA.size)⟩
    | true =>
      by_cases hr0 : r < 0
      · obtain ⟨rfl, rfl⟩ := fars_no HV.out (.inr (.inr hr0))
        go_wp2
        go_ret2
        exact ⟨rfl, hbA.trans (HB2.out.mono hbA.size)⟩
      · obtain ⟨T, hT, hlt, hvv, rfl⟩ := fars_yes HV.out HG.out.symm HC.out.symm (by omega)
        have CF := Lib.hid (by have := l5Far_any F s T r W2 (HFA.out.on HB2.out) (HSA.out.on HB2.out) HG.out.symm hT hlt hsm; rw [← hvv] at this; exact this)
        clear hT hlt hvv
        go_wp2_with fail
        refine (show Calls _ _ _ _ _ from CF.out).mono ?_
        rintro e W3 ⟨rfl, hb3⟩
        go_wp2
        go_ret2
        exact ⟨rfl, hbA.trans ((HB2.out.trans (hb3.mono HB2.out.size)).mono hbA.size)⟩

theorem areFarClients_pair (F : Fld) (s : Row) (r : Int) (_ : (Lit.int .i64 r).wf = true) (_ : F.Small) (hsm : s.l.length ≤ 1048576) : ∃ (v b : Bool),
    (∀ (G : Fld) (t : Row) (W : World), G.At W → t.At W → G.Like F → t.l = s.l → Calls Try.prog 29 #[G.val, .slice t.a t.l.length t.c, .int .i64 r] W (PBool2 v b W)) ∧
    (∀ (G : Fld) (t : Row) (W : World), G.At W → t.At W → G.Like F → t.l = s.l → Calls Try.prog 30 #[G.val, .slice t.a t.l.length t.c, .int .i64 r] W (PBool2 v b W)) := by
  obtain ⟨v, b, h⟩ := fars_some F s.l r
  exact ⟨v, b, fun G t W hG ht hl hs => specAreFar_any G t r W hG ht (by rw [hs]; exact hsm) v b (by rw [hs]; exact fars_like h hl), fun G t W hG ht hl hs => implAreFar_any G t r W hG ht (by rw [hs]; exact hsm) v b (by rw [hs]; exact fars_like h hl)⟩
end Go.Proofs.Ytlnompeojhaigaa
