/- ObjectiveOf on both sides, as its law wants it. No condition. -/
import Derived.Test.YtmcobaclagmaoaaObjImpl
namespace Go.Proofs.Ytmcobaclagmaoaa
open Go.RowKit

/-- What ObjectiveOf answers. -/
def ObjIs (F : Fld) (s : Row) (k v : Int) (b : Bool) : Prop :=
  ((twoB F s && isObj k) = false ∧ v = 0 ∧ b = false) ∨ ∃ T, Fine F s T ∧ Able F s T ∧ twoB F s = true ∧ isObj k = true ∧ v = objV F T k ∧ b = true
theorem objIs_some (F : Fld) (s : Row) (k : Int) (hs : s.l.length ≤ 1048576) : ∃ v b, ObjIs F s k v b := by
  by_cases h : (twoB F s && isObj k) = true
  · have h' := h
    simp only [Bool.and_eq_true] at h'
    obtain ⟨T, hT⟩ := fine_of h'.1
    exact ⟨_, _, .inr ⟨T, hT, ⟨hT.good, hT.set, hT.lt, by have := congrArg List.length hT.set; rw [up_length] at this; omega⟩, h'.1, h'.2, rfl, rfl⟩⟩
  · exact ⟨_, _, .inl ⟨by simpa using h, rfl, rfl⟩⟩
theorem objIs_like {F G : Fld} {s t : Row} {k v : Int} {b : Bool} (h : ObjIs F s k v b) (hl : G.Like F) (hs : t.l = s.l) : ObjIs G t k v b := by
  rcases h with ⟨h1, h2⟩ | ⟨T, h1, h2, h3, h4, h5, h6⟩
  · exact .inl ⟨by rw [twoB_like hl hs]; exact h1, h2⟩
  · exact .inr ⟨T, fine_like h1 hl hs, ⟨hl.good.trans h2.good, hs.trans h2.set, by rw [hl.1]; exact h2.lt, h2.few⟩, by rw [twoB_like hl hs]; exact h3, h4, by rw [objV_like hl]; exact h5, h6⟩

set_option maxRecDepth 16000 in
set_option maxHeartbeats 1500000 in
theorem specObj_any (F : Fld) (s : Row) (k : Int) (w : World) (hF : F.At w) (hs : s.At w) (v : Int) (b : Bool) (hv : ObjIs F s k v b) :
    Calls Try.prog 7 #[F.val, .slice s.a s.l.length s.c, .int .i64 k] w (PInt v b w) := by
  obtain ⟨wA, hA, hbA, bx, hFA, hszA⟩ := laid_fld F w 29 hF
  obtain ⟨g, hg⟩ : ∃ g, g = twoB F s := ⟨_, rfl⟩
  obtain ⟨u, hu⟩ : ∃ u, u = isObj k := ⟨_, rfl⟩
  have C2 := Lib.hid (by have := l2Two_any F s wA hFA (hs.on hbA); rw [← hg] at this; exact this)
  have C3 := Lib.hid (fun W => (by have := l11Objective_any k W; rw [show (decide (1 ≤ k) && decide (k ≤ 5)) = isObj k from rfl, ← hu] at this; exact this : Calls Try.prog 23 #[.int .i64 k] W fun e w' => e = .returned (.bool u) ∧ w' = W))
  have HFA := Lib.hid hFA
  have HSA := Lib.hid (hs.on hbA)
  have HBX := Lib.hid bx
  have HA := Lib.hid hA
  have HNO : Hid ((g && u) = false → v = 0 ∧ b = false) := Lib.hid fun h => by
    rcases hv with ⟨_, h1, h2⟩ | ⟨_, _, _, h1, h2, _⟩
    · exact ⟨h1, h2⟩
    · rw [hg, hu, h1, h2] at h; cases h
  have HYES : Hid ((g && u) = true → ∃ T, Fine F s T ∧ Able F s T ∧ v = objV F T k ∧ b = true) := Lib.hid fun h => by
    rcases hv with ⟨h1, _, _⟩ | ⟨T, h1, h2, _, _, h5, h6⟩
    · rw [hg, hu, h1] at h; cases h
    · exact ⟨T, h1, h2, h5, h6⟩
  have HUK : Hid (u = true → 1 ≤ k ∧ k ≤ 5) := Lib.hid fun h => isObj_yes (hu.symm.trans h)
  have y0 := bx.c0
  have y1 := bx.c1
  rw [hA] at y0 y1
  clear hF hs hA hFA bx hg hu hv hszA
  show Calls _ _ #[.agg #[F.o.val, F.t.val], _, _] w fun e w' => e = .returned (.tuple #[.int .i64 v, .bool b]) ∧ Below w.heap.size w w'
  cases g with
  | false =>
    obtain ⟨rfl, rfl⟩ := HNO.out rfl
    clear HNO HYES
    go_enter Try.func7, Try.ntmps7
    go_wp2_with fail
    rw [← HA.out]
    refine (show Calls _ _ _ _ _ from C2.out).mono ?_
    rintro e W ⟨rfl, hb⟩
    clear y0 y1
    go_wp2
    go_ret2
    exact ⟨rfl, hbA.trans (hb.mono hbA.size)⟩
  | true =>
    cases u with
    | false =>
      obtain ⟨rfl, rfl⟩ := HNO.out rfl
      clear HNO HYES
      go_enter Try.func7, Try.ntmps7
      go_wp2_with fail
      rw [← HA.out]
      refine (show Calls _ _ _ _ _ from C2.out).mono ?_
      rintro e W ⟨rfl, hb⟩
      clear y0 y1
      go_wp2_with fail
      refine (show Calls _ _ _ _ _ from C3.out W).mono ?_
      rintro e W2 ⟨rfl, rfl⟩
      go_wp2
      go_ret2
      exact ⟨rfl, hbA.trans (hb.mono hbA.size)⟩
    | true =>
      obtain ⟨T, hf, ha, hvT, hbt⟩ := HYES.out rfl
      subst hbt
      have CV := Lib.hid (fun W (hb : Below wA.heap.size wA W) => (by have := l11Value_any F s T k W (HFA.out.on hb) (HSA.out.on hb) hf ha (HUK.out rfl); rw [← hvT] at this; exact this : Calls Try.prog 24 #[F.val, .slice s.a s.l.length s.c, .int .i64 k] W fun e w' => e = .returned (.int .i64 v) ∧ Below W.heap.size W w'))
      clear HNO HYES hf ha hvT HUK
      go_enter Try.func7, Try.ntmps7
      go_wp2_with fail
      rw [← HA.out]
      refine (show Calls _ _ _ _ _ from C2.out).mono ?_
      rintro e W ⟨rfl, hb⟩
      clear y0 y1
      have y0 := (HBX.out.on hb).c0
      have y1 := (HBX.out.on hb).c1
      go_wp2_with fail
      refine (show Calls _ _ _ _ _ from C3.out W).mono ?_
      rintro e W2 ⟨rfl, rfl⟩
      go_wp2_with fail
      refine (show Calls _ _ _ _ _ from CV.out _ hb).mono ?_
      rintro e W3 ⟨rfl, hb3⟩
      clear y0 y1
      have hbw := hbA.trans (hb.mono hbA.size)
      go_wp2
      go_ret2
      exact ⟨rfl, hbw.trans (hb3.mono hbw.size)⟩

set_option maxRecDepth 16000 in
set_option maxHeartbeats 3000000 in
theorem implObj_any (F : Fld) (s : Row) (k : Int) (w : World) (hF : F.At w) (hs : s.At w) (v : Int) (b : Bool) (hv : ObjIs F s k v b) :
    Calls Try.prog 10 #[F.val, .slice s.a s.l.length s.c, .int .i64 k] w (PInt v b w) := by
  obtain ⟨wA, hA, hbA, bx, hFA, hszA⟩ := laid_fld F w 29 hF
  obtain ⟨g, hg⟩ : ∃ g, g = twoB F s := ⟨_, rfl⟩
  obtain ⟨u, hu⟩ : ∃ u, u = (F.good && isObj k) := ⟨_, rfl⟩
  have C1 := Lib.hid (by have := objectiveFor_any F k wA hFA; unfold ObjPost at this; rw [← hu] at this; exact this)
  have C2 := Lib.hid (fun W (hb : Below wA.heap.size wA W) => (by have := canServe_any F s W (hFA.on hb) ((hs.on hbA).on hb); rw [← hg] at this; exact this : Calls Try.prog 27 #[F.val, .slice s.a s.l.length s.c] W fun e w' => e = .returned (.bool g) ∧ Below W.heap.size W w'))
  have HFA := Lib.hid hFA
  have HSA := Lib.hid (hs.on hbA)
  have HBX := Lib.hid bx
  have HA := Lib.hid hA
  have HGU : Hid (twoB F s = true → F.good = true) := Lib.hid fun h => (twoB_iff.1 h).1
  have HNO : Hid ((u && g) = false → v = 0 ∧ b = false) := Lib.hid fun h => by
    rcases hv with ⟨_, h1, h2⟩ | ⟨_, _, _, h1, h2, _⟩
    · exact ⟨h1, h2⟩
    · rw [hg, hu, h1, h2, HGU.out h1] at h; cases h
  have HYES : Hid ((u && g) = true → ∃ T, Fine F s T ∧ Able F s T ∧ v = objV F T k ∧ b = true) := Lib.hid fun h => by
    rcases hv with ⟨h1, _, _⟩ | ⟨T, h1, h2, _, _, h5, h6⟩
    · simp only [Bool.and_eq_true] at h
      rw [hg, hu] at h
      simp only [Bool.and_eq_true] at h
      rw [h.1.2, h.2] at h1; cases h1
    · exact ⟨T, h1, h2, h5, h6⟩
  have y0 := bx.c0
  have y1 := bx.c1
  rw [hA] at y0 y1
  clear hF hs hA hFA bx hg hu hv hszA
  show Calls _ _ #[.agg #[F.o.val, F.t.val], _, _] w fun e w' => e = .returned (.tuple #[.int .i64 v, .bool b]) ∧ Below w.heap.size w w'
  cases u with
  | false =>
    obtain ⟨rfl, rfl⟩ := HNO.out rfl
    clear HNO HYES
    go_enter Try.func10, Try.ntmps10
    go_wp2_with fail
    rw [← HA.out]
    refine (show Calls _ _ _ _ _ from C1.out).mono ?_
    rintro e W ⟨f, rfl, -, -, hb⟩
    clear y0 y1
    go_wp2
    go_ret2
    exact ⟨rfl, hbA.trans (hb.mono hbA.size)⟩
  | true =>
    cases g with
    | false =>
      obtain ⟨rfl, rfl⟩ := HNO.out rfl
      clear HNO HYES
      go_enter Try.func10, Try.ntmps10
      go_wp2_with fail
      rw [← HA.out]
      refine (show Calls _ _ _ _ _ from C1.out).mono ?_
      rintro e W ⟨f, rfl, -, -, hb⟩
      clear y0 y1
      have y0 := (HBX.out.on hb).c0
      have y1 := (HBX.out.on hb).c1
      go_wp2_with fail
      refine (show Calls _ _ _ _ _ from C2.out _ hb).mono ?_
      rintro e W2 ⟨rfl, hb2⟩
      clear y0 y1
      have hbw := hbA.trans (hb.mono hbA.size)
      go_wp2
      go_ret2
      exact ⟨rfl, hbw.trans (hb2.mono hbw.size)⟩
    | true =>
      obtain ⟨T, hf, ha, hvT, hbt⟩ := HYES.out rfl
      subst hbt
      have D1 := Lib.hid (fun (g : Nat) (W : World) (hb : Below wA.heap.size wA W) (bx : Box2 W g F.o.val F.t.val 29) => objFn1_any F s T g W (HFA.out.on hb) (HSA.out.on hb) hf ha bx)
      have D2 := Lib.hid (fun (g : Nat) (W : World) (hb : Below wA.heap.size wA W) (bx : Box2 W g F.o.val F.t.val 29) => objFn2_any F s T g W (HFA.out.on hb) (HSA.out.on hb) hf ha bx)
      have D3 := Lib.hid (fun (g : Nat) (W : World) (hb : Below wA.heap.size wA W) (bx : Box2 W g F.o.val F.t.val 29) => objFn3_any F s T g W (HFA.out.on hb) (HSA.out.on hb) hf ha bx)
      have D4 := Lib.hid (fun (g : Nat) (W : World) (hb : Below wA.heap.size wA W) (bx : Box2 W g F.o.val F.t.val 29) => objFn4_any F s T g W (HFA.out.on hb) (HSA.out.on hb) hf ha bx)
      have D5 := Lib.hid (fun (W : World) (hb : Below wA.heap.size wA W) => objFn5_any F s T W (HSA.out.on hb) hf)
      have HVT := Lib.hid hvT
      clear HNO HYES hf ha hvT
      go_enter Try.func10, Try.ntmps10
      go_wp2_with fail
      rw [← HA.out]
      refine (show Calls _ _ _ _ _ from C1.out).mono ?_
      rintro e W ⟨f, rfl, hfn, hbx, hb⟩
      clear y0 y1
      have y0 := (HBX.out.on hb).c0
      have y1 := (HBX.out.on hb).c1
      have HBF := Lib.hid hbx
      have HB := Lib.hid hb
      have hbw := hbA.trans (hb.mono hbA.size)
      rcases hfn (by first | rfl | trivial) with ⟨rfl, rfl⟩ | ⟨rfl, rfl⟩ | ⟨rfl, rfl⟩ | ⟨rfl, rfl⟩ | ⟨rfl, rfl⟩
      · go_wp2_with fail
        refine (show Calls _ _ _ _ _ from C2.out _ HB.out).mono ?_
        rintro e W2 ⟨rfl, hb2⟩
        clear y0 y1
        have CD := Lib.hid (by have := D1.out _ _ (HB.out.trans (hb2.mono HB.out.size)) (HBF.out.on hb2); rw [← HVT.out] at this; exact this)
        have hbw2 := hbw.trans (hb2.mono hbw.size)
        go_wp2_with fail
        refine (show Calls _ _ _ _ _ from CD.out).mono ?_
        rintro e W3 ⟨rfl, hb3⟩
        go_wp2
        go_ret2
        exact ⟨rfl, hbw2.trans (hb3.mono hbw2.size)⟩
      · go_wp2_with fail
        refine (show Calls _ _ _ _ _ from C2.out _ HB.out).mono ?_
        rintro e W2 ⟨rfl, hb2⟩
        clear y0 y1
        have CD := Lib.hid (by have := D2.out _ _ (HB.out.trans (hb2.mono HB.out.size)) (HBF.out.on hb2); rw [← HVT.out] at this; exact this)
        have hbw2 := hbw.trans (hb2.mono hbw.size)
        go_wp2_with fail
        refine (show Calls _ _ _ _ _ from CD.out).mono ?_
        rintro e W3 ⟨rfl, hb3⟩
        go_wp2
        go_ret2
        exact ⟨rfl, hbw2.trans (hb3.mono hbw2.size)⟩
      · go_wp2_with fail
        refine (show Calls _ _ _ _ _ from C2.out _ HB.out).mono ?_
        rintro e W2 ⟨rfl, hb2⟩
        clear y0 y1
        have CD := Lib.hid (by have := D3.out _ _ (HB.out.trans (hb2.mono HB.out.size)) (HBF.out.on hb2); rw [← HVT.out] at this; exact this)
        have hbw2 := hbw.trans (hb2.mono hbw.size)
        go_wp2_with fail
        refine (show Calls _ _ _ _ _ from CD.out).mono ?_
        rintro e W3 ⟨rfl, hb3⟩
        go_wp2
        go_ret2
        exact ⟨rfl, hbw2.trans (hb3.mono hbw2.size)⟩
      · go_wp2_with fail
        refine (show Calls _ _ _ _ _ from C2.out _ HB.out).mono ?_
        rintro e W2 ⟨rfl, hb2⟩
        clear y0 y1
        have CD := Lib.hid (by have := D4.out _ _ (HB.out.trans (hb2.mono HB.out.size)) (HBF.out.on hb2); rw [← HVT.out] at this; exact this)
        have hbw2 := hbw.trans (hb2.mono hbw.size)
        go_wp2_with fail
        refine (show Calls _ _ _ _ _ from CD.out).mono ?_
        rintro e W3 ⟨rfl, hb3⟩
        go_wp2
        go_ret2
        exact ⟨rfl, hbw2.trans (hb3.mono hbw2.size)⟩
      · go_wp2_with fail
        refine (show Calls _ _ _ _ _ from C2.out _ HB.out).mono ?_
        rintro e W2 ⟨rfl, hb2⟩
        clear y0 y1
        have CD := Lib.hid (by have := D5.out _ (HB.out.trans (hb2.mono HB.out.size)); rw [← HVT.out] at this; exact this)
        have hbw2 := hbw.trans (hb2.mono hbw.size)
        go_wp2_with fail
        refine (show Calls _ _ _ _ _ from CD.out).mono ?_
        rintro e W3 ⟨rfl, hb3⟩
        go_wp2
        go_ret2
        exact ⟨rfl, hbw2.trans (hb3.mono hbw2.size)⟩

theorem objectiveOf_pair {Q : Prop} (F : Fld) (s : Row) (k : Int) (_ : Q) (_ : F.Small) (hs : s.l.length ≤ 1048576) : ∃ (v : Int) (b : Bool),
    (∀ (G : Fld) (t : Row) (W : World), G.At W → t.At W → G.Like F → t.l = s.l → Calls Try.prog 7 #[G.val, .slice t.a t.l.length t.c, .int .i64 k] W (PInt v b W)) ∧
    (∀ (G : Fld) (t : Row) (W : World), G.At W → t.At W → G.Like F → t.l = s.l → Calls Try.prog 10 #[G.val, .slice t.a t.l.length t.c, .int .i64 k] W (PInt v b W)) := by
  obtain ⟨v, b, h⟩ := objIs_some F s k hs
  exact ⟨v, b, fun G t W hG ht hl he => specObj_any G t k W hG ht v b (objIs_like h hl he), fun G t W hG ht hl he => implObj_any G t k W hG ht v b (objIs_like h hl he)⟩
end Go.Proofs.Ytmcobaclagmaoaa
