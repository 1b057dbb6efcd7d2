/- OrderedValue on both sides, as its law wants it. No condition. -/
import Derived.Test.YtmcobaclagmaoaaOrdImpl
import Derived.Test.YtmcobaclagmaoaaPairServiceOf
namespace Go.Proofs.Ytmcobaclagmaoaa
open Go.RowKit

theorem rowB_iffO {n : Nat} {l : List Int} (h : rowB n l = true) : l.all (upTo 99) = true ∧ l.length = n := by unfold rowB at h; simpa using h
/-- What OrderedValue answers. -/
def OrdIs (F : Fld) (s r : Row) (v : Int) (b : Bool) : Prop :=
  ((twoB F s && rowB F.t.R.length r.l) = false ∧ v = 0 ∧ b = false) ∨ ∃ T, Fine F s T ∧ twoB F s = true ∧ rowB F.t.R.length r.l = true ∧ v = ordT F r.l T ∧ b = true
theorem ordIs_some (F : Fld) (s r : Row) : ∃ v b, OrdIs F s r v b := by
  by_cases h : (twoB F s && rowB F.t.R.length r.l) = true
  · have h' := h
    simp only [Bool.and_eq_true] at h'
    obtain ⟨T, hT⟩ := fine_of h'.1
    exact ⟨_, _, .inr ⟨T, hT, h'.1, h'.2, rfl, rfl⟩⟩
  · exact ⟨_, _, .inl ⟨by simpa using h, rfl, rfl⟩⟩
theorem ordIs_like {F G : Fld} {s t r q : Row} {v : Int} {b : Bool} (h : OrdIs F s r v b) (hl : G.Like F) (hs : t.l = s.l) (hr : q.l = r.l) : OrdIs G t q v b := by
  have hn : G.t.R.length = F.t.R.length := by have := congrArg List.length hl.2; rw [con_length, con_length] at this; exact this
  rcases h with ⟨h1, h2⟩ | ⟨T, h1, h2, h3, h4, h5⟩
  · exact .inl ⟨by rw [twoB_like hl hs, hn, hr]; exact h1, h2⟩
  · exact .inr ⟨T, fine_like h1 hl hs, by rw [twoB_like hl hs]; exact h2, by rw [hn, hr]; exact h3, by unfold ordT; rw [hl.2, hr]; exact h4, h5⟩


set_option maxRecDepth 16000 in
set_option maxHeartbeats 1500000 in
theorem specOrd_any (F : Fld) (s r : Row) (w : World) (hF : F.At w) (hs : s.At w) (hr : r.At w) (v : Int) (b : Bool) (hv : OrdIs F s r v b) :
    Calls Try.prog 13 #[F.val, .slice s.a s.l.length s.c, .slice r.a r.l.length r.c] w (PInt v b w) := by
  obtain ⟨wA, hA, hbA, bx, hFA, hszA⟩ := laid_fld F w 29 hF
  obtain ⟨g, hg⟩ : ∃ g, g = twoB F s := ⟨_, rfl⟩
  obtain ⟨u, hu⟩ : ∃ u, u = rowB F.t.R.length r.l := ⟨_, rfl⟩
  have HFA := Lib.hid hFA
  have HSA := Lib.hid (hs.on hbA)
  have HRA := Lib.hid (hr.on hbA)
  have HBX := Lib.hid bx
  have HA : Hid (wA = w.alloc (Obj.cells #[.slice F.o.a F.o.l.length F.o.c, .slice F.t.a F.t.R.length F.t.c] 29)) := Lib.hid hA
  have HGG : Hid (g = true → F.good = true) := Lib.hid fun h => (twoB_iff.1 (hg.symm.trans h)).1
  have C2 := Lib.hid (show Calls Try.prog 22 #[.agg #[.slice F.o.a F.o.l.length F.o.c, .slice F.t.a F.t.R.length F.t.c], .slice s.a s.l.length s.c] wA fun e w' => e = .returned (.bool g) ∧ Below wA.heap.size wA w' from by have := l2Two_any F s wA hFA HSA.out; rw [← hg] at this; exact this)
  have C3 := Lib.hid (fun W (hb : Below wA.heap.size wA W) => (by have := l2Row_any r F.t.R.length W (HRA.out.on hb); rw [← hu] at this; exact this.mono fun e w' ⟨h1, h2⟩ => ⟨h1, by rw [h2]; exact Below.refl _ _⟩ : Calls Try.prog 29 #[.slice r.a r.l.length r.c, .int .i64 (F.t.R.length : Int), .int .i64 99] W fun e w' => e = .returned (.bool u) ∧ Below W.heap.size W w'))
  have HNO : Hid ((g && u) = false → v = 0 ∧ b = false) := Lib.hid fun h => by
    rcases hv with ⟨_, h1, h2⟩ | ⟨_, _, h1, h2, _⟩
    · exact ⟨h1, h2⟩
    · rw [hg, hu, h1, h2] at h; cases h
  have HYES : Hid ((g && u) = true → ∃ T, Fine F s T ∧ v = ordT F r.l T ∧ b = true) := Lib.hid fun h => by
    rcases hv with ⟨h1, _, _⟩ | ⟨T, h1, _, _, h5, h6⟩
    · rw [hg, hu, h1] at h; cases h
    · exact ⟨T, h1, h5, h6⟩
  have HW : Hid (u = true → r.l.length = F.t.R.length ∧ ∀ x ∈ r.l, 0 ≤ x ∧ x ≤ 99) := Lib.hid fun h => by
    rw [h] at hu
    have h2 := rowB_iffO hu.symm
    exact ⟨h2.2, fun x hx => upTo_iff.1 (List.all_eq_true.1 h2.1 x hx)⟩
  have x0 : (w.alloc (Obj.cells #[.slice F.o.a F.o.l.length F.o.c, .slice F.t.a F.t.R.length F.t.c] 29)).cell? ⟨w.heap.size, 0, none⟩ = some (.slice F.o.a F.o.l.length F.o.c) := by rw [← HA.out]; exact bx.c0
  have x1 : (w.alloc (Obj.cells #[.slice F.o.a F.o.l.length F.o.c, .slice F.t.a F.t.R.length F.t.c] 29)).cell? ⟨w.heap.size, 1, none⟩ = some (.slice F.t.a F.t.R.length F.t.c) := by rw [← HA.out]; exact bx.c1
  clear hF hs hr hA hFA bx hg hu hv hszA
  show Calls _ _ #[.agg #[.slice F.o.a F.o.l.length F.o.c, .slice F.t.a F.t.R.length F.t.c], _, _] w fun e w' => e = .returned (.tuple #[.int .i64 v, .bool b]) ∧ Below w.heap.size w w'
  cases g with
  | false =>
    obtain ⟨rfl, rfl⟩ := HNO.out rfl
    clear HNO HYES
    go_enter Try.func13, Try.ntmps13
    go_wp2_with fail
    rw [← HA.out]
    refine (show Calls _ _ _ _ _ from C2.out).mono ?_
    rintro e W ⟨rfl, hb⟩
    clear x0 x1
    go_wp2
    go_ret2
    exact ⟨rfl, hbA.trans (hb.mono hbA.size)⟩
  | true =>
    cases u with
    | false =>
      obtain ⟨rfl, rfl⟩ := HNO.out rfl
      clear HNO HYES
      go_enter Try.func13, Try.ntmps13
      go_wp2_with fail
      rw [← HA.out]
      refine (show Calls _ _ _ _ _ from C2.out).mono ?_
      rintro e W ⟨rfl, hb⟩
      clear x0 x1
      have y0 : W.cell? ⟨w.heap.size, 0, none⟩ = some (.slice F.o.a F.o.l.length F.o.c) := (HBX.out.on hb).c0
      have y1 : W.cell? ⟨w.heap.size, 1, none⟩ = some (.slice F.t.a F.t.R.length F.t.c) := (HBX.out.on hb).c1
      have hbw := hbA.trans (hb.mono hbA.size)
      go_wp2_with fail
      refine (show Calls _ _ _ _ _ from C3.out W hb).mono ?_
      rintro e W2 ⟨rfl, hb2⟩
      clear y0 y1
      go_wp2
      go_ret2
      exact ⟨rfl, hbw.trans (hb2.mono hbw.size)⟩
    | true =>
      obtain ⟨T, hf, hvT, hbt⟩ := HYES.out rfl
      subst hbt
      have CV := Lib.hid (fun W (hb : Below wA.heap.size wA W) => (by have := l11Ordered_any F s r T W (HFA.out.on hb) (HSA.out.on hb) (HRA.out.on hb) hf (HW.out rfl).1 (HW.out rfl).2; rw [← hvT] at this; exact this : Calls Try.prog 30 #[.agg #[.slice F.o.a F.o.l.length F.o.c, .slice F.t.a F.t.R.length F.t.c], .slice s.a s.l.length s.c, .slice r.a r.l.length r.c] W fun e w' => e = .returned (.int .i64 v) ∧ Below W.heap.size W w'))
      clear HNO HYES hf hvT
      go_enter Try.func13, Try.ntmps13
      go_wp2_with fail
      rw [← HA.out]
      refine (show Calls _ _ _ _ _ from C2.out).mono ?_
      rintro e W ⟨rfl, hb⟩
      clear x0 x1
      have y0 : W.cell? ⟨w.heap.size, 0, none⟩ = some (.slice F.o.a F.o.l.length F.o.c) := (HBX.out.on hb).c0
      have y1 : W.cell? ⟨w.heap.size, 1, none⟩ = some (.slice F.t.a F.t.R.length F.t.c) := (HBX.out.on hb).c1
      have hbw := hbA.trans (hb.mono hbA.size)
      go_wp2_with fail
      refine (show Calls _ _ _ _ _ from C3.out W hb).mono ?_
      rintro e W2 ⟨rfl, hb2⟩
      clear y0 y1
      have hb12 := hb.trans (hb2.mono hb.size)
      have y0 : W2.cell? ⟨w.heap.size, 0, none⟩ = some (.slice F.o.a F.o.l.length F.o.c) := (HBX.out.on hb12).c0
      have y1 : W2.cell? ⟨w.heap.size, 1, none⟩ = some (.slice F.t.a F.t.R.length F.t.c) := (HBX.out.on hb12).c1
      have hbw2 := hbA.trans (hb12.mono hbA.size)
      go_wp2_with fail
      refine (show Calls _ _ _ _ _ from CV.out W2 hb12).mono ?_
      rintro e W3 ⟨rfl, hb3⟩
      clear y0 y1
      go_wp2
      go_ret2
      exact ⟨rfl, hbw2.trans (hb3.mono hbw2.size)⟩

set_option maxRecDepth 16000 in
set_option maxHeartbeats 1500000 in
theorem implOrd_any (F : Fld) (s r : Row) (w : World) (hF : F.At w) (hs : s.At w) (hr : r.At w) (v : Int) (b : Bool) (hv : OrdIs F s r v b) :
    Calls Try.prog 14 #[F.val, .slice s.a s.l.length s.c, .slice r.a r.l.length r.c] w (PInt v b w) := by
  obtain ⟨wA, hA, hbA, bx, hFA, hszA⟩ := laid_fld F w 29 hF
  obtain ⟨g, hg⟩ : ∃ g, g = twoB F s := ⟨_, rfl⟩
  obtain ⟨u, hu⟩ : ∃ u, u = rowB F.t.R.length r.l := ⟨_, rfl⟩
  have HFA := Lib.hid hFA
  have HSA := Lib.hid (hs.on hbA)
  have HRA := Lib.hid (hr.on hbA)
  have HBX := Lib.hid bx
  have HA : Hid (wA = w.alloc (Obj.cells #[.slice F.o.a F.o.l.length F.o.c, .slice F.t.a F.t.R.length F.t.c] 29)) := Lib.hid hA
  have HGG : Hid (g = true → F.good = true) := Lib.hid fun h => (twoB_iff.1 (hg.symm.trans h)).1
  have C2 := Lib.hid (show Calls Try.prog 27 #[.agg #[.slice F.o.a F.o.l.length F.o.c, .slice F.t.a F.t.R.length F.t.c], .slice s.a s.l.length s.c] wA fun e w' => e = .returned (.bool g) ∧ Below wA.heap.size wA w' from by have := canServe_any F s wA hFA HSA.out; rw [← hg] at this; exact this)
  have C3 := Lib.hid (fun W (hb : Below wA.heap.size wA W) (h : g = true) => (by have := areWeights_any F r W (HFA.out.on hb) (HRA.out.on hb) (HGG.out h); rw [← hu] at this; exact this : Calls Try.prog 31 #[.agg #[.slice F.o.a F.o.l.length F.o.c, .slice F.t.a F.t.R.length F.t.c], .slice r.a r.l.length r.c] W fun e w' => e = .returned (.bool u) ∧ Below W.heap.size W w'))
  have HNO : Hid ((g && u) = false → v = 0 ∧ b = false) := Lib.hid fun h => by
    rcases hv with ⟨_, h1, h2⟩ | ⟨_, _, h1, h2, _⟩
    · exact ⟨h1, h2⟩
    · rw [hg, hu, h1, h2] at h; cases h
  have HYES : Hid ((g && u) = true → ∃ T, Fine F s T ∧ v = ordT F r.l T ∧ b = true) := Lib.hid fun h => by
    rcases hv with ⟨h1, _, _⟩ | ⟨T, h1, _, _, h5, h6⟩
    · rw [hg, hu, h1] at h; cases h
    · exact ⟨T, h1, h5, h6⟩
  have HW : Hid (u = true → r.l.length = F.t.R.length ∧ ∀ x ∈ r.l, 0 ≤ x ∧ x ≤ 99) := Lib.hid fun h => by
    rw [h] at hu
    have h2 := rowB_iffO hu.symm
    exact ⟨h2.2, fun x hx => upTo_iff.1 (List.all_eq_true.1 h2.1 x hx)⟩
  have x0 : (w.alloc (Obj.cells #[.slice F.o.a F.o.l.length F.o.c, .slice F.t.a F.t.R.length F.t.c] 29)).cell? ⟨w.heap.size, 0, none⟩ = some (.slice F.o.a F.o.l.length F.o.c) := by rw [← HA.out]; exact bx.c0
  have x1 : (w.alloc (Obj.cells #[.slice F.o.a F.o.l.length F.o.c, .slice F.t.a F.t.R.length F.t.c] 29)).cell? ⟨w.heap.size, 1, none⟩ = some (.slice F.t.a F.t.R.length F.t.c) := by rw [← HA.out]; exact bx.c1
  clear hF hs hr hA hFA bx hg hu hv hszA
  show Calls _ _ #[.agg #[.slice F.o.a F.o.l.length F.o.c, .slice F.t.a F.t.R.length F.t.c], _, _] w fun e w' => e = .returned (.tuple #[.int .i64 v, .bool b]) ∧ Below w.heap.size w w'
  cases g with
  | false =>
    obtain ⟨rfl, rfl⟩ := HNO.out rfl
    clear HNO HYES
    go_enter Try.func14, Try.ntmps14
    go_wp2_with fail
    rw [← HA.out]
    refine (show Calls _ _ _ _ _ from C2.out).mono ?_
    rintro e W ⟨rfl, hb⟩
    clear x0 x1
    go_wp2
    go_ret2
    exact ⟨rfl, hbA.trans (hb.mono hbA.size)⟩
  | true =>
    cases u with
    | false =>
      obtain ⟨rfl, rfl⟩ := HNO.out rfl
      clear HNO HYES
      go_enter Try.func14, Try.ntmps14
      go_wp2_with fail
      rw [← HA.out]
      refine (show Calls _ _ _ _ _ from C2.out).mono ?_
      rintro e W ⟨rfl, hb⟩
      clear x0 x1
      have y0 : W.cell? ⟨w.heap.size, 0, none⟩ = some (.slice F.o.a F.o.l.length F.o.c) := (HBX.out.on hb).c0
      have y1 : W.cell? ⟨w.heap.size, 1, none⟩ = some (.slice F.t.a F.t.R.length F.t.c) := (HBX.out.on hb).c1
      have hbw := hbA.trans (hb.mono hbA.size)
      go_wp2_with fail
      refine (show Calls _ _ _ _ _ from C3.out W hb (by first | rfl | trivial)).mono ?_
      rintro e W2 ⟨rfl, hb2⟩
      clear y0 y1
      go_wp2
      go_ret2
      exact ⟨rfl, hbw.trans (hb2.mono hbw.size)⟩
    | true =>
      obtain ⟨T, hf, hvT, hbt⟩ := HYES.out rfl
      subst hbt
      have CV := Lib.hid (fun W (hb : Below wA.heap.size wA W) => (by have := orderedValue_any F s r T W (HFA.out.on hb) (HSA.out.on hb) (HRA.out.on hb) hf (HW.out rfl).1 (HW.out rfl).2; rw [← hvT] at this; exact this : Calls Try.prog 32 #[.agg #[.slice F.o.a F.o.l.length F.o.c, .slice F.t.a F.t.R.length F.t.c], .slice s.a s.l.length s.c, .slice r.a r.l.length r.c] W fun e w' => e = .returned (.int .i64 v) ∧ Below W.heap.size W w'))
      clear HNO HYES hf hvT
      go_enter Try.func14, Try.ntmps14
      go_wp2_with fail
      rw [← HA.out]
      refine (show Calls _ _ _ _ _ from C2.out).mono ?_
      rintro e W ⟨rfl, hb⟩
      clear x0 x1
      have y0 : W.cell? ⟨w.heap.size, 0, none⟩ = some (.slice F.o.a F.o.l.length F.o.c) := (HBX.out.on hb).c0
      have y1 : W.cell? ⟨w.heap.size, 1, none⟩ = some (.slice F.t.a F.t.R.length F.t.c) := (HBX.out.on hb).c1
      have hbw := hbA.trans (hb.mono hbA.size)
      go_wp2_with fail
      refine (show Calls _ _ _ _ _ from C3.out W hb (by first | rfl | trivial)).mono ?_
      rintro e W2 ⟨rfl, hb2⟩
      clear y0 y1
      have hb12 := hb.trans (hb2.mono hb.size)
      have y0 : W2.cell? ⟨w.heap.size, 0, none⟩ = some (.slice F.o.a F.o.l.length F.o.c) := (HBX.out.on hb12).c0
      have y1 : W2.cell? ⟨w.heap.size, 1, none⟩ = some (.slice F.t.a F.t.R.length F.t.c) := (HBX.out.on hb12).c1
      have hbw2 := hbA.trans (hb12.mono hbA.size)
      go_wp2_with fail
      refine (show Calls _ _ _ _ _ from CV.out W2 hb12).mono ?_
      rintro e W3 ⟨rfl, hb3⟩
      clear y0 y1
      go_wp2
      go_ret2
      exact ⟨rfl, hbw2.trans (hb3.mono hbw2.size)⟩

theorem orderedValue_pair (F : Fld) (s r : Row) (_ : F.Small) (_ : s.l.length ≤ 1048576) (_ : r.l.length ≤ 1048576) : ∃ (v : Int) (b : Bool),
    (∀ (G : Fld) (t q : Row) (W : World), G.At W → t.At W → q.At W → G.Like F → t.l = s.l → q.l = r.l → Calls Try.prog 13 #[G.val, .slice t.a t.l.length t.c, .slice q.a q.l.length q.c] W (PInt v b W)) ∧
    (∀ (G : Fld) (t q : Row) (W : World), G.At W → t.At W → q.At W → G.Like F → t.l = s.l → q.l = r.l → Calls Try.prog 14 #[G.val, .slice t.a t.l.length t.c, .slice q.a q.l.length q.c] W (PInt v b W)) := by
  obtain ⟨v, b, h⟩ := ordIs_some F s r
  exact ⟨v, b, fun G t q W hG ht hq hl h1 h2 => specOrd_any G t q W hG ht hq v b (ordIs_like h hl h1 h2), fun G t q W hG ht hq hl h1 h2 => implOrd_any G t q W hG ht hq v b (ordIs_like h hl h1 h2)⟩
end Go.Proofs.Ytmcobaclagmaoaa
