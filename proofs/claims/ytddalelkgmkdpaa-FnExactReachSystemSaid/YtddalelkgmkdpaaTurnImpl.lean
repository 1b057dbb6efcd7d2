/- The turned System, as the program makes it. Condition: the System reads as such. -/
import Derived.Test.YtddalelkgmkdpaaSetsWith
import Derived.Test.YtddalelkgmkdpaaRepeat
import Derived.Test.YtddalelkgmkdpaaGrow
namespace Go.Proofs.Ytddalelkgmkdpaa
open Go.RowKit Go.Shelf

theorem Grows.tab {B : Nat} {w' : World} {v : Value} {Q : List Row} (h : Grows B w' v Q) : ∃ T : Tab, v = .slice T.a T.R.length T.c ∧ T.R = Q ∧ T.Own 3 w' ∧ T.In B w'.heap.size w' := by
  have hsp : ∃ T : Tab, v = .slice T.a T.R.length T.c ∧ T.R = Q ∧ RowIn B w'.heap.size w' T.a T.c (tv Q) ∧ (∀ x, T.a = some x → Q ≠ [] → v.ownBlock = some x.block) := by
    rcases id h.own.2 with ⟨hv, h0⟩ | ⟨g, cap, cur, hv, hBg, _⟩
    · have hQ : Q = [] := List.eq_nil_of_length_eq_zero h0
      subst hQ
      exact ⟨⟨none, 0, []⟩, hv, rfl, ⟨by simp [tv], by decide, .inl rfl⟩, fun x hx => by cases hx⟩
    · subst hv
      refine ⟨⟨some ⟨g, 0, none⟩, cap, Q⟩, rfl, rfl, ?_, fun x hx _ => by cases hx; rfl⟩
      obtain ⟨q1, q2, q3⟩ := row_of_owns h.own
      refine ⟨q1, q2, ?_⟩
      rcases q3 with q3 | ⟨b', o, e0, hb', hc⟩
      · exact .inl q3
      · simp only [Option.some.injEq, Addr.mk.injEq] at e0
        obtain ⟨rfl, rfl, _⟩ := e0
        exact .inr ⟨_, _, rfl, hBg, hb', hb', hc⟩
  obtain ⟨T, hv, hR, hrow, hblk⟩ := hsp
  refine ⟨T, hv, hR, ⟨by rw [hR]; exact h.lots, fun r hr x y h1 h2 e1 e2 he => ?_⟩, ⟨by rw [hR]; exact hrow, fun r hr => by rw [hR] at hr; exact h.ins r hr⟩⟩
  rw [hR] at hr h2
  have := hblk y e2 h2
  exact h.off r hr h1 x e1 (by rw [this, he])

/-- A table and a list that lies behind it are a Field's memory. -/
theorem fld_own {e : TypeId} {lo mid hi : Nat} {w : World} {T : Tab} {t : Row} (hTi : T.In lo mid w) (hTo : T.Own e w) (hti : t.In mid hi w) (hto : t.Own e w) : Fld.Own e w ⟨t, T⟩ := by
  have hap : ∀ r ∈ T.R, t.Apart r := fun r hr x y h1 h2 e1 e2 => by
    obtain ⟨_, _, q3⟩ := hTi.2 r hr
    obtain ⟨_, _, p3⟩ := hti
    rcases q3 with q3 | ⟨b', o', e', _, hhi, _, _⟩
    · exact absurd (iv_nil q3) h2
    rcases p3 with p3 | ⟨b, o, e0, hlo, _, _, _⟩
    · exact absurd (iv_nil p3) h1
    rw [e2] at e'; rw [e1] at e0
    simp only [Option.some.injEq] at e' e0
    subst e' e0
    simp only; omega
  have hoff : ∀ x y, t.l ≠ [] → T.R ≠ [] → t.a = some x → T.a = some y → x.block ≠ y.block := fun x y h1 h2 e1 e2 => by
    obtain ⟨_, _, q3⟩ := hTi.1
    obtain ⟨_, _, p3⟩ := hti
    rcases q3 with q3 | ⟨b', o', e', _, hhi, _, _⟩
    · exact absurd (List.eq_nil_of_length_eq_zero (by rw [← tv_length, q3]; rfl)) h2
    rcases p3 with p3 | ⟨b, o, e0, hlo, _, _, _⟩
    · exact absurd (iv_nil p3) h1
    rw [e2] at e'; rw [e1] at e0
    simp only [Option.some.injEq] at e' e0
    subst e' e0
    simp only; omega
  refine ⟨⟨fun r hr => ?_, List.pairwise_cons.2 ⟨hap, hTo.1.2⟩⟩, fun r hr => ?_⟩
  · rcases List.mem_cons.1 hr with hr | hr
    · subst hr; exact hto
    · exact hTo.1.1 r hr
  · rcases List.mem_cons.1 hr with hr | hr
    · subst hr; exact hoff
    · exact hTo.2 r hr

set_option maxRecDepth 8000 in
set_option maxHeartbeats 1000000 in
theorem unitSystem_any (z : Int) (a : Option Addr) (m c : Nat) (w : World) (hm : m ≤ 8) :
    Calls Try.prog 84 #[.int .i64 z, .slice a m c] w fun e w' => ∃ t : Row, e = .returned (.agg #[.int .i64 z, .slice a m c, .slice t.a t.l.length t.c]) ∧ t.l = List.replicate m 1 ∧ t.Own 3 w' ∧ t.In (w.heap.size + 2) w'.heap.size w' ∧ Below w.heap.size w w' := by
  obtain ⟨wB, hB⟩ : ∃ u, u = (w.alloc (Obj.cells #[.int .i64 0, .slice none 0 0, .slice none 0 0] 29)).alloc (.cells #[.int .i64 1] 3) := ⟨_, rfl⟩
  have hb : Below w.heap.size w wB := by rw [hB]; exact ((Below.refl _ _).alloc (Nat.le_refl _) _).alloc (by rw [size_alloc]; omega) _
  have hsz : wB.heap.size = w.heap.size + 2 := by rw [hB, size_alloc, size_alloc]
  have bx : Box3 wB w.heap.size (.int .i64 0) (.slice none 0 0) (.slice none 0 0) 29 := by rw [hB]; exact (Box3.made w _ _ _ _).later _
  have hrow : wB.ownsRow (w.heap.size + 1) 3 1 (.slice (some ⟨w.heap.size + 1, 0, none⟩) 1 1) ([1] : List Int).length (iv [1]) := by
    rw [hB]
    have h : ((w.alloc (Obj.cells #[.int .i64 0, .slice none 0 0, .slice none 0 0] 29)).alloc (.cells #[.int .i64 1] 3)).ownsRow (w.alloc (Obj.cells #[.int .i64 0, .slice none 0 0, .slice none 0 0] 29)).heap.size 3 1 (.slice (some ⟨(w.alloc (Obj.cells #[.int .i64 0, .slice none 0 0, .slice none 0 0] 29)).heap.size, 0, none⟩) 1 1) ([1] : List Int).length (iv [1]) := World.ownsRow_lit (w.alloc (Obj.cells #[.int .i64 0, .slice none 0 0, .slice none 0 0] 29)) #[.int .i64 1] 1 (Nat.le_refl _) (by decide) rfl
    rw [size_alloc] at h
    exact h
  have hra := row_of_owns hrow
  have CR := Lib.hid (repeatOne_any ⟨some ⟨w.heap.size + 1, 0, none⟩, 1, [1]⟩ m wB hra rfl hm)
  have HB := Lib.hid hB
  have HBX := Lib.hid bx
  have hmi : (m : Int) ≤ 8 := by omega
  clear hB bx hrow hra
  go_enter Try.func84, Try.ntmps84
  go_wp2_with fail
  rw [← HB.out]
  refine (show Calls _ _ _ _ _ from CR.out).mono ?_
  rintro e w2 ⟨t, rfl, htl, hto, hti, hb2⟩
  have bx2 := HBX.out.on hb2
  have y0 := bx2.c0
  have y1 := bx2.c1
  have y2 := bx2.c2
  have f0 := bx2.fr 0
  have f1 := bx2.fr 1
  have f2 := bx2.fr 2
  have HX := Lib.hid bx2
  have HTL := Lib.hid htl
  have HTO := Lib.hid hto
  have HTI := Lib.hid hti
  have HB2 := Lib.hid hb2
  clear bx2 htl hto hti hb2
  go_wp2
  obtain ⟨wF, hF⟩ : ∃ wF, wF = ((w2.setCell ⟨w.heap.size, 0, none⟩ (.int .i64 z)).setCell ⟨w.heap.size, 1, none⟩ (.slice a m c)).setCell ⟨w.heap.size, 2, none⟩ (.slice t.a t.l.length t.c) := ⟨_, rfl⟩
  rw [← hF]
  have bF : Box3 wF w.heap.size (.int .i64 z) (.slice a m c) (.slice t.a t.l.length t.c) 29 := by rw [hF]; exact ((HX.out.set0 _).set1 _).set2 _
  have tF : Touch w.heap.size (w.heap.size + 1) w2 wF := by
    rw [hF]
    exact (((Touch.refl _ _ w2).set (by omega) (by omega) _ _).set (by omega) (by omega) _ _).set (by omega) (by omega) _ _
  have r0 := bF.c0
  have r1 := bF.c1
  have r2 := bF.c2
  have hs2 := HB2.out.size
  clear y0 y1 y2 f0 f1 f2 hF
  refine bodyPost_ret (v := .agg #[.int .i64 z, .slice a m c, .slice t.a t.l.length t.c]) (by simp [results, Try.results84, go_sem, r0, r1, r2]) rfl ?_
  have hti : t.In (w.heap.size + 2) w2.heap.size w2 := HTI.out.wide (by omega) (Nat.le_refl _)
  exact ⟨t, rfl, HTL.out, HTO.out.touch hti tF (.inr (by omega)), (hti.touch tF (.inr (by omega))).wide (Nat.le_refl _) tF.size, (hb.trans (HB2.out.mono (by omega))).trans (tF.below (Nat.le_refl _) (by omega))⟩

end Go.Proofs.Ytddalelkgmkdpaa
