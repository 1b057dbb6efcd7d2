/- The contracts of the laws' helpers on Systems: their size, their copy, their comparison. Condition: they read as such. -/
import Derived.Test.YtbngmjmcmdfphaaSysMem
import Derived.Test.YtbngmjmcmdfphaaPost
namespace Go.Proofs.Ytbngmjmcmdfphaa
open Go.RowKit

set_option maxHeartbeats 600000 in
theorem szSys_any (S : Sys) (left : Int) (w : World) (hS : S.At w) (hl0 : 0 ≤ left) (hl1 : left ≤ 1048576) :
    Calls Try.prog 7 #[S.val, .int .i64 left] w fun e w' => (∃ r : Int, e = .returned (.int .i64 r) ∧ (0 ≤ r → r + S.f.o.l.length + S.f.t.R.length + tot S.f.t.con ≤ left) ∧ r ≤ 1048576) ∧ Below w.heap.size w w' := by
  have hb := (Below.refl w.heap.size w).alloc (Nat.le_refl _) (Obj.cells #[.int .i64 S.n, S.f.t.val, S.f.o.val] 25)
  obtain ⟨w1, hw1⟩ : ∃ w1, w1 = w.alloc (Obj.cells #[.int .i64 S.n, S.f.t.val, S.f.o.val] 25) := ⟨_, rfl⟩
  have hS' : S.f.At w1 := hS.on (by rw [hw1]; exact hb)
  have C1 := Lib.hid (szTab_any S.f.t left w1 hS'.2 hl0 hl1)
  have C2 := Lib.hid fun r (h0 : 0 ≤ r) (h1 : r ≤ 1048576) => szInts_any S.f.o.a S.f.o.c S.f.o.l.length r w1 (by obtain ⟨⟨q1, q2, _⟩, _⟩ := hS; rw [iv_length] at q1; omega) h0 h1
  have bx : Box3 w1 w.heap.size (.int .i64 S.n) S.f.t.val S.f.o.val 25 := by rw [hw1]; exact Box3.made _ _ _ _ _
  have x1 : w1.cell? ⟨w.heap.size, 1, none⟩ = some (.slice S.f.t.a S.f.t.R.length S.f.t.c) := bx.c1
  have x2 : w1.cell? ⟨w.heap.size, 2, none⟩ = some (.slice S.f.o.a S.f.o.l.length S.f.o.c) := bx.c2
  have HW := Lib.hid hw1
  rw [← hw1] at hb
  clear hS hw1 hS' bx
  show Calls _ _ #[.agg #[.int .i64 S.n, .slice S.f.t.a S.f.t.R.length S.f.t.c, .slice S.f.o.a S.f.o.l.length S.f.o.c], .int .i64 left] w _
  go_enter Try.func7, Try.ntmps7
  go_wp2_with fail
  rw [show w.alloc (Obj.cells #[Value.int .i64 S.n, Value.slice S.f.t.a S.f.t.R.length S.f.t.c, Value.slice S.f.o.a S.f.o.l.length S.f.o.c] 25) = w1 from HW.out.symm]
  refine (show Calls _ _ #[.slice S.f.t.a S.f.t.R.length S.f.t.c, .int .i64 left] _ _ from C1.out).mono ?_
  rintro e W ⟨⟨r, rfl, h1, h2⟩, rfl⟩
  by_cases hng : r < 0
  · go_wp2
    go_ret
    exact ⟨⟨-1, rfl, fun h => by omega, by omega⟩, hb⟩
  have h1' := h1 (by omega)
  go_wp2_with fail
  refine (C2.out r (by omega) h2).mono ?_
  rintro e W ⟨⟨r', rfl, h3, h4⟩, rfl⟩
  by_cases hng : r' < 0
  · go_wp2
    go_ret
    exact ⟨⟨-1, rfl, fun h => by omega, by omega⟩, hb⟩
  have h3' := h3 (by omega)
  go_wp2
  go_ret
  exact ⟨⟨r', rfl, fun _ => by omega, h4⟩, hb⟩

set_option maxHeartbeats 1500000 in
/-- The copy of a System: memory of its own. -/
theorem toSys_any (S : Sys) (w : World) (hS : S.At w) (hs : S.Small) :
    Calls Try.prog 9 #[S.val] w fun e w' => ∃ G : Sys, e = .returned (.agg #[.int .i64 G.n, .slice G.f.t.a G.f.t.R.length G.f.t.c, .slice G.f.o.a G.f.o.l.length G.f.o.c]) ∧ G.Like S ∧ G.f.Own 3 w' ∧ G.f.In w.heap.size w'.heap.size w' ∧ Below w.heap.size w w' := by
  obtain ⟨n, F⟩ := S
  replace hS : F.At w := hS
  replace hs : F.Small := hs
  obtain ⟨s1, s2, s3⟩ := hs.rows
  obtain ⟨wB, hB⟩ : ∃ wB, wB = ((w.alloc (Obj.cells #[.int .i64 n, .slice F.t.a F.t.R.length F.t.c, .slice F.o.a F.o.l.length F.o.c] 25)).alloc (Obj.cells #[.int .i64 0, .slice none 0 0, .slice none 0 0] 29)).alloc (Obj.cells #[.int .i64 n, .slice none 0 0, .slice none 0 0] 29) := ⟨_, rfl⟩
  have hbB : Below w.heap.size w wB := by rw [hB]; exact (((Below.refl _ _).alloc (Nat.le_refl _) _).alloc (by rw [size_alloc]; omega) _).alloc (by rw [size_alloc, size_alloc]; omega) _
  have hsB : wB.heap.size = w.heap.size + 3 := by rw [hB, size_alloc, size_alloc, size_alloc]
  have d0 : Box3 wB w.heap.size (.int .i64 n) (.slice F.t.a F.t.R.length F.t.c) (.slice F.o.a F.o.l.length F.o.c) 25 := by rw [hB]; exact ((Box3.made w _ _ _ _).later _).later _
  have d1 : Box3 wB (w.heap.size + 1) (.int .i64 0) (.slice none 0 0) (.slice none 0 0) 29 := by rw [hB]; have := Box3.made (w.alloc (Obj.cells #[.int .i64 n, .slice F.t.a F.t.R.length F.t.c, .slice F.o.a F.o.l.length F.o.c] 25)) (.int .i64 0) (.slice none 0 0) (.slice none 0 0) 29; rw [size_alloc] at this; exact this.later _
  have d2 : Box3 wB (w.heap.size + 1 + 1) (.int .i64 n) (.slice none 0 0) (.slice none 0 0) 29 := by rw [hB]; have := Box3.made ((w.alloc (Obj.cells #[.int .i64 n, .slice F.t.a F.t.R.length F.t.c, .slice F.o.a F.o.l.length F.o.c] 25)).alloc (Obj.cells #[.int .i64 0, .slice none 0 0, .slice none 0 0] 29)) (.int .i64 n) (.slice none 0 0) (.slice none 0 0) 29; rw [size_alloc, size_alloc] at this; exact this
  have C1 := Lib.hid (toTab_any F.t wB (hS.2.on hbB) s2 s3)
  have HO := Lib.hid (hS.1.in.on hbB)
  have C2 := Lib.hid fun (w1 : World) (h : F.o.At w1) => toInts_row F.o w1 h s1
  have HB := Lib.hid hB
  have D0 := Lib.hid d0
  have D1 := Lib.hid d1
  have D2 := Lib.hid d2
  have HSB := Lib.hid hsB
  clear hS s1 s2 s3 hs hB d0 d1 d2 hsB
  show Calls _ _ #[.agg #[.int .i64 n, .slice F.t.a F.t.R.length F.t.c, .slice F.o.a F.o.l.length F.o.c]] w _
  go_enter Try.func9, Try.ntmps9
  go_wp2_with fail
  rw [← HB.out]
  refine (show Calls _ _ _ _ _ from C1.out).mono ?_
  rintro e w1 ⟨T, rfl, hTc, hTo, hTi, hTb⟩
  have q2 := D2.out.on hTb
  have x2 := (D0.out.on hTb).c2
  have q21 := q2.c1
  have q2f := q2.fr 1
  have t1 := set_touch w1 (w.heap.size + 1 + 1) 1 (.slice T.a T.R.length T.c)
  obtain ⟨wC, hC⟩ : ∃ wC, wC = w1.setCell ⟨w.heap.size + 1 + 1, 1, none⟩ (.slice T.a T.R.length T.c) := ⟨_, rfl⟩
  rw [← hC] at t1
  have hs1 : w.heap.size + 3 ≤ w1.heap.size := by rw [← HSB.out]; exact hTb.size
  have hsC : w1.heap.size ≤ wC.heap.size := t1.size
  have hbC : Below w.heap.size w wC := (hbB.trans (hTb.mono hbB.size)).trans (t1.below (by omega) (by omega))
  have e0 := (D0.out.on hTb).touch t1 (.inl (by omega))
  have e1 : Box3 wC (w.heap.size + 1) (.int .i64 0) (.slice none 0 0) (.slice none 0 0) 29 := (D1.out.on hTb).touch t1 (.inl (by omega))
  have e2 : Box3 wC (w.heap.size + 1 + 1) (.int .i64 n) (.slice T.a T.R.length T.c) (.slice none 0 0) 29 := by rw [hC]; exact q2.set1 _
  have hTi' : T.In (w.heap.size + 3) w1.heap.size w1 := hTi.wide (by rw [HSB.out]; omega) (Nat.le_refl _)
  have hTiC := hTi'.touch t1 (.inr (by omega))
  have hToC := hTo.touch hTi' t1 (.inr (by omega))
  have hOC : F.o.At wC := ((HO.out.on hTb).touch t1 (.inl (by omega))).at
  have y2 := e0.c2
  have HC := Lib.hid hC
  have E1 := Lib.hid e1
  have E2 := Lib.hid e2
  have HTI := Lib.hid hTiC
  have HTO := Lib.hid hToC
  have CC := Lib.hid (C2.out wC hOC)
  have HTC := Lib.hid hTc
  clear hTc hTo hTi hTb q2 t1 hC e0 e1 e2 hTi' hTiC hToC hOC
  rw [HC.out] at y2
  go_wp2_with fail
  rw [← HC.out]
  refine (show Calls _ _ _ _ _ from CC.out).mono ?_
  rintro e w2 ⟨s, rfl, hsl, -, hso, hsi, hsb⟩
  have q1' := E1.out.on hsb
  have q2' := E2.out.on hsb
  have z0 := q2'.c0
  have z1 := q2'.c1
  have z2 := q2'.c2
  have zf := q2'.fr 2
  have y0 := q1'.c0
  have y1 := q1'.c1
  have y2' := q1'.c2
  have yf0 := q1'.fr 0
  have yf1 := q1'.fr 1
  have yf2 := q1'.fr 2
  have HR := Lib.hid q1'
  have HSI := Lib.hid hsi
  have HSO := Lib.hid hso
  have HSBB := Lib.hid hsb
  have HSL := Lib.hid hsl
  clear q1' q2' hsi hso hsb hsl q21 q2f x2 y2
  go_wp2
  obtain ⟨wF, hF⟩ : ∃ wF, wF = (((w2.setCell ⟨w.heap.size + 1 + 1, 2, none⟩ (.slice s.a s.l.length s.c)).setCell ⟨w.heap.size + 1, 0, none⟩ (.int .i64 n)).setCell ⟨w.heap.size + 1, 1, none⟩ (.slice T.a T.R.length T.c)).setCell ⟨w.heap.size + 1, 2, none⟩ (.slice s.a s.l.length s.c) := ⟨_, rfl⟩
  rw [← hF]
  have bF : Box3 wF (w.heap.size + 1) (.int .i64 n) (.slice T.a T.R.length T.c) (.slice s.a s.l.length s.c) 29 := by rw [hF]; exact (((HR.out.other _ _ (by simp)).set0 _).set1 _).set2 _
  have tF : Touch (w.heap.size + 1) (w.heap.size + 3) w2 wF := by
    rw [hF]
    exact ((((Touch.refl _ _ w2).set (by omega) (by omega) _ _).set (by omega) (by omega) _ _).set (by omega) (by omega) _ _).set (by omega) (by omega) _ _
  have r0 := bF.c0
  have r1 := bF.c1
  have r2 := bF.c2
  clear z0 z1 z2 zf y0 y1 y2' yf0 yf1 yf2 hF
  refine bodyPost_ret (v := .agg #[.int .i64 n, .slice T.a T.R.length T.c, .slice s.a s.l.length s.c]) (by simp [results, Try.results9, go_sem, r0, r1, r2]) rfl ?_
  have hTi := HTI.out
  have hsi := HSI.out
  have hsb := HSBB.out
  have hap : ∀ r ∈ T.R, s.Apart r := fun r hr x y h1 h2 e1 e2 => by
    obtain ⟨_, _, q3⟩ := hTi.2 r hr
    obtain ⟨_, _, p3⟩ := hsi
    rcases q3 with q3 | ⟨b', o', e', _, hhi, _, _⟩
    · exact absurd (iv_nil q3) h2
    rcases p3 with p3 | ⟨b, o, e0, hlo, _, _, _⟩
    · exact absurd (iv_nil p3) h1
    rw [e2] at e'; rw [e1] at e0
    simp only [Option.some.injEq] at e' e0
    subst e' e0
    simp only; omega
  have hoff : ∀ x y, s.l ≠ [] → T.R ≠ [] → s.a = some x → T.a = some y → x.block ≠ y.block := fun x y h1 h2 e1 e2 => by
    obtain ⟨_, _, q3⟩ := hTi.1
    obtain ⟨_, _, p3⟩ := hsi
    rcases q3 with q3 | ⟨b', o', e', _, hhi, _, _⟩
    · exact absurd (List.eq_nil_of_length_eq_zero (by rw [← tv_length, q3]; rfl)) h2
    rcases p3 with p3 | ⟨b, o, e0, hlo, _, _, _⟩
    · exact absurd (iv_nil p3) h1
    rw [e2] at e'; rw [e1] at e0
    simp only [Option.some.injEq] at e' e0
    subst e' e0
    simp only; omega
  have hsz2 := hsb.size
  have hszF := tF.size
  have hsi' : s.In (w.heap.size + 3) w2.heap.size w2 := hsi.wide (by omega) (Nat.le_refl _)
  have hTi2 := hTi.on hsb
  refine ⟨⟨n, ⟨s, T⟩⟩, rfl, ⟨rfl, HSL.out, HTC.out⟩, ⟨⟨fun r hr => ?_, List.pairwise_cons.2 ⟨hap, HTO.out.1.2⟩⟩, fun r hr => ?_⟩, ⟨(hsi'.touch tF (.inr (Nat.le_refl _))).wide (by omega) (by omega), (hTi2.touch tF (.inr (Nat.le_refl _))).wide (by omega) (by omega)⟩, (hbC.trans (hsb.mono hbC.size)).trans (tF.below (by omega) (by omega))⟩
  · rcases List.mem_cons.1 hr with hr | hr
    · subst hr; exact HSO.out.touch hsi' tF (.inr (Nat.le_refl _))
    · exact ((HTO.out.1.1 r hr).on hsb).touch (hTi2.2 r hr) tF (.inr (Nat.le_refl _))
  · rcases List.mem_cons.1 hr with hr | hr
    · subst hr; exact hoff
    · exact HTO.out.2 r hr

set_option maxHeartbeats 600000 in
/-- The comparison of two Systems that are the same. -/
theorem eqSys_same (S G : Sys) (w : World) (hS : S.At w) (hG : G.At w) (he : S.Like G) (hs : S.Small) :
    Calls Try.prog 12 #[.agg #[.int .i64 S.n, .slice S.f.t.a S.f.t.R.length S.f.t.c, .slice S.f.o.a S.f.o.l.length S.f.o.c], .agg #[.int .i64 G.n, .slice G.f.t.a G.f.t.R.length G.f.t.c, .slice G.f.o.a G.f.o.l.length G.f.o.c]] w fun e w' => e = .returned (.bool true) ∧ Below w.heap.size w w' := by
  obtain ⟨s1, s2, s3⟩ := Fld.Small.rows hs
  obtain ⟨n, F⟩ := S
  obtain ⟨n', F'⟩ := G
  obtain ⟨he0, he⟩ := he
  simp only at he0 he s1 s2 s3
  subst he0
  replace hS : F.At w := hS
  replace hG : F'.At w := hG
  obtain ⟨wA, hA⟩ : ∃ wA, wA = (w.alloc (Obj.cells #[.int .i64 n, F.t.val, F.o.val] 29)).alloc (Obj.cells #[.int .i64 n, F'.t.val, F'.o.val] 29) := ⟨_, rfl⟩
  have hbA : Below w.heap.size w wA := by rw [hA]; exact ((Below.refl _ _).alloc (Nat.le_refl _) _).alloc (by rw [size_alloc]; omega) _
  have b0 : Box3 wA w.heap.size (.int .i64 n) F.t.val F.o.val 29 := by rw [hA]; exact (Box3.made w _ _ _ _).later _
  have b1 : Box3 wA (w.heap.size + 1) (.int .i64 n) F'.t.val F'.o.val 29 := by rw [hA]; have := Box3.made (w.alloc (Obj.cells #[.int .i64 n, F.t.val, F.o.val] 29)) (.int .i64 n) F'.t.val F'.o.val 29; rw [size_alloc] at this; exact this
  have C1 := Lib.hid fun d => eqTab_same F.t F'.t (wA.drewN d) ((hS.2.on hbA).on (below_draws wA d)) ((hG.2.on hbA).on (below_draws wA d)) he.2 s2 s3
  have C2 := Lib.hid fun d => eqInts_same F.o F'.o (wA.drewN d) ((hS.1.on hbA).on (below_draws wA d)) ((hG.1.on hbA).on (below_draws wA d)) he.1 s1
  have HA := Lib.hid hA
  have x1 := b0.c1
  have x2 := b0.c2
  have x1' := b1.c1
  have x2' := b1.c2
  clear hS hG he hs s1 s2 s3 hA b0 b1
  show Calls _ _ #[.agg #[.int .i64 n, F.t.val, F.o.val], .agg #[.int .i64 n, F'.t.val, F'.o.val]] w _
  go_enter Try.func12, Try.ntmps12
  go_wp2_with fail
  rw [← HA.out]
  refine (C1.out 0).mono ?_
  rintro e w1 ⟨rfl, d, rfl⟩
  go_wp2_with fail
  refine (C2.out _).mono ?_
  rintro e w2 ⟨rfl, d', rfl⟩
  go_wp2
  go_ret
  exact ⟨rfl, hbA.trans ((below_draws _ _).mono hbA.size)⟩

end Go.Proofs.Ytbngmjmcmdfphaa
