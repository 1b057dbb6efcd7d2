/- The contract of the search of the first set with the least value, for bestMove's closure. Condition: values that are not great. -/
import Derived.Test.YtifgmbljimfebaaEigSizeSeq
import Derived.Test.YtifgmbljimfebaaPlainFirst2
namespace Go.Proofs.Ytifgmbljimfebaa
open Go.RowKit Go.Shelf
attribute [local go_sem] Oper.semAt_some

/-- What the search holds between two rounds. -/
structure HoldsMove (B : Nat) (V w : World) (φ : List Nat → Int) (C : List (List Nat)) (k : Nat) (y : Row) (W : World) : Prop where
  b5 : Boxed W (B + 1 + 1) 22 (.slice y.a y.l.length y.c)
  b6 : Boxed W (B + 1 + 1 + 1) 3 (.int .i64 (if k = 0 then 9223372036854775807 else φ (firstE φ (C.take k))))
  b3 : W.heap[B]? = V.heap[B]?
  bl : Below B w W
  yl : y.l = up (firstE φ (C.take k))
  ge : y.Ge B
theorem HoldsMove.keep {B M : Nat} {V w : World} {φ : List Nat → Int} {C : List (List Nat)} {k : Nat} {y : Row} {A A' : World} (h : HoldsMove B V w φ C k y A) (hb : Below M A A') (hM : B + 1 + 1 + 1 + 1 ≤ M) : HoldsMove B V w φ C k y A' :=
  ⟨(hb.block _ (by omega)).trans h.b5, (hb.block _ (by omega)).trans h.b6, (hb.block _ (by omega)).trans h.b3, h.bl.trans (hb.mono (by omega)), h.yl, h.ge⟩

set_option maxRecDepth 100000 in
set_option maxHeartbeats 4000000 in
theorem firstMove_in (n : Nat) (hn : 4 ≤ n) (φ : List Nat → Int) (gf : Nat) (lb : Array Value) (C : List (List Nat)) (g4 g5 g6 g7 p q : Nat) (w0 w : World) (hq : q ≤ w.heap.size)
    (eg : ∀ args w, (callFunc gf args).run Try.prog w = .ok (.enter gf args) w) (hseq : ListSeq Fence.wide (n - 1) Try.prog gf lb (C.map up) p q w0) (hb0 : Below w0.heap.size w0 w)
    (hcl : ∀ (k : Nat) (hk : k < C.length) (x : Row) (W : World), Below w.heap.size w W → x.At W → x.l = up C[k] → Calls Try.prog 72 #[.slice x.a x.l.length x.c, .pointer (some ⟨g4, 0, none⟩), .pointer (some ⟨g5, 0, none⟩), .pointer (some ⟨g6, 0, none⟩), .pointer (some ⟨g7, 0, none⟩)] W fun e w' => e = .returned (.int .i64 (φ C[k])) ∧ Below W.heap.size W w')
    (hφ : ∀ T ∈ C, -2000000 ≤ φ T ∧ φ T ≤ 2000000) :
    CallsIn Fence.wide n Try.prog 52 #[.func (.func gf) #[] lb, .func (.func 72) #[] #[.pointer (some ⟨g4, 0, none⟩), .pointer (some ⟨g5, 0, none⟩), .pointer (some ⟨g6, 0, none⟩), .pointer (some ⟨g7, 0, none⟩)]] w fun e w' => ∃ t : Row, e = .returned (.slice t.a t.l.length t.c) ∧ t.l = up (firstE φ C) ∧ t.Own 3 w' ∧ t.In w.heap.size w'.heap.size w' ∧ Below w.heap.size w w' := by
  have h1 : 1 ≤ n := by omega
  refine callsIn_of_wp_marks Try.func52 rfl trivial ?_ rfl
  simp only [Try.ntmps52, List.size_toArray, List.length_cons, List.length_nil, Nat.reduceAdd, Nat.reduceSub, Array.replicate_succ, Array.replicate_zero, List.push_toArray, List.append_toArray, List.nil_append, List.cons_append]
  gi_wp2
  obtain ⟨V, hV⟩ : ∃ V, (((w.alloc (.cells #[.func (.func 72) #[] #[.pointer (some ⟨g4, 0, none⟩), .pointer (some ⟨g5, 0, none⟩), .pointer (some ⟨g6, 0, none⟩), .pointer (some ⟨g7, 0, none⟩)]] 51)).alloc (.cells #[] 3)).alloc (.cells #[.slice (some ⟨w.heap.size + 1, 0, none⟩) 0 0] 22)).alloc (.cells #[.int .i64 9223372036854775807] 3) = V := ⟨_, rfl⟩
  have hBV : Below w.heap.size w V := by rw [← hV]; exact (((((Below.refl _ w).alloc (Nat.le_refl _) _).alloc (by simp) _).alloc (by simp; omega) _).alloc (by simp; omega) _)
  have szV : V.heap.size = w.heap.size + 1 + 1 + 1 + 1 := by rw [← hV]; simp only [World.size_alloc]
  have v3 : Boxed V w.heap.size 51 (.func (.func 72) #[] #[.pointer (some ⟨g4, 0, none⟩), .pointer (some ⟨g5, 0, none⟩), .pointer (some ⟨g6, 0, none⟩), .pointer (some ⟨g7, 0, none⟩)]) := by rw [← hV]; exact (((Boxed.new w 51 _).alloc _).alloc _).alloc _
  have v5 : Boxed V (w.heap.size + 1 + 1) 22 (.slice (some ⟨w.heap.size + 1, 0, none⟩) 0 0) := by
    rw [← hV]
    have := (Boxed.new ((w.alloc (.cells #[.func (.func 72) #[] #[.pointer (some ⟨g4, 0, none⟩), .pointer (some ⟨g5, 0, none⟩), .pointer (some ⟨g6, 0, none⟩), .pointer (some ⟨g7, 0, none⟩)]] 51)).alloc (.cells #[] 3)) 22 (.slice (some ⟨w.heap.size + 1, 0, none⟩) 0 0)).alloc (.cells #[.int .i64 9223372036854775807] 3)
    simp only [World.size_alloc] at this; exact this
  have v6 : Boxed V (w.heap.size + 1 + 1 + 1) 3 (.int .i64 9223372036854775807) := by
    rw [← hV]
    have := Boxed.new (((w.alloc (.cells #[.func (.func 72) #[] #[.pointer (some ⟨g4, 0, none⟩), .pointer (some ⟨g5, 0, none⟩), .pointer (some ⟨g6, 0, none⟩), .pointer (some ⟨g7, 0, none⟩)]] 51)).alloc (.cells #[] 3)).alloc (.cells #[.slice (some ⟨w.heap.size + 1, 0, none⟩) 0 0] 22)) 3 (.int .i64 9223372036854775807)
    simp only [World.size_alloc] at this; exact this
  have hOw : V.ownsRow (w.heap.size + 1) 3 1 (.slice (some ⟨w.heap.size + 1, 0, none⟩) 0 0) ([] : List Int).length (iv []) := by
    rw [← hV]
    have := ((empty_own (w.alloc (.cells #[.func (.func 72) #[] #[.pointer (some ⟨g4, 0, none⟩), .pointer (some ⟨g5, 0, none⟩), .pointer (some ⟨g6, 0, none⟩), .pointer (some ⟨g7, 0, none⟩)]] 51))).alloc (.cells #[.slice (some ⟨w.heap.size + 1, 0, none⟩) 0 0] 22)).alloc (.cells #[.int .i64 9223372036854775807] 3)
    simp only [World.size_alloc] at this; exact this
  rw [hV]
  clear hV
  obtain ⟨y0, hy0v, hy0l, hy0o, hy0i⟩ := row_of_own hOw
  have HV3 := Lib.hid v3.cell
  have hy0 : y0.Held V := ⟨hy0o, hy0i.wide (Nat.zero_le _) (Nat.le_refl _)⟩
  have HCLO := Lib.hid hcl
  have HCL : Hid ((C.map up).length = C.length) := Lib.hid (List.length_map _)
  have HCC := Lib.hid hφ
  have HEG := Lib.hid eg
  have HSQ := Lib.hid hseq
  have HSV := Lib.hid szV
  have hsv := hBV.size
  have HB0 := Lib.hid (hb0.trans (hBV.mono hb0.size))
  have hw0 := hb0.size
  have HY0V := Lib.hid hy0v
  have HY0L := Lib.hid hy0l
  clear hcl hφ eg hseq hOw hy0v hy0l
  refine wpIn_rangeLists (F := Fence.wide) rfl h1 (gf := gf) (lb := lb) rfl trivial HEG.out HSQ.out HB0.out rfl (w.heap.size + 1 + 1) (w.heap.size + 1 + 1 + 1 + 1) (.inr (by omega)) (by omega)
    (HoldsMove w.heap.size V w φ C) (fun k y A B h hb => h.keep hb (by omega)) y0 ⟨by rw [← HY0V.out]; exact v5, v6, rfl, hBV, HY0L.out, fun hl => absurd HY0L.out hl⟩ hy0
    (fun x => { tmps := #[.func (.func gf) #[] lb, .func (.func 72) #[] #[.pointer (some ⟨g4, 0, none⟩), .pointer (some ⟨g5, 0, none⟩), .pointer (some ⟨g6, 0, none⟩), .pointer (some ⟨g7, 0, none⟩)], undef, .pointer (some ⟨w.heap.size, 0, none⟩), .slice none 0 0, .pointer (some ⟨w.heap.size + 1 + 1, 0, none⟩), .pointer (some ⟨w.heap.size + 1 + 1 + 1, 0, none⟩), .slice x.a x.l.length x.c, undef, .slice (some ⟨w.heap.size + 1, 0, none⟩) 0 0, .func (.func gf) #[] lb, .slice x.a x.l.length x.c, undef, undef, undef, undef, undef, undef, undef, undef, undef], defers := [] }) ?assign ?body ?done
  case assign =>
    intro l x W K hK
    gi_wp2
    exact hK
  case body =>
    intro l k y x W hk hx hI hyH hxH hxI hsz
    have hkC : k < C.length := by rw [HCL.out] at hk; exact hk
    have hxC : x.l = up C[k] := by rw [hx, List.getElem_map]
    have hvb := HCC.out _ (List.getElem_mem hkC)
    obtain ⟨v, hv⟩ : ∃ v, v = φ C[k] := ⟨_, rfl⟩
    have CL := Lib.hid (by
      have := HCLO.out k hkC x W hI.bl hxH.2.at hxC
      rw [← hv] at this; exact this)
    have c3 : W.cell? ⟨w.heap.size, 0, none⟩ = some (.func (.func 72) #[] #[.pointer (some ⟨g4, 0, none⟩), .pointer (some ⟨g5, 0, none⟩), .pointer (some ⟨g6, 0, none⟩), .pointer (some ⟨g7, 0, none⟩)]) := (World.cell?_of_block (a := ⟨w.heap.size, 0, none⟩) hI.b3).trans HV3.out
    have HI := Lib.hid hI
    have HYH := Lib.hid hyH
    have HXH := Lib.hid hxH
    have HXI := Lib.hid hxI
    have HXC := Lib.hid hxC
    have HVV := Lib.hid hv
    rw [← hv] at hvb
    have hvM : v < 9223372036854775807 := by omega
    have hWsz : V.heap.size ≤ W.heap.size := hsz
    clear hx hI hyH hxH hxI hxC hv hsz
    gi_wp2
    refine ⟨trivial, fun _ => by omega, (callsIn_wide.2 CL.out).mono ?_⟩
    rintro e W2 ⟨rfl, hb2⟩
    have hI2 := HI.out.keep hb2 (by omega)
    have HI2 := Lib.hid hI2
    have c5 := hI2.b5.cell
    have c6 := hI2.b6.cell
    have f5 := hI2.b5.frozen
    have f6 := hI2.b6.frozen
    have HYL : Hid (y.l.length = (firstE φ (C.take k)).length) := Lib.hid (by rw [hI2.yl, up_length])
    have HB2 := Lib.hid hb2
    have hsz2 := hb2.size
    have HSTORE : Hid (firstE φ (C.take (k + 1)) = C[k] → ∀ W', W' = (W2.setCell ⟨w.heap.size + 1 + 1, 0, none⟩ (.slice x.a x.l.length x.c)).setCell ⟨w.heap.size + 1 + 1 + 1, 0, none⟩ (.int .i64 v) → RoundEnd (HoldsMove w.heap.size V w φ C) k y x (w.heap.size + 1 + 1) (w.heap.size + 1 + 1 + 1 + 1) W .normal { tmps := #[], defers := [] } W') := Lib.hid (fun hs W' hW' => by
      have t2 : Touch (w.heap.size + 1 + 1) (w.heap.size + 1 + 1 + 1 + 1) W2 W' := by
        rw [hW']; exact ((Touch.refl _ _ W2).set (Nat.le_refl _) (by omega) 0 _).set (by omega) (by omega) 0 _
      have hx2 := HXH.out.on hb2
      have hxi2 : x.In V.heap.size W2.heap.size W2 := (HXI.out.on hb2).wide (Nat.le_refl _) hb2.size
      refine ⟨(Touch.of_below hb2).trans t2, x, .inr rfl, ⟨?_, ?_, ?_, hI2.bl.trans (t2.below (by omega) (by omega)), by rw [hs]; exact HXC.out, fun hl a ha => by have := in_ge HXI.out hl a ha; omega⟩, hx2.1.touch hxi2 t2 (.inr (by omega)), ((hxi2.touch t2 (.inr (by omega))).wide (Nat.zero_le _) t2.size)⟩
      · rw [hW']
        exact (hI2.b5.set (.slice x.a x.l.length x.c)).kept (grownBy_setCell' _ (w.heap.size + 1 + 1 + 1) (.int .i64 v)) (by intro e; injection e with e; omega)
      · rw [hW', hs, if_neg (Nat.succ_ne_zero k), ← HVV.out]
        have h6 : Boxed (W2.setCell ⟨w.heap.size + 1 + 1, 0, none⟩ (.slice x.a x.l.length x.c)) (w.heap.size + 1 + 1 + 1) 3 _ := hI2.b6.kept (grownBy_setCell' _ (w.heap.size + 1 + 1) _) (by intro e; injection e with e; omega)
        exact h6.set (.int .i64 v)
      · exact (t2.block _ (by omega) (by omega)).trans hI2.b3)
    have HKEEP : Hid (firstE φ (C.take (k + 1)) = firstE φ (C.take k) → k ≠ 0 → RoundEnd (HoldsMove w.heap.size V w φ C) k y x (w.heap.size + 1 + 1) (w.heap.size + 1 + 1 + 1 + 1) W .normal { tmps := #[], defers := [] } W2) := Lib.hid (fun hs hk0 => by
      refine ⟨Touch.of_below hb2, y, .inl rfl, ⟨hI2.b5, ?_, hI2.b3, hI2.bl, by rw [hs]; exact hI2.yl, hI2.ge⟩, HYH.out.on hb2⟩
      have := hI2.b6
      rw [if_neg hk0] at this
      rw [hs, if_neg (Nat.succ_ne_zero k)]; exact this)
    clear hI2 hb2 c3
    by_cases hk0 : k = 0
    · rw [if_pos hk0] at c6
      have HS := Lib.hid (HSTORE.out (firstE_zero φ C hkC hk0) _ rfl)
      gi_wp2
      exact HS.out
    · rw [if_neg hk0] at c6
      obtain ⟨z, hz⟩ : ∃ z, z = φ (firstE φ (C.take k)) := ⟨_, rfl⟩
      rw [← hz] at c6
      have HZ := Lib.hid hz
      clear hz
      by_cases hvz : v < z
      · have HS := Lib.hid (HSTORE.out (by rw [firstE_step φ C hkC hk0]; unfold stepE; rw [if_pos (by rw [← HVV.out, ← HZ.out]; exact hvz)]) _ rfl)
        gi_wp2
        exact HS.out
      · have HS := Lib.hid (HKEEP.out (by rw [firstE_step φ C hkC hk0]; unfold stepE; rw [if_neg (by rw [← HVV.out, ← HZ.out]; exact hvz)]) hk0)
        gi_wp2
        exact HS.out
  case done =>
    intro D y W hD hI hyH hK
    have c5 := hI.b5.cell
    have HI := Lib.hid hI
    have HYH := Lib.hid hyH
    have hsv2 := HSV.out
    clear hI hyH
    gi_wp2
    refine ⟨by simp, .inl ⟨_, _, rfl, run_takeDeferred hK, ?_⟩⟩
    refine ⟨_, results_tmp rfl _ _ _, y, rfl, ?_, ?_, ?_, ?_⟩
    · have := HI.out.yl
      rw [HCL.out, List.take_length] at this; exact this
    · exact (held_put HYH.out _ hK rfl).1
    · exact held_in (held_put HYH.out _ hK rfl) HI.out.ge
    · exact HI.out.bl.trans (put_below _ (by omega))
end Go.Proofs.Ytifgmbljimfebaa
