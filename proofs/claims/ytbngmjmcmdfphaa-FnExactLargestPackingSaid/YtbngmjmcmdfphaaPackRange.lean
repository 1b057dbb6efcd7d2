/- LargestPacking, the program's side. Condition: the System reads as such. -/
import Derived.Test.YtbngmjmcmdfphaaPackImpl
import Derived.Test.YtbngmjmcmdfphaaChoiceTab
import Derived.Test.YtbngmjmcmdfphaaPairIsSystem
namespace Go.Proofs.Ytbngmjmcmdfphaa
open Go.RowKit Go.Shelf
attribute [local go_sem] Oper.semAt_some

/-- The first packing with the most sets among these choices. -/
def packT (p : List Nat → Bool) (C : List (List Nat)) : List Nat := C.foldl (fun b T => if b.length < T.length ∧ p T = true then T else b) []
theorem packT_step (p : List Nat → Bool) (C : List (List Nat)) {k : Nat} (h : k < C.length) : packT p (C.take (k + 1)) = if (packT p (C.take k)).length < C[k].length ∧ p C[k] = true then C[k] else packT p (C.take k) := by
  unfold packT; rw [List.take_succ_eq_append_getElem h, List.foldl_append]; rfl
theorem packT_mem (p : List Nat → Bool) (C : List (List Nat)) : ∀ k, k ≤ C.length → packT p (C.take k) = [] ∨ packT p (C.take k) ∈ C
  | 0, _ => .inl rfl
  | k + 1, h => by
    rw [packT_step p C (k := k) (by omega)]
    split
    · exact .inr (List.getElem_mem _)
    · exact packT_mem p C k (by omega)
theorem packT_few {p : List Nat → Bool} {N : Nat} (hN : N ≤ 8) (k : Nat) : (packT p ((choL N N).take k)).length ≤ 8 := by
  by_cases hk : k ≤ (choL N N).length
  · rcases packT_mem p (choL N N) k hk with h | h
    · rw [h]; simp
    · exact (cho_ok hN h).2.1
  · rw [List.take_of_length_le (by omega)]
    rcases packT_mem p (choL N N) (choL N N).length (Nat.le_refl _) with h | h
    · rw [List.take_length] at h; rw [h]; simp
    · rw [List.take_length] at h; exact (cho_ok hN h).2.1

set_option maxHeartbeats 1000000 in
theorem choicesUp_any (n k : Nat) (w : World) :
    Calls Try.prog 30 #[.int .i64 n, .int .i64 k] w fun e w' => ∃ Bs Bk, e = .returned (.func (.func 52) #[] #[.pointer (some ⟨Bs, 0, none⟩), .pointer (some ⟨Bk, 0, none⟩)]) ∧ (w.heap.size ≤ Bs ∧ w.heap.size ≤ Bk) ∧ Hid (w'.cell? ⟨Bs, 0, none⟩ = some (.int .i64 n)) ∧ Hid (w'.cell? ⟨Bk, 0, none⟩ = some (.int .i64 k)) ∧ Below w.heap.size w w' := by
  have HB := Lib.hid ((below_alloc w (.cells #[.int .i64 n] 3)).alloc (by simp) (.cells #[.int .i64 k] 3))
  have H0 := Lib.hid ((Boxed.new w 3 (.int .i64 n)).alloc (.cells #[.int .i64 k] 3)).cell
  have H1 := Lib.hid (Boxed.new (w.alloc (.cells #[.int .i64 n] 3)) 3 (.int .i64 k)).cell
  go_enter Try.func30, Try.ntmps30
  go_wp2
  go_ret
  exact ⟨w.heap.size, w.heap.size + 1, rfl, ⟨Nat.le_refl _, by omega⟩, Lib.hid H0.out, Lib.hid (by have := H1.out; simp only [World.size_alloc] at this; exact this), HB.out⟩

/-- What the search holds between two rounds. -/
structure HoldsPack (B : Nat) (V w : World) (p : List Nat → Bool) (C : List (List Nat)) (k : Nat) (y : Row) (W : World) : Prop where
  b4 : Boxed W (B + 1 + 1) 23 (.slice y.a y.l.length y.c)
  b0 : W.heap[B]? = V.heap[B]?
  bl : Below B w W
  yl : y.l = up (packT p (C.take k))
  ge : y.Ge B
theorem HoldsPack.keep {B M : Nat} {V w : World} {p : List Nat → Bool} {C : List (List Nat)} {k : Nat} {y : Row} {A A' : World} (h : HoldsPack B V w p C k y A) (hb : Below M A A') (hM : B + 1 + 1 + 1 ≤ M) : HoldsPack B V w p C k y A' :=
  ⟨(hb.block _ (by omega)).trans h.b4, (hb.block _ (by omega)).trans h.b0, h.bl.trans (hb.mono (by omega)), h.yl, h.ge⟩

set_option maxRecDepth 100000 in
set_option maxHeartbeats 4000000 in
theorem implPack_in (n : Nat) (hn : 8 ≤ n) (S : Sys) (w : World) (hS : S.At w) (l : List Int) (b : Bool) (hb0 : b = S.good) (hl0 : l = if b then up (packT (packB S.f.t.con) (choL S.f.t.R.length S.f.t.R.length)) else []) :
    CallsIn Fence.wide n Try.prog 19 #[.agg #[.int .i64 S.n, .slice S.f.t.a S.f.t.R.length S.f.t.c, .slice S.f.o.a S.f.o.l.length S.f.o.c]] w (PInts l b w) := by
  have h1 : 1 ≤ n := by omega
  obtain ⟨wA, hA, hb, bx, hSA, hszA⟩ := laid_sys S w 29 hS
  obtain ⟨wD, hD⟩ : ∃ u, u = (wA.alloc (.cells #[] 3)).alloc (.cells #[.slice (some ⟨w.heap.size + 1, 0, none⟩) 0 0] 23) := ⟨_, rfl⟩
  have hbD : Below w.heap.size w wD := by rw [hD]; exact (hb.alloc (by rw [hszA]; omega) _).alloc (by rw [size_alloc, hszA]; omega) _
  have szD : wD.heap.size = w.heap.size + 1 + 1 + 1 := by rw [hD, size_alloc, size_alloc, hszA]
  have b4D : Boxed wD (w.heap.size + 1 + 1) 23 (.slice (some ⟨w.heap.size + 1, 0, none⟩) 0 0) := by
    rw [hD]
    have := Boxed.new (wA.alloc (.cells #[] 3)) 23 (.slice (some ⟨w.heap.size + 1, 0, none⟩) 0 0)
    rw [size_alloc, hszA] at this; exact this
  obtain ⟨y0, hy0v, hy0l, hy0o, hy0i⟩ := row_of_own (l := []) (show wD.ownsRow (w.heap.size + 1) 3 1 (.slice (some ⟨w.heap.size + 1, 0, none⟩) 0 0) ([] : List Int).length (iv []) by
    have := (empty_own wA).alloc (.cells #[.slice (some ⟨w.heap.size + 1, 0, none⟩) 0 0] 23)
    rw [← hD, hszA] at this; exact this)
  have CT := Lib.hid (by have := implIsSystem_any S wD (Sys.At.on hS hbD); rw [← hb0] at this; exact this)
  have bxD : Box3 wD w.heap.size (.int .i64 S.n) (.slice S.f.t.a S.f.t.R.length S.f.t.c) (.slice S.f.o.a S.f.o.l.length S.f.o.c) 29 := bx.on (show Below wA.heap.size wA wD by rw [hD]; exact (below_alloc wA _).alloc (by rw [size_alloc]; omega) _)
  have HBXD := Lib.hid bxD
  have HY0 := Lib.hid (And.intro hy0v (And.intro hy0l (And.intro hy0o hy0i)))
  have HS := Lib.hid hS
  have HB0 := Lib.hid hb0
  have HL0 := Lib.hid hl0
  have HBD := Lib.hid hbD
  have HSD := Lib.hid szD
  have HB4 := Lib.hid b4D
  have HA := Lib.hid hA
  have HD := Lib.hid hD
  have x0 := bx.c0
  have x1 := bx.c1
  have x2 := bx.c2
  rw [hA] at x0 x1 x2
  clear hA hD hS hb0 hl0 hbD b4D bx bxD hy0v hy0l hy0o hy0i hSA hb hszA szD
  refine callsIn_of_wp_marks Try.func19 rfl trivial ?_ rfl
  simp only [Try.ntmps19, List.size_toArray, List.length_cons, List.length_nil, Nat.reduceAdd, Nat.reduceSub, Array.replicate_succ, Array.replicate_zero, List.push_toArray, List.append_toArray, List.nil_append, List.cons_append]
  gi_wp2
  rw [← HA.out, ← HD.out]
  refine ⟨trivial, (callsIn_wide.2 CT.out).mono ?_⟩
  rintro e W1 ⟨rfl, hb1⟩
  clear x0 x1 x2
  have HB1 := Lib.hid hb1
  have szD := HSD.out
  have hsz1 := hb1.size
  have hb41 : Boxed W1 (w.heap.size + 1 + 1) 23 (.slice (some ⟨w.heap.size + 1, 0, none⟩) 0 0) := (hb1.block _ (by omega)).trans HB4.out
  have c4 := hb41.cell
  have HB41 := Lib.hid hb41
  have HBW1 := Lib.hid (HBD.out.trans (hb1.mono HBD.out.size))
  clear hb1 hb41
  cases b with
  | false =>
    have HEND : Hid (PInts l false w (.returned (.tuple #[.slice (some ⟨w.heap.size + 1, 0, none⟩) 0 0, .bool false])) W1) := Lib.hid (by
      obtain ⟨h1, h2, h3, h4⟩ := HY0.out
      have e : l = [] := HL0.out
      rw [h1, e]
      exact ⟨y0, rfl, h2, h3.on HB1.out, ((h4.on HB1.out).wide (by omega) hsz1), HBW1.out⟩)
    gi_wp2
    exact ⟨_, by simp [results, Try.results19, go_sem], HEND.out⟩
  | true =>
    have hg : S.good = true := HB0.out.symm
    obtain ⟨-, -, -, hN8, -, -, -⟩ := good_n hg
    have hNR : S.f.t.con.length = S.f.t.R.length := con_length S.f.t
    have hR8 : S.f.t.R.length ≤ 8 := by omega
    have hRi : (S.f.t.R.length : Int) ≤ 8 := by omega
    have CC := Lib.hid (choicesUp_any S.f.t.R.length S.f.t.R.length W1)
    have HBX1 := Lib.hid (HBXD.out.on HB1.out)
    have x0 := HBX1.out.c0
    have x1 := HBX1.out.c1
    have x2 := HBX1.out.c2
    have HNR := Lib.hid hNR
    have HGD := Lib.hid hg
    clear hg hNR hN8
    gi_wp2
    refine ⟨trivial, (callsIn_wide.2 CC.out).mono ?_⟩
    rintro e W2 ⟨Bs, Bk, rfl, hBB, HBS, HBK, hb2⟩
    have HBB := Lib.hid hBB
    have HB2 := Lib.hid hb2
    have HBW2 := Lib.hid (HBW1.out.trans (hb2.mono HBW1.out.size))
    have hsz2 := hb2.size
    clear hb2 hBB x0 x1 x2 c4
    obtain ⟨p, hp⟩ : ∃ p, p = packB S.f.t.con := ⟨_, rfl⟩
    obtain ⟨C, hC⟩ : ∃ C, C = choL S.f.t.R.length (min S.f.t.R.length S.f.t.R.length) := ⟨_, rfl⟩
    have HSQ := (choices_seqX (n - 1) (by omega) Bs Bk S.f.t.R.length S.f.t.R.length W2 hR8 hR8 HBS.out HBK.out (w.heap.size + 1 + 1 + 1) W2.heap.size (by have := HBB.out.1; omega) (World.block_lt_of_cell? W2 _ HBS.out) (by have := HBB.out.2; omega) (World.block_lt_of_cell? W2 _ HBK.out)).all
    rw [← hC] at HSQ
    have HSQ' := Lib.hid HSQ
    have hC2 : C = choL S.f.t.R.length S.f.t.R.length := by rw [hC, Nat.min_self]
    have HLL : Hid (l = up (packT p C)) := Lib.hid (by first | rw [HL0.out, if_pos rfl, hp, hC2] | rw [HL0.out, if_pos trivial, hp, hC2])
    have HOK : Hid (∀ T ∈ C, setB S.f.t.R.length (up T) = true ∧ T.length ≤ 8 ∧ ∀ x ∈ T, x < S.f.t.R.length) := Lib.hid (fun T hT => cho_ok hR8 (by rw [← hC2]; exact hT))
    have HFW : Hid (∀ k, (packT p (C.take k)).length ≤ 8) := Lib.hid (fun k => by rw [hC2]; exact packT_few hR8 k)
    have HPP := Lib.hid hp
    have HCL : Hid ((C.map up).length = C.length) := Lib.hid (List.length_map _)
    have hy0 : y0.Held W2 := by
      obtain ⟨h1, h2, h3, h4⟩ := HY0.out
      exact ⟨(h3.on HB1.out).on HB2.out, (((h4.on HB1.out).on HB2.out).wide (Nat.zero_le _) (by omega))⟩
    have hge0 : y0.Ge w.heap.size := fun hl => absurd HY0.out.2.1 hl
    have b42 : Boxed W2 (w.heap.size + 1 + 1) 23 (.slice y0.a y0.l.length y0.c) := by
      rw [← HY0.out.1]; exact (HB2.out.block _ (by omega)).trans HB41.out
    have h00 : HoldsPack w.heap.size W2 w p C 0 y0 W2 := ⟨b42, rfl, HBW2.out, HY0.out.2.1, hge0⟩
    have H00 := Lib.hid h00
    clear hp hC HSQ hC2 hge0 b42 h00
    gi_wp2
    refine wpIn_rangeLists (F := Fence.wide) rfl h1 (gf := 52) (lb := #[.pointer (some ⟨Bs, 0, none⟩), .pointer (some ⟨Bk, 0, none⟩)]) rfl trivial (enters_of Try.func52 (by kernel_rfl) rfl) HSQ'.out (Below.refl _ _) rfl (w.heap.size + 1 + 1) (w.heap.size + 1 + 1 + 1) (.inl (Nat.le_refl _)) (by omega)
      (HoldsPack w.heap.size W2 w p C) (fun k y A B h hb => h.keep hb (by omega)) y0 H00.out hy0
      (fun x => { tmps := #[.agg #[.int .i64 S.n, .slice S.f.t.a S.f.t.R.length S.f.t.c, .slice S.f.o.a S.f.o.l.length S.f.o.c], .pointer (some ⟨w.heap.size, 0, none⟩), .slice none 0 0, .bool false, .pointer (some ⟨w.heap.size + 1 + 1, 0, none⟩), .slice x.a x.l.length x.c, .slice (some ⟨w.heap.size + 1, 0, none⟩) 0 0, .agg #[.int .i64 S.n, .slice S.f.t.a S.f.t.R.length S.f.t.c, .slice S.f.o.a S.f.o.l.length S.f.o.c], .bool true, .bool false, undef, .pointer (some ⟨w.heap.size, 1, none⟩), .slice S.f.t.a S.f.t.R.length S.f.t.c, .int .i64 S.f.t.R.length, .pointer (some ⟨w.heap.size, 1, none⟩), .slice S.f.t.a S.f.t.R.length S.f.t.c, .int .i64 S.f.t.R.length, .func (.func 52) #[] #[.pointer (some ⟨Bs, 0, none⟩), .pointer (some ⟨Bk, 0, none⟩)], .slice x.a x.l.length x.c, undef, undef, undef, undef, undef, undef, undef, undef, undef, undef, undef, undef], defers := [] }) ?assign ?body ?done
    case assign =>
      intro l x W K hK
      gi_wp2
      exact hK
    case body =>
      intro l' k y x W hk hx hI hyH hxH hxI hsz
      have hkC : k < C.length := by rw [HCL.out] at hk; exact hk
      have hxC : x.l = up C[k] := by rw [hx, List.getElem_map]
      have hok := HOK.out _ (List.getElem_mem hkC)
      have hST := packT_step p C hkC
      have HI := Lib.hid hI
      have HYH := Lib.hid hyH
      have HXH := Lib.hid hxH
      have HXI := Lib.hid hxI
      have hxl : x.l.length = C[k].length := by rw [hxC, up_length]
      have hyl : y.l.length = (packT p (C.take k)).length := by rw [hI.yl, up_length]
      have hx8 : (x.l.length : Int) ≤ 8 := by have := hok.2.1; omega
      have hy8 : (y.l.length : Int) ≤ 8 := by have := HFW.out k; omega
      have hSW : S.At W := Sys.At.on HS.out hI.bl
      have bxW : Box3 W w.heap.size (.int .i64 S.n) (.slice S.f.t.a S.f.t.R.length S.f.t.c) (.slice S.f.o.a S.f.o.l.length S.f.o.c) 29 := by
        have := (HBX1.out.on HB2.out)
        exact hI.b0.trans this
      have x0 := bxW.c0
      have x1 := bxW.c1
      have x2 := bxW.c2
      obtain ⟨v, hv⟩ : ∃ v, v = p C[k] := ⟨_, rfl⟩
      have CI := Lib.hid (by
        have := isPacking_any S x C[k] W hSW hxH.2.at ⟨HGD.out, hxC, by rw [HNR.out]; exact hok.2.2, hok.2.1, by rw [HNR.out]; exact hok.1⟩
        rw [← HPP.out, ← hv] at this
        exact this)
      have c4 := hI.b4.cell
      have HXC := Lib.hid hxC
      have hWsz := hsz
      have HKEEP : Hid (packT p (C.take (k + 1)) = packT p (C.take k) → ∀ W', Below W.heap.size W W' → RoundEnd (HoldsPack w.heap.size W2 w p C) k y x (w.heap.size + 1 + 1) (w.heap.size + 1 + 1 + 1) W .normal { tmps := #[], defers := [] } W') := Lib.hid (fun hs W' hW' => by
        have hI2 := HI.out.keep hW' (by omega)
        exact ⟨Touch.of_below hW', y, .inl rfl, ⟨hI2.b4, hI2.b0, hI2.bl, by rw [hs]; exact hI2.yl, hI2.ge⟩, HYH.out.on hW'⟩)
      have HSTORE : Hid (packT p (C.take (k + 1)) = C[k] → ∀ W3, Below W.heap.size W W3 → ∀ W', W' = W3.setCell ⟨w.heap.size + 1 + 1, 0, none⟩ (.slice x.a x.l.length x.c) → RoundEnd (HoldsPack w.heap.size W2 w p C) k y x (w.heap.size + 1 + 1) (w.heap.size + 1 + 1 + 1) W .normal { tmps := #[], defers := [] } W') := Lib.hid (fun hs W3 hb3 W' hW' => by
        have hI2 := HI.out.keep hb3 (by omega)
        have hsz3 := hb3.size
        have t2 : Touch (w.heap.size + 1 + 1) (w.heap.size + 1 + 1 + 1) W3 W' := by rw [hW']; exact (Touch.refl _ _ W3).set (Nat.le_refl _) (by omega) 0 _
        have hx2 := HXH.out.on hb3
        have hxi2 : x.In W2.heap.size W3.heap.size W3 := (HXI.out.on hb3).wide (Nat.le_refl _) hb3.size
        refine ⟨(Touch.of_below hb3).trans t2, x, .inr rfl, ⟨?_, (t2.block _ (by omega) (by omega)).trans hI2.b0, hI2.bl.trans (t2.below (by omega) (by omega)), by rw [hs]; exact HXC.out, fun hl a ha => by have := in_ge HXI.out hl a ha; omega⟩, hx2.1.touch hxi2 t2 (.inr (by omega)), ((hxi2.touch t2 (.inr (by omega))).wide (Nat.zero_le _) t2.size)⟩
        rw [hW']
        exact hI2.b4.set (.slice x.a x.l.length x.c))
      have HST := Lib.hid hST
      have HVV := Lib.hid hv
      have HXL := Lib.hid hxl
      have HYL := Lib.hid hyl
      have f4 := hI.b4.frozen
      clear hx hI hyH hxH hxI hxC hok hST hxl hyl hSW bxW hv hsz
      by_cases hgt : y.l.length < x.l.length
      · have hgti : (y.l.length : Int) < (x.l.length : Int) := by omega
        cases v with
        | false =>
          have HK := Lib.hid (HKEEP.out (by rw [HST.out, if_neg (fun h => by rw [← HVV.out] at h; exact Bool.noConfusion h.2)]))
          gi_wp2
          refine ⟨trivial, fun _ => by omega, (callsIn_wide.2 CI.out).mono ?_⟩
          rintro e W3 ⟨rfl, hb3⟩
          have HK3 := Lib.hid (HK.out W3 hb3)
          clear hb3
          gi_wp2
          exact HK3.out
        | true =>
          have HT := Lib.hid (HSTORE.out (by rw [HST.out, if_pos ⟨by rw [← HXL.out, ← HYL.out]; exact hgt, HVV.out.symm⟩]))
          gi_wp2
          refine ⟨trivial, fun _ => by omega, (callsIn_wide.2 CI.out).mono ?_⟩
          rintro e W3 ⟨rfl, hb3⟩
          have HT3 := Lib.hid (HT.out W3 hb3 _ rfl)
          have hI3 := HI.out.keep hb3 (by omega)
          have c43 := hI3.b4.cell
          have f43 := hI3.b4.frozen
          clear hb3 hI3
          gi_wp2
          exact HT3.out
      · have hgti : ¬ (y.l.length : Int) < (x.l.length : Int) := by omega
        have HK := Lib.hid (HKEEP.out (by rw [HST.out, if_neg (fun h => hgt (by rw [HXL.out, HYL.out]; exact h.1))]) W (Below.refl _ _))
        gi_wp2
        refine ⟨trivial, ?_⟩
        gi_wp2
        exact HK.out
    case done =>
      intro D y W hD hI hyH hK
      have c4 := hI.b4.cell
      have HI := Lib.hid hI
      have HYH := Lib.hid hyH
      have HBW := Lib.hid HBW2.out.size
      clear hI hyH
      gi_wp2
      refine ⟨by simp, .inl ⟨_, _, rfl, run_takeDeferred hK, ?_⟩⟩
      refine ⟨_, by simp [results, Try.results19, go_sem], y, rfl, ?_, ?_, ?_, ?_⟩
      · have := HI.out.yl
        rw [HCL.out, List.take_length] at this; rw [this, HLL.out]
      · exact (held_put HYH.out _ hK rfl).1
      · exact held_in (held_put HYH.out _ hK rfl) HI.out.ge
      · exact HI.out.bl.trans (put_below _ (by have := HBW.out; omega))
end Go.Proofs.Ytbngmjmcmdfphaa
