/- LargestFar, the program's side. Condition: the Field reads as such. -/
import Derived.Test.YtjeodblaekdpkaaSizeSeq
import Derived.Test.YtjeodblaekdpkaaPlainMost
import Derived.Test.YtjeodblaekdpkaaPairAreFarClients
namespace Go.Proofs.Ytjeodblaekdpkaa
open Go.RowKit Go.Shelf
attribute [local go_sem] Oper.semAt_some

def farB (F : Fld) (r : Int) (T : List Nat) : Bool := farUp F r T T.length
theorem farB_nil (F : Fld) (r : Int) : farB F r [] = true := rfl
theorem farB_like {F G : Fld} (h : F.Like G) (r : Int) : farB F r = farB G r := by funext T; unfold farB; rw [farUp_like h]
def mostF (F : Fld) (r : Int) : List Nat := mostT (farB F r) F.t.R.length (2 ^ F.t.R.length)
theorem mostF_like {F G : Fld} (h : F.Like G) (r : Int) : mostF F r = mostF G r := by unfold mostF; rw [farB_like h, far_rows h]
def Larg (F : Fld) (r : Int) (l : List Int) (b : Bool) : Prop :=
  ((F.good && decide (0 ≤ r)) = false ∧ l = [] ∧ b = false) ∨ (F.good = true ∧ 0 ≤ r ∧ l = up (mostF F r) ∧ b = true)
theorem larg_like {F G : Fld} {r : Int} {l : List Int} {b : Bool} (h : Larg F r l b) (hl : G.Like F) : Larg G r l b := by
  rcases h with ⟨h1, h2⟩ | ⟨h1, h2, h3⟩
  · exact .inl ⟨by rw [hl.good]; exact h1, h2⟩
  · exact .inr ⟨by rw [hl.good]; exact h1, h2, by rw [mostF_like hl]; exact h3⟩
theorem mostF_ok {F : Fld} (hg : F.good = true) (r : Int) : (mostF F r).length ≤ 7 ∧ ∀ x ∈ mostF F r, x < F.t.R.length :=
  most_ok (good_sizes hg).2.2 _ (farB_nil F r) _ (Nat.le_refl _)
theorem larg_some (F : Fld) (r : Int) : ∃ l b, Larg F r l b ∧ l.length ≤ 1048576 := by
  by_cases h : (F.good && decide (0 ≤ r)) = true
  · simp only [Bool.and_eq_true, decide_eq_true_eq] at h
    refine ⟨_, _, .inr ⟨h.1, h.2, rfl, rfl⟩, ?_⟩
    have := (mostF_ok h.1 r).1
    rw [up_length]; omega
  · exact ⟨_, _, .inl ⟨by simpa using h, rfl, rfl⟩, by simp⟩
theorem larg_no {F : Fld} {r : Int} {l : List Int} {b : Bool} (h : Larg F r l b) (hn : (F.good && decide (0 ≤ r)) = false) : l = [] ∧ b = false := by
  rcases h with ⟨_, h⟩ | ⟨h1, h2, _⟩
  · exact h
  · rw [h1, decide_eq_true h2] at hn; cases hn
theorem larg_yes {F : Fld} {r : Int} {l : List Int} {b : Bool} (h : Larg F r l b) (hn : (F.good && decide (0 ≤ r)) = true) : l = up (mostF F r) ∧ b = true := by
  rcases h with ⟨h, _⟩ | ⟨_, _, h⟩
  · rw [hn] at h; cases h
  · exact h

/-- How the search by sizes stands between two sizes. -/
structure FarAt (B : Nat) (p : List Nat → Bool) (n d : Nat) (W1 : World) (ds : List Deferred) (wr : World) : Prop where
  none : ∀ T ∈ preD n d, p T = false
  bl : Below W1.heap.size W1 wr
  marks : Marks B ds wr

set_option maxRecDepth 100000 in
set_option maxHeartbeats 6000000 in
theorem implLargest_in (n : Nat) (hn : 6 ≤ n) (F : Fld) (r : Int) (w : World) (hF : F.At w) (l : List Int) (b : Bool) (hv : Larg F r l b) :
    CallsIn Fence.wide n Try.prog 25 #[F.val, .int .i64 r] w (PInts l b w) := by
  have h1 : 1 ≤ n := by omega
  obtain ⟨wD, hD⟩ : ∃ u, u = (((w.alloc (Obj.cells #[F.o.val, F.t.val] 29)).alloc (.cells #[.int .i64 r] 3)).alloc (.cells #[.slice none 0 0] 22)).alloc (.cells #[.bool false] 4) := ⟨_, rfl⟩
  have hbD : Below w.heap.size w wD := by rw [hD]; exact (((((Below.refl _ w).alloc (Nat.le_refl _) _).alloc (by simp) _).alloc (by simp; omega) _).alloc (by simp; omega) _)
  have szD : wD.heap.size = w.heap.size + 1 + 1 + 1 + 1 := by rw [hD]; simp only [World.size_alloc]
  have bx : Box2 wD w.heap.size F.o.val F.t.val 29 := by rw [hD]; exact (((Box2.made w _ _ _).later _).later _).later _
  have br : Boxed wD (w.heap.size + 1) 3 (.int .i64 r) := by
    rw [hD]
    have := ((Boxed.new (w.alloc (Obj.cells #[F.o.val, F.t.val] 29)) 3 (.int .i64 r)).alloc (.cells #[.slice none 0 0] 22)).alloc (.cells #[.bool false] 4)
    simp only [World.size_alloc] at this; exact this
  have bs : Boxed wD (w.heap.size + 1 + 1) 22 (.slice none 0 0) := by
    rw [hD]
    have := (Boxed.new ((w.alloc (Obj.cells #[F.o.val, F.t.val] 29)).alloc (.cells #[.int .i64 r] 3)) 22 (.slice none 0 0)).alloc (.cells #[.bool false] 4)
    simp only [World.size_alloc] at this; exact this
  have bb : Boxed wD (w.heap.size + 1 + 1 + 1) 4 (.bool false) := by
    rw [hD]
    have := Boxed.new (((w.alloc (Obj.cells #[F.o.val, F.t.val] 29)).alloc (.cells #[.int .i64 r] 3)).alloc (.cells #[.slice none 0 0] 22)) 4 (.bool false)
    simp only [World.size_alloc] at this; exact this
  obtain ⟨g, hg⟩ : ∃ g, g = (F.good && decide (0 ≤ r)) := ⟨_, rfl⟩
  have CT := Lib.hid (by have := hasRadius_any F r wD (hF.on hbD); rw [← hg] at this; exact this)
  have HG := Lib.hid hg
  have HFD := Lib.hid (hF.on hbD)
  have HBX := Lib.hid bx
  have HBR := Lib.hid br
  have HBS := Lib.hid bs
  have HBB := Lib.hid bb
  have HD := Lib.hid hD
  have HBD := Lib.hid hbD
  have HSD := Lib.hid szD
  have HNO0 := Lib.hid (larg_no hv)
  have HYE0 := Lib.hid (larg_yes hv)
  have x0 := bx.c0
  have x1 := bx.c1
  have x2 := br.cell
  rw [hD] at x0 x1 x2
  clear hF hD hbD bx br bs bb hg hv szD
  show CallsIn _ _ _ _ #[.agg #[F.o.val, F.t.val], _] w _
  refine callsIn_of_wp_marks Try.func25 rfl trivial ?_ rfl
  simp only [Try.ntmps25, List.size_toArray, List.length_cons, List.length_nil, Nat.reduceAdd, Nat.reduceSub, Array.replicate_succ, Array.replicate_zero, List.push_toArray, List.append_toArray, List.nil_append, List.cons_append]
  gi_wp2
  rw [← HD.out]
  refine ⟨trivial, (callsIn_wide.2 CT.out).mono ?_⟩
  rintro e W1 ⟨rfl, hb1⟩
  clear x0 x1 x2
  have HB1 := Lib.hid hb1
  have hsz1 := hb1.size
  have szD := HSD.out
  have bs1 : Boxed W1 (w.heap.size + 1 + 1) 22 (.slice none 0 0) := (hb1.block _ (by omega)).trans HBS.out
  have bb1 : Boxed W1 (w.heap.size + 1 + 1 + 1) 4 (.bool false) := (hb1.block _ (by omega)).trans HBB.out
  have HS1 := Lib.hid bs1
  have HBB1 := Lib.hid bb1
  clear hb1 bs1 bb1
  -- an empty answer: the boxes written, the row made
  have HNO : Hid (∀ u t, Below wD.heap.size wD u → ∀ W', W' = ((u.alloc (.cells #[] 3)).setCell ⟨w.heap.size + 1 + 1, 0, none⟩ (.slice (some ⟨u.heap.size, 0, none⟩) 0 0)).setCell ⟨w.heap.size + 1 + 1 + 1, 0, none⟩ (.bool t) →
      Boxed W' (w.heap.size + 1 + 1) 22 (.slice (some ⟨u.heap.size, 0, none⟩) 0 0) ∧ Boxed W' (w.heap.size + 1 + 1 + 1) 4 (.bool t) ∧ Below w.heap.size w W' ∧ ∃ s : Row, Value.slice (some ⟨u.heap.size, 0, none⟩) 0 0 = .slice s.a s.l.length s.c ∧ s.l = [] ∧ s.Own 3 W' ∧ s.In w.heap.size W'.heap.size W') := Lib.hid fun u t hu W' hW' => by
    have hus := hu.size
    have b2 : Boxed (u.alloc (.cells #[] 3)) (w.heap.size + 1 + 1) 22 (.slice none 0 0) := Boxed.alloc ((hu.block _ (by omega)).trans HBS.out) _
    have b3 : Boxed (u.alloc (.cells #[] 3)) (w.heap.size + 1 + 1 + 1) 4 (.bool false) := Boxed.alloc ((hu.block _ (by omega)).trans HBB.out) _
    obtain ⟨s, ht, htl, hto, hti⟩ := row_of_own (empty_own u)
    have hT : Touch (w.heap.size + 1 + 1) (w.heap.size + 1 + 1 + 1 + 1) (u.alloc (.cells #[] 3)) W' := by
      rw [hW']; exact ((Touch.refl _ _ _).set (Nat.le_refl _) (by omega) 0 _).set (by omega) (by omega) 0 _
    refine ⟨?_, ?_, ?_, s, ht, htl, hto.touch hti hT (.inr (by omega)), (hti.touch hT (.inr (by omega))).wide (by omega) hT.size⟩
    · rw [hW']; exact (b2.set _).kept (grownBy_setCell' _ (w.heap.size + 1 + 1 + 1) (.bool t)) (by intro e; injection e with e; omega)
    · rw [hW']
      have h6 : Boxed ((u.alloc (.cells #[] 3)).setCell ⟨w.heap.size + 1 + 1, 0, none⟩ (.slice (some ⟨u.heap.size, 0, none⟩) 0 0)) (w.heap.size + 1 + 1 + 1) 4 _ := b3.kept (grownBy_setCell' _ (w.heap.size + 1 + 1) _) (by intro e; injection e with e; omega)
      exact h6.set (.bool t)
    · exact ((HBD.out.trans (hu.mono HBD.out.size)).trans ((below_alloc u _).mono (by omega))).trans (hT.below (by omega) (by rw [size_alloc]; omega))
  cases g with
  | false =>
    obtain ⟨rfl, rfl⟩ := HNO0.out HG.out.symm
    have c2 := (HS1.out.alloc (.cells #[] 3)).cell
    have c3 := (HBB1.out.alloc (.cells #[] 3)).cell
    have f2 := (HS1.out.alloc (.cells #[] 3)).frozen
    have f3 := (HBB1.out.alloc (.cells #[] 3)).frozen
    gi_wp2
    obtain ⟨W', hW'⟩ : ∃ W', W' = ((W1.alloc (.cells #[] 3)).setCell ⟨w.heap.size + 1 + 1, 0, none⟩ (.slice (some ⟨W1.heap.size, 0, none⟩) 0 0)).setCell ⟨w.heap.size + 1 + 1 + 1, 0, none⟩ (.bool false) := ⟨_, rfl⟩
    rw [← hW']
    obtain ⟨r2, r3, hb, s, hs, hsl, hso, hsi⟩ := HNO.out W1 false HB1.out W' hW'
    have d2 := r2.cell
    have d3 := r3.cell
    clear hW' c2 c3 f2 f3
    exact ⟨.tuple #[.slice (some ⟨W1.heap.size, 0, none⟩) 0 0, .bool false], by simp [results, Try.results25, go_sem, d2, d3], s, congrArg (fun v => Ending.returned (.tuple #[v, .bool false])) hs, hsl, hso, hsi, hb⟩
  | true =>
    obtain ⟨rfl, rfl⟩ := HYE0.out HG.out.symm
    have hgr : F.good = true ∧ 0 ≤ r := by have := HG.out.symm; simpa using this
    have hsz := good_sizes hgr.1
    obtain ⟨N, hN⟩ : ∃ N, N = F.t.R.length := ⟨_, rfl⟩
    have HN := Lib.hid hN
    have HGR := Lib.hid hgr.1
    have hN7 : N ≤ 7 := by omega
    have hNi : (N : Int) ≤ 7 := by omega
    obtain ⟨p, hp⟩ : ∃ p, p = farB F r := ⟨_, rfl⟩
    have HP := Lib.hid hp
    have HP0 : Hid (p [] = true) := Lib.hid (by rw [hp]; exact farB_nil F r)
    have HMO : Hid ((desc N).find? p = some (mostF F r)) := Lib.hid (by rw [hp, hN]; exact most_desc hsz.2.2 _ (farB_nil F r))
    have y1 : W1.cell? ⟨w.heap.size, 1, none⟩ = some (.slice F.t.a N F.t.c) := by rw [hN]; exact (HBX.out.on HB1.out).c1
    have HA0 : Hid (FarAt W1.heap.size p N 0 W1 [] W1) := Lib.hid ⟨fun T hT => by simp [preD] at hT, Below.refl _ _, ⟨fun d hd => (by cases hd), List.Pairwise.nil⟩⟩
    clear hN hgr hsz hp
    gi_wp2
    clear y1
    refine wpIn_loop_ghost_k (fun k a wr => ∃ (d : Nat) (ds : List Deferred) (u16 u17 u18 u19 u20 u21 u22 u23 u24 : Value), a = { tmps := #[.agg #[F.o.val, F.t.val], .int .i64 r, .pointer (some ⟨w.heap.size, 0, none⟩), .pointer (some ⟨w.heap.size + 1, 0, none⟩), .pointer (some ⟨w.heap.size + 1 + 1, 0, none⟩), .pointer (some ⟨w.heap.size + 1 + 1 + 1, 0, none⟩), .int .i64 ((N : Int) - (d : Int)), undef, .agg #[F.o.val, F.t.val], .int .i64 r, .bool true, .bool false, undef, .pointer (some ⟨w.heap.size, 1, none⟩), .slice F.t.a N F.t.c, .int .i64 N, u16, u17, u18, u19, u20, u21, u22, u23, u24, undef, undef, undef, undef, undef, undef, undef], defers := ds } ∧ d ≤ N ∧ k = N - d ∧ Hid (FarAt W1.heap.size p N d W1 ds wr)) N ⟨0, [], undef, undef, undef, undef, undef, undef, undef, undef, undef, by simp, Nat.zero_le _, by omega, HA0⟩ ?_
    intro gk a wr hinv JJ KK hJJ hKK
    obtain ⟨d, ds, u16, u17, u18, u19, u20, u21, u22, u23, u24, rfl, hd, hgk, HA⟩ := hinv
    subst hgk
    have hszr := HA.out.bl.size
    have HBW := Lib.hid (HB1.out.trans (HA.out.bl.mono HB1.out.size))
    by_cases hlt : d < N
    · have hgt : (0 : Int) < (N : Int) - (d : Int) := by omega
      obtain ⟨K, hK⟩ : ∃ K, K = N - d := ⟨_, rfl⟩
      have hKi : (N : Int) - (d : Int) = (K : Int) := by omega
      have hK1 : 1 ≤ K := by omega
      have hKN : K ≤ N := by omega
      rw [hKi] at hgt ⊢
      have CS := Lib.hid (setsOfSize_any N K wr)
      have HJK := Lib.hid hJJ
      have HKE := Lib.hid hK
      have HKI := Lib.hid hKi
      have y1 : wr.cell? ⟨w.heap.size, 1, none⟩ = some (.slice F.t.a N F.t.c) := by rw [HN.out]; exact (HBX.out.on HBW.out).c1
      have hKi7 : (K : Int) ≤ 7 := by omega
      clear hJJ hK hKi
      gi_wp2
      refine ⟨trivial, (callsIn_wide.2 CS.out).mono ?_⟩
      rintro e W4 ⟨Bc, Bt, rfl, HK, HT, HPB, hb4⟩
      clear y1
      have HB4 := Lib.hid hb4
      have hsz4 := hb4.size
      have hco := combs_ok hN7 hK1 hKN
      have hbk4 : Bc < W4.heap.size := World.block_lt_of_cell? W4 _ HK.out
      have hbt4 : Bt < W4.heap.size := World.block_lt_of_cell? W4 _ HT.out
      have HSQ := Lib.hid (sizes_seqX (n - 1) (by omega) Bc Bt N K W4 hN7 hK1 hKN HK.out HT.out 0 W4.heap.size (Nat.zero_le _) (Nat.zero_le _) hbk4 hbt4)
      have HLC : Hid (((combs N K).map up).length = (combs N K).length) := Lib.hid (List.length_map _)
      have HCO := Lib.hid hco
      obtain ⟨I, hI⟩ : ∃ I : Nat → Row → World → Prop, I = fun i _ A => (∀ j, (hj : j < i) → ∀ h2 : j < (combs N K).length, p (combs N K)[j] = false) ∧ Below W4.heap.size W4 A := ⟨_, rfl⟩
      have HI : Hid (∀ i y A, I i y A ↔ ((∀ j, (hj : j < i) → ∀ h2 : j < (combs N K).length, p (combs N K)[j] = false) ∧ Below W4.heap.size W4 A)) := Lib.hid fun i y A => by rw [hI]
      obtain ⟨Sx, hSx⟩ : ∃ Sx : Code → Row → World → Prop, Sx = fun c y A => c = .ret ∧ Found w.heap.size w p (desc N) y A ∧ (∀ q, W1.heap.size ≤ q → q < W4.heap.size → A.heap[q]? = W4.heap[q]?) ∧ W4.heap.size ≤ A.heap.size := ⟨_, rfl⟩
      have HSX : Hid (∀ c y A, Sx c y A ↔ (c = .ret ∧ Found w.heap.size w p (desc N) y A ∧ (∀ q, W1.heap.size ≤ q → q < W4.heap.size → A.heap[q]? = W4.heap[q]?) ∧ W4.heap.size ≤ A.heap.size)) := Lib.hid fun c y A => by rw [hSx]
      clear hI hSx hb4 hco
      gi_wp2
      refine wpIn_rangeListsX (F := Fence.wide) rfl h1 (gf := 85) (lb := #[.pointer (some ⟨Bc, 0, none⟩), .pointer (some ⟨Bt, 0, none⟩)]) rfl trivial (enters_of Try.func85 (by kernel_rfl) rfl) HSQ.out (Below.refl _ _) rfl 0 0 (.inl (Nat.zero_le _)) (Nat.zero_le _)
        I (fun k y A B h hb => (HI.out _ _ _).2 ⟨((HI.out _ _ _).1 h).1, ((HI.out _ _ _).1 h).2.trans hb⟩)
        Sx (fun c y A B h hb => (HSX.out _ _ _).2 (by
          obtain ⟨i1, i2, i3, i4⟩ := (HSX.out _ _ _).1 h
          exact ⟨i1, i2.keep hb (by omega), fun q h1 h2 => (hb.block q h2).trans (i3 q h1 h2), Nat.le_trans i4 hb.size⟩))
        noRow ((HI.out _ _ _).2 ⟨fun j hj => absurd hj (Nat.not_lt_zero _), Below.refl _ _⟩) (noRow_held _)
        (fun x => { tmps := #[.agg #[F.o.val, F.t.val], .int .i64 r, .pointer (some ⟨w.heap.size, 0, none⟩), .pointer (some ⟨w.heap.size + 1, 0, none⟩), .pointer (some ⟨w.heap.size + 1 + 1, 0, none⟩), .pointer (some ⟨w.heap.size + 1 + 1 + 1, 0, none⟩), .int .i64 K, .slice x.a x.l.length x.c, .agg #[F.o.val, F.t.val], .int .i64 r, .bool true, .bool false, undef, .pointer (some ⟨w.heap.size, 1, none⟩), .slice F.t.a N F.t.c, .int .i64 N, .int .i64 K, .bool true, u18, u19, .pointer (some ⟨w.heap.size, 1, none⟩), .slice F.t.a N F.t.c, .int .i64 N, .int .i64 K, .func (.func 85) #[] #[.pointer (some ⟨Bc, 0, none⟩), .pointer (some ⟨Bt, 0, none⟩)], .slice x.a x.l.length x.c, undef, undef, undef, undef, undef, undef], defers := [] }) ?assign ?body ?done ?stop
      case assign =>
        intro l' x A K' hK'
        gi_wp2
        exact hK'
      case body =>
        intro l' i y x A hi hx hIA hyH hxH hxI hszA
        obtain ⟨i1, i2⟩ := (HI.out _ _ _).1 hIA
        have hiC : i < (combs N K).length := by rw [HLC.out] at hi; exact hi
        have hxC : x.l = up (combs N K)[i] := by rw [hx, List.getElem_map]
        have hok := HCO.out.2.2.1 _ (List.getElem_mem hiC)
        have hbA := HBW.out.trans ((HB4.out.trans (i2.mono HB4.out.size)).mono HBW.out.size)
        obtain ⟨v, hv⟩ : ∃ v, v = p (combs N K)[i] := ⟨_, rfl⟩
        have CL := Lib.hid (by
          have := areFar_any F x (combs N K)[i] r A (HFD.out.on hbA) hxH.2.at HGR.out hxC (by rw [← HN.out]; exact hok.2) (by rw [hxC, up_length, hok.1]; omega)
          rw [show farUp F r (combs N K)[i] (combs N K)[i].length = v by rw [hv, HP.out]; rfl] at this; exact this)
        have x0 := (HBX.out.on hbA).c0
        have x1 := (HBX.out.on hbA).c1
        have x2 := Boxed.cell (show Boxed A (w.heap.size + 1) 3 (.int .i64 r) from (hbA.block _ (by omega)).trans HBR.out)
        have HBA := Lib.hid hbA
        have HPV := Lib.hid hv
        have HI1 := Lib.hid i1
        have HI2 := Lib.hid i2
        have HXC := Lib.hid hxC
        have HXH := Lib.hid hxH
        have HXI := Lib.hid hxI
        have HYH := Lib.hid hyH
        clear hx hIA i1 i2 hxC hok hbA hv hyH hxH hxI
        gi_wp2
        refine ⟨trivial, fun _ => by omega, (callsIn_wide.2 CL.out).mono ?_⟩
        rintro e W3 ⟨rfl, hb3⟩
        have hb3D := HBA.out.trans (hb3.mono HBA.out.size)
        have HB3D := Lib.hid hb3D
        have HB3 := Lib.hid hb3
        have hsz3 := hb3.size
        have e2 : Boxed W3 (w.heap.size + 1 + 1) 22 (.slice none 0 0) := (hb3D.block _ (by omega)).trans HBS.out
        have e3 : Boxed W3 (w.heap.size + 1 + 1 + 1) 4 (.bool false) := (hb3D.block _ (by omega)).trans HBB.out
        have c2 := e2.cell
        have c3 := e3.cell
        have f2 := e2.frozen
        have f3 := e3.frozen
        have hszW4 : W4.heap.size ≤ A.heap.size := hszA
        cases v with
        | true =>
          have HEND : Hid (∀ W', W' = (W3.setCell ⟨w.heap.size + 1 + 1, 0, none⟩ (.slice x.a x.l.length x.c)).setCell ⟨w.heap.size + 1 + 1 + 1, 0, none⟩ (.bool true) → RoundEndX W4.heap.size I Sx i y x 0 0 A .ret { tmps := #[], defers := [] } W') := Lib.hid fun W' hW' => by
            have hT : Touch (w.heap.size + 1 + 1) (w.heap.size + 1 + 1 + 1 + 1) W3 W' := by
              rw [hW']; exact ((Touch.refl _ _ _).set (Nat.le_refl _) (by omega) 0 _).set (by omega) (by omega) 0 _
            have hx3 := HXH.out.on hb3
            have hxi3 : x.In W4.heap.size W3.heap.size W3 := (HXI.out.on hb3).wide (Nat.le_refl _) hb3.size
            have hfind : (desc N).find? p = some (combs N K)[i] := by
              have h := HA.out.none
              simp only [HKE.out]
              exact desc_found hlt h (by rw [← HKE.out]; exact hiC) (fun j hj => by simp only [← HKE.out]; exact HI1.out j hj (by omega)) (by simp only [← HKE.out]; exact HPV.out.symm)
            refine ⟨((Touch.of_below hb3).trans hT).wide (Nat.zero_le _) (by omega), x, .inr rfl, (HSX.out _ _ _).2 ⟨rfl, ⟨⟨_, hfind, HXC.out⟩, ?_, ?_, ?_, fun hl a ha => by have := in_ge HXI.out hl a ha; omega⟩, fun q hq1 hq2 => (hT.block q (by omega) (by omega)).trans ((hb3.block q (by omega)).trans (HI2.out.block q hq2)), by have := hT.size; omega⟩, hx3.1.touch hxi3 hT (.inr (by omega)), (hxi3.touch hT (.inr (by omega))).wide (Nat.zero_le _) hT.size⟩
            · rw [hW']; exact (e2.set _).kept (grownBy_setCell' _ (w.heap.size + 1 + 1 + 1) (.bool true)) (by intro e; injection e with e; omega)
            · rw [hW']
              have h6 : Boxed (W3.setCell ⟨w.heap.size + 1 + 1, 0, none⟩ (.slice x.a x.l.length x.c)) (w.heap.size + 1 + 1 + 1) 4 _ := e3.kept (grownBy_setCell' _ (w.heap.size + 1 + 1) _) (by intro e; injection e with e; omega)
              exact h6.set (.bool true)
            · exact (HBD.out.trans (hb3D.mono HBD.out.size)).trans (hT.below (by omega) (by omega))
          have HE := Lib.hid (HEND.out _ rfl)
          clear HEND hb3 hb3D e2 e3
          gi_wp2
          exact HE.out
        | false =>
          have HE : Hid (RoundEndX W4.heap.size I Sx i y x 0 0 A .normal { tmps := #[], defers := [] } W3) := Lib.hid ⟨Touch.of_below hb3, y, .inl rfl, (HI.out _ _ _).2 ⟨fun j hj h2 => by
              by_cases e : j = i
              · subst e; exact HPV.out.symm
              · exact HI1.out j (by omega) h2, HI2.out.trans (hb3.mono hszW4)⟩, HYH.out.on hb3⟩
          clear hb3 hb3D e2 e3
          gi_wp2
          exact HE.out
      case done =>
        intro D y A hD hIA hyH hKD
        obtain ⟨i1, i2⟩ := (HI.out _ _ _).1 hIA
        have HA2 : Hid (FarAt W1.heap.size p N (d + 1) W1 ({ target := .collected D, args := #[] } :: ds) A) := Lib.hid (by
          refine ⟨fun T hT => ?_, HA.out.bl.trans ((HB4.out.trans (i2.mono HB4.out.size)).mono hszr), ?_⟩
          · rw [preD_step, List.mem_append, ← HKE.out] at hT
            rcases hT with hT | hT
            · exact HA.out.none T hT
            · obtain ⟨j, hj, rfl⟩ := List.mem_iff_getElem.1 hT
              exact i1 j (by rw [HLC.out]; exact hj) hj
          · refine Marks.push (Marks.keep (Marks.keep HA.out.marks (fun b hb1 hb2 => (HB4.out.block b hb2))) (fun b hb1 hb2 => i2.block b hb2)) rfl (by omega) hKD ?_
            intro e he E hE
            obtain ⟨E', h1, h2, h3⟩ := HA.out.marks.at_ e he
            rw [hE] at h1
            cases h1
            have := (Array.getElem?_eq_some_iff.1 h3).1
            omega)
        have HKM : Hid ((K : Int) - 1 = (N : Int) - ((d + 1 : Nat) : Int)) := Lib.hid (by have := HKI.out; omega)
        clear hIA i1 i2 hyH hKD
        gi_wp2
        exact Handed.intro (N - (d + 1)) (by omega) (HJK.out _ _ _ ⟨d + 1, _, _, _, _, _, _, _, _, _, _, by rw [← HKM.out], by omega, rfl, HA2⟩)
      case stop =>
        intro D c y A hD hSA hyH hKD
        obtain ⟨rfl, hfo, i3, i4⟩ := (HSX.out _ _ _).1 hSA
        have HMK : Hid (Marks W1.heap.size ({ target := .collected D, args := #[] } :: ds) A) := Lib.hid (by
          refine Marks.push (Marks.keep (Marks.keep HA.out.marks (fun b hb1 hb2 => (HB4.out.block b hb2))) (fun b hb1 hb2 => i3 b (by omega) hb2)) rfl (by omega) hKD ?_
          intro e he E hE
          obtain ⟨E', h1, h2, h3⟩ := HA.out.marks.at_ e he
          rw [hE] at h1
          cases h1
          have := (Array.getElem?_eq_some_iff.1 h3).1
          omega)
        have HFO := Lib.hid hfo
        have HYY := Lib.hid hyH
        clear hSA hfo i3 i4 hyH hKD
        gi_wp2
        refine leaves_marksR (B := W1.heap.size) (fun A => Found w.heap.size w p (desc N) y A ∧ y.Held A) ?_ ?_ _ A HMK.out ⟨HFO.out, HYY.out⟩
        · rintro A D hD hA ⟨a1, a2⟩
          exact ⟨a1.keep (put_below _ hD) (by omega), held_put a2 _ hA rfl⟩
        · rintro A ⟨a1, a2⟩
          have d2 := a1.b2.cell
          have d3 := a1.b3.cell
          obtain ⟨T, hT, hyl⟩ := a1.set
          rw [HMO.out] at hT
          cases hT
          exact ⟨.tuple #[.slice y.a y.l.length y.c, .bool true], by simp [results, Try.results25, go_sem, d2, d3], y, rfl, hyl, a2.1, held_in a2 a1.ge, a1.bl⟩
    · obtain rfl : d = N := by omega
      have hgt : (d : Int) - (d : Int) = 0 := by omega
      rw [hgt]
      have HMM := Lib.hid HA.out.marks
      have HEM : Hid (mostF F r = []) := Lib.hid (by
        have h := desc_empty HA.out.none HP0.out
        rw [HMO.out] at h; exact Option.some.inj h)
      have e2 : Boxed wr (w.heap.size + 1 + 1) 22 (.slice none 0 0) := (HBW.out.block _ (by omega)).trans HBS.out
      have e3 : Boxed wr (w.heap.size + 1 + 1 + 1) 4 (.bool false) := (HBW.out.block _ (by omega)).trans HBB.out
      have c2 := (e2.alloc (.cells #[] 3)).cell
      have c3 := (e3.alloc (.cells #[] 3)).cell
      have f2 := (e2.alloc (.cells #[] 3)).frozen
      have f3 := (e3.alloc (.cells #[] 3)).frozen
      clear e2 e3
      gi_wp2
      obtain ⟨W', hW'⟩ : ∃ W', W' = ((wr.alloc (.cells #[] 3)).setCell ⟨w.heap.size + 1 + 1, 0, none⟩ (.slice (some ⟨wr.heap.size, 0, none⟩) 0 0)).setCell ⟨w.heap.size + 1 + 1 + 1, 0, none⟩ (.bool true) := ⟨_, rfl⟩
      have hT : Touch (w.heap.size + 1 + 1) (w.heap.size + 1 + 1 + 1 + 1) (wr.alloc (.cells #[] 3)) W' := by
        rw [hW']; exact ((Touch.refl _ _ _).set (Nat.le_refl _) (by omega) 0 _).set (by omega) (by omega) 0 _
      rw [← hW']
      obtain ⟨r2, r3, hb, s, hs, hsl, hso, hsi⟩ := HNO.out wr true HBW.out W' hW'
      have HM2 : Marks W1.heap.size ds W' := (Marks.keep HMM.out (fun b hb1 hb2 => (below_alloc wr (.cells #[] 3)).block b hb2)).keep (fun b hb1 hb2 => hT.block b hb2 (by omega))
      clear hW' c2 c3 f2 f3
      refine leaves_marksR (B := W1.heap.size) (fun A => Boxed A (w.heap.size + 1 + 1) 22 (.slice (some ⟨wr.heap.size, 0, none⟩) 0 0) ∧ Boxed A (w.heap.size + 1 + 1 + 1) 4 (.bool true) ∧ Below w.heap.size w A ∧ s.Held A) ?_ ?_ _ W' HM2 ⟨r2, r3, hb, hso, hsi.wide (Nat.zero_le _) (Nat.le_refl _)⟩
      · rintro A D hD hA ⟨a1, a2, a3, a4⟩
        exact ⟨(World.putObj_heap_other (by omega)).trans a1, (World.putObj_heap_other (by omega)).trans a2, a3.trans (put_below _ (by omega)), held_put a4 _ hA rfl⟩
      · rintro A ⟨a1, a2, a3, a4⟩
        have d2 := a1.cell
        have d3 := a2.cell
        rw [HEM.out]
        exact ⟨.tuple #[.slice (some ⟨wr.heap.size, 0, none⟩) 0 0, .bool true], by simp [results, Try.results25, go_sem, d2, d3], s, congrArg (fun v => Ending.returned (.tuple #[v, .bool true])) hs, hsl, a4.1, held_in a4 (in_ge hsi), a3⟩

theorem implLargest_any (F : Fld) (r : Int) (w : World) (hF : F.At w) (l : List Int) (b : Bool) (hv : Larg F r l b) :
    Calls Try.prog 25 #[F.val, .int .i64 r] w (PInts l b w) := callsIn_wide.1 (implLargest_in 6 (Nat.le_refl _) F r w hF l b hv)
end Go.Proofs.Ytjeodblaekdpkaa
