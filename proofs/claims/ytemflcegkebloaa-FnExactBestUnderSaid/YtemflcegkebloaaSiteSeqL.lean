/- The iterator of all sets of at most so many sites: it hands them, in order, each in memory of its own. Condition: at most seven sites. -/
import Derived.Test.YtemflcegkebloaaSizeSeqL
import Derived.Test.YtemflcegkebloaaBestK
namespace Go.Proofs.Ytemflcegkebloaa
open Go.RowKit Go.Shelf
attribute [local go_sem] Oper.semAt_some

/-- The sets of at most f sites. -/
def preS (N f : Nat) : List (List Nat) := (List.range f).flatMap fun k => combs N (k + 1)
theorem preS_step (N f : Nat) : preS N (f + 1) = preS N f ++ combs N (f + 1) := by unfold preS; rw [List.range_succ, List.flatMap_append]; simp
theorem preS_more (N f : Nat) : ∀ d, ∃ r, preS N (f + d) = preS N f ++ r
  | 0 => ⟨[], by simp⟩
  | d + 1 => by
    obtain ⟨r, hr⟩ := preS_more N f d
    exact ⟨r ++ combs N (f + d + 1), by rw [← Nat.add_assoc, preS_step, hr, List.append_assoc]⟩
theorem preS_at {N K f i : Nat} (hf : f < K) (hi : i < (combs N (f + 1)).length) : ∃ h : (preS N f).length + i < (preS N K).length, (preS N K)[(preS N f).length + i] = (combs N (f + 1))[i] := by
  obtain ⟨r, hr⟩ := preS_more N (f + 1) (K - (f + 1))
  rw [show f + 1 + (K - (f + 1)) = K by omega, preS_step] at hr
  have e : preS N K = preS N f ++ (combs N (f + 1) ++ r) := by rw [← List.append_assoc]; exact hr
  have hlen : (preS N f).length + i < (preS N K).length := by rw [e, List.length_append, List.length_append]; omega
  refine ⟨hlen, ?_⟩
  have h1 : (preS N K)[(preS N f).length + i]? = (combs N (f + 1))[i]? := by
    rw [e, List.getElem?_append_right (by omega), show (preS N f).length + i - (preS N f).length = i by omega, List.getElem?_append_left hi]
  rw [List.getElem?_eq_getElem hlen, List.getElem?_eq_getElem hi] at h1
  exact Option.some.inj h1

/-- Where the iterator stands between two sizes. -/
structure SiteAt (B Bs N : Nat) (J : Nat → Row → World → Prop) (V : World) (f : Nat) (y : Row) (ds : List Deferred) (w : World) : Prop where
  j : J (preS N f).length y w
  held : y.Held w
  marks : Marks (B + 1) ds w
  size : B + 1 ≤ w.heap.size
  box : w.heap[B]? = V.heap[B]?
  sites : w.cell? ⟨Bs, 0, none⟩ = some (.int .i64 N)

set_option maxRecDepth 100000 in
set_option maxHeartbeats 4000000 in
theorem upTo_seqX (n : Nat) (hn : 4 ≤ n) (Bk Bs N M : Nat) (w0 : World) (hN : N ≤ 7) (hM : M ≤ N) (hBk : w0.cell? ⟨Bk, 0, none⟩ = some (.int .i64 M)) (hBs : w0.cell? ⟨Bs, 0, none⟩ = some (.int .i64 N)) (p q : Nat) (hps : p ≤ Bs) (hqs : Bs < q) :
    ListSeqX Fence.wide n Try.prog 73 #[.pointer (some ⟨Bk, 0, none⟩), .pointer (some ⟨Bs, 0, none⟩)] ((preS N M).map up) p q w0 := by
  intro l lo hi J S W y0 hW hlo hhi hJ hS hY h0 hy0
  have h1 : 1 ≤ n := by omega
  have hbs : Bs < w0.heap.size := World.block_lt_of_cell? w0 _ hBs
  have hbk0 : Bk < w0.heap.size := World.block_lt_of_cell? w0 _ hBk
  have hw0W := hW.size
  have cBs : W.cell? ⟨Bs, 0, none⟩ = some (.int .i64 N) := (hW.cell (p := ⟨Bs, 0, none⟩) hbs).trans hBs
  have cBk : W.cell? ⟨Bk, 0, none⟩ = some (.int .i64 M) := (hW.cell (p := ⟨Bk, 0, none⟩) hbk0).trans hBk
  have hNi : (N : Int) ≤ 7 := by omega
  have hMi : (M : Int) ≤ 7 := by omega
  have HY := Lib.hid hY
  have HJ := Lib.hid hJ
  have HS := Lib.hid hS
  have HL : Hid (((preS N M).map up).length = (preS N M).length) := Lib.hid (List.length_map _)
  have CB0 := Lib.hid cBs
  clear hY hJ hS hBs hBk hW
  refine callsIn_of_wp_marks Try.func73 rfl trivial ?_ rfl
  simp only [Try.ntmps73, List.size_toArray, List.length_cons, List.length_nil, Nat.reduceAdd, Nat.reduceSub, Array.replicate_succ, Array.replicate_zero, List.push_toArray, List.append_toArray, List.nil_append, List.cons_append]
  have cBs1 : (W.alloc (.cells #[.func (.yield l) #[] #[]] 59)).cell? ⟨Bs, 0, none⟩ = some (.int .i64 N) := ((below_alloc W _).cell (p := ⟨Bs, 0, none⟩) (Nat.lt_of_lt_of_le hbs hw0W)).trans cBs
  have HCV := Lib.hid cBs1
  have cBk1 : (W.alloc (.cells #[.func (.yield l) #[] #[]] 59)).cell? ⟨Bk, 0, none⟩ = some (.int .i64 M) := ((below_alloc W _).cell (p := ⟨Bk, 0, none⟩) (Nat.lt_of_lt_of_le hbk0 hw0W)).trans cBk
  clear cBs cBk cBs1
  gi_wp2
  obtain ⟨V, hV⟩ : ∃ V, W.alloc (.cells #[.func (.yield l) #[] #[]] 59) = V := ⟨_, rfl⟩
  have hBV : Below W.heap.size W V := by rw [← hV]; exact below_alloc _ _
  have szV : V.heap.size = W.heap.size + 1 := by rw [← hV]; simp only [World.size_alloc]
  have v2 : Boxed V W.heap.size 59 (.func (.yield l) #[] #[]) := by rw [← hV]; exact Boxed.new _ _ _
  have HS0 : Hid (SiteAt W.heap.size Bs N J V 0 y0 [] V) := Lib.hid ⟨HJ.out _ _ _ _ h0 hBV, hy0.on hBV, ⟨fun d hd => (by cases hd), List.Pairwise.nil⟩, by omega, rfl, by rw [← hV]; exact HCV.out⟩
  have HV2 := Lib.hid v2.cell
  rw [hV]
  clear hV v2 cBk1 HCV h0 hy0
  refine wpIn_loop_ghost_k (fun r a wr => ∃ (f : Nat) (y : Row) (ds : List Deferred) (u3 u4 u7 u8 u9 u10 u11 u12 u13 u14 u15 u16 u17 u18 : Value), a = { tmps := #[.func (.yield l) #[] #[], .pointer (some ⟨Bk, 0, none⟩), .pointer (some ⟨Bs, 0, none⟩), .pointer (some ⟨W.heap.size, 0, none⟩), u3, u4, .int .i64 M, .int .i64 f, u7, u8, u9, u10, u11, u12, u13, u14, u15, u16, u17, u18], defers := ds } ∧ f ≤ M ∧ r = M - f ∧ Hid (SiteAt W.heap.size Bs N J V f y ds wr)) M ⟨0, y0, [], undef, undef, undef, undef, undef, undef, undef, undef, undef, undef, undef, undef, undef, undef, rfl, Nat.zero_le _, by omega, HS0⟩ ?_
  intro gk a wr hinv JJ KK hJJ hKK
  obtain ⟨f, y, ds, u3, u4, u7, u8, u9, u10, u11, u12, u13, u14, u15, u16, u17, u18, rfl, hf, hgk, HSA⟩ := hinv
  subst hgk
  by_cases hlt : f < M
  · have hlti : (f : Int) < (M : Int) := by omega
    have cBs := HSA.out.sites
    have CS := Lib.hid (by have := setsOfSizeL_any N (f + 1) wr hN (by omega) (by omega); push_cast at this; exact this)
    have hszr := HSA.out.size
    have HJK := Lib.hid hJJ
    clear hJJ
    gi_wp2
    refine ⟨trivial, (callsIn_wide.2 CS.out).mono ?_⟩
    rintro e W4 ⟨lb, rfl, HLS, hb4⟩
    have HB4 := Lib.hid hb4
    have hsz4 := hb4.size
    have HPL := Lib.hid (preS_step N f)
    have hco := combs_ok hN (by omega : 1 ≤ f + 1) (by omega : f + 1 ≤ N)
    have HSQ := Lib.hid (HLS.out (n - 1) (by omega))
    have HLC : Hid (((combs N (f + 1)).map up).length = (combs N (f + 1)).length) := Lib.hid (List.length_map _)
    -- what holds between two rounds of the inner loop
    obtain ⟨I, hI⟩ : ∃ I : Nat → Row → World → Prop, I = fun i y' A => J ((preS N f).length + i) y' A ∧ (∀ b, W.heap.size ≤ b → b < W4.heap.size → A.heap[b]? = W4.heap[b]?) ∧ A.cell? ⟨Bs, 0, none⟩ = some (.int .i64 N) ∧ W4.heap.size ≤ A.heap.size := ⟨_, rfl⟩
    have HI : Hid (∀ i y' A, I i y' A ↔ (J ((preS N f).length + i) y' A ∧ (∀ b, W.heap.size ≤ b → b < W4.heap.size → A.heap[b]? = W4.heap[b]?) ∧ A.cell? ⟨Bs, 0, none⟩ = some (.int .i64 N) ∧ W4.heap.size ≤ A.heap.size)) := Lib.hid fun i y' A => by rw [hI]
    obtain ⟨Sx, hSx⟩ : ∃ Sx : Code → Row → World → Prop, Sx = fun c y' A => c = .ret ∧ S y' A ∧ (∀ b, W.heap.size ≤ b → b < W4.heap.size → A.heap[b]? = W4.heap[b]?) ∧ W4.heap.size ≤ A.heap.size := ⟨_, rfl⟩
    have HSX : Hid (∀ c y' A, Sx c y' A ↔ (c = .ret ∧ S y' A ∧ (∀ b, W.heap.size ≤ b → b < W4.heap.size → A.heap[b]? = W4.heap[b]?) ∧ W4.heap.size ≤ A.heap.size)) := Lib.hid fun c y' A => by rw [hSx]
    have hbsr : Bs < wr.heap.size := by omega
    have cBs4 : W4.cell? ⟨Bs, 0, none⟩ = some (.int .i64 N) := (hb4.cell (p := ⟨Bs, 0, none⟩) hbsr).trans cBs
    have hI0 : I 0 y W4 := (HI.out 0 y W4).2 ⟨HJ.out _ _ _ _ HSA.out.j (hb4.mono (by omega)), fun _ _ _ => rfl, cBs4, Nat.le_refl _⟩
    have hyH0 := HSA.out.held.on hb4
    have c2 : W4.cell? ⟨W.heap.size, 0, none⟩ = some (.func (.yield l) #[] #[]) := (World.cell?_of_block (a := ⟨W.heap.size, 0, none⟩) ((hb4.block W.heap.size (by omega)).trans HSA.out.box)).trans HV2.out
    have HC2 := Lib.hid c2
    have HI0 := Lib.hid hI0
    have HYH0 := Lib.hid hyH0
    clear hI hSx cBs cBs4 c2 hI0 hyH0 hco hb4
    have hlo2 : hi ≤ wr.heap.size := by omega
    have hhi2 : hi ≤ W4.heap.size := by omega
    have hbs4 : Bs < W4.heap.size := by omega
    gi_wp2
    refine wpIn_rangeListsX (F := Fence.wide) rfl h1 (gf := 94) (lb := lb) rfl trivial (enters_of Try.func94 (by kernel_rfl) rfl) HSQ.out (Below.refl _ _) rfl lo hi (.inl hlo2) hhi2
      I (fun i y' A A' h hb => (HI.out _ _ _).2 (by
        obtain ⟨i1, i2, i3, i4⟩ := (HI.out _ _ _).1 h
        exact ⟨HJ.out _ _ _ _ i1 (hb.mono (by omega)), fun b hb1 hb2 => (hb.block b hb2).trans (i2 b hb1 hb2), (hb.cell (p := ⟨Bs, 0, none⟩) hbs4).trans i3, Nat.le_trans i4 hb.size⟩))
      Sx (fun c y' A A' h hb => (HSX.out _ _ _).2 (by
        obtain ⟨i1, i2, i3, i4⟩ := (HSX.out _ _ _).1 h
        exact ⟨i1, HS.out _ _ _ i2 (hb.mono (by omega)), fun b hb1 hb2 => (hb.block b hb2).trans (i3 b hb1 hb2), Nat.le_trans i4 hb.size⟩)) y HI0.out HYH0.out
      (fun x => { tmps := #[.func (.yield l) #[] #[], .pointer (some ⟨Bk, 0, none⟩), .pointer (some ⟨Bs, 0, none⟩), .pointer (some ⟨W.heap.size, 0, none⟩), .int .i64 f, .slice x.a x.l.length x.c, .int .i64 M, .int .i64 f, .bool true, .int .i64 f, .int .i64 N, .int .i64 f, .int .i64 ((f : Int) + 1), .func (.func 94) #[] lb, .slice x.a x.l.length x.c, u14, u15, u16, u17, u18], defers := [] }) ?assign ?body ?done ?stop
    case assign =>
      intro l' x A K hK
      gi_wp2
      exact hK
    case body =>
      intro l' i y' x A hi' hx hIA hyH hxH hxI hszA
      obtain ⟨i1, i2, i3, i4⟩ := (HI.out _ _ _).1 hIA
      have hiC : i < (combs N (f + 1)).length := by rw [HLC.out] at hi'; exact hi'
      obtain ⟨hk1, hk2⟩ := preS_at hlt hiC
      have hkL : (preS N f).length + i < ((preS N M).map up).length := by rw [HL.out]; exact hk1
      have hxL : x.l = ((preS N M).map up)[(preS N f).length + i] := by rw [hx, List.getElem_map, List.getElem_map, hk2]
      obtain ⟨fn, tmps, asg, bd, hyl, hRnd⟩ := HY.out _ y' x A hkL hxL i1 hyH hxH (hxI.wide (by omega) (Nat.le_refl _)) (by omega)
      have c2 : A.cell? ⟨W.heap.size, 0, none⟩ = some (.func (.yield l) #[] #[]) := (World.cell?_of_block (a := ⟨W.heap.size, 0, none⟩) (i2 W.heap.size (Nat.le_refl _) (by omega))).trans HC2.out
      have HRnd := Lib.hid hRnd
      have HI2 := Lib.hid i2
      have HI3 := Lib.hid i3
      clear hRnd hx hxL hIA i1 i2 i3 hk2
      have h1' : 1 ≤ n - 1 - 1 := by omega
      gi_wp2
      refine (round_wide HRnd.out).mono ?_
      rintro e V3 ⟨y'', hy'', hH3, ⟨rfl, ht3, hJ3⟩ | ⟨rfl, ht3, hS3⟩⟩
      case inr =>
        have hs3 := ht3.size
        have HEND : Hid (RoundEndX W4.heap.size I Sx i y' x lo hi A .ret { tmps := #[], defers := [] } V3) := Lib.hid ⟨ht3.wide (Nat.le_refl _) (by omega), y'', hy'', (HSX.out _ _ _).2 ⟨rfl, hS3, fun b hb1 hb2 => (ht3.block b (by omega) (by omega)).trans (HI2.out b hb1 hb2), by omega⟩, hH3⟩
        clear ht3 hy'' hS3 hH3 hs3
        gi_wp2
        exact HEND.out
      have hs3 := ht3.size
      have HEND : Hid (RoundEndX W4.heap.size I Sx i y' x lo hi A .normal { tmps := #[], defers := [] } V3) := Lib.hid ⟨ht3, y'', hy'', (HI.out _ _ _).2 ⟨by rw [← Nat.add_assoc]; exact hJ3, fun b hb1 hb2 => (ht3.block b (by omega) (by omega)).trans (HI2.out b hb1 hb2), (ht3.cell (p := ⟨Bs, 0, none⟩) (Nat.lt_of_lt_of_le hbs4 i4) (by simp only; omega)).trans HI3.out, by omega⟩, hH3⟩
      clear ht3 hy'' hJ3 hH3 hs3
      gi_wp2
      exact HEND.out
    case done =>
      intro D y' A hD hIA hyH hK
      obtain ⟨i1, i2, i3, i4⟩ := (HI.out _ _ _).1 hIA
      have HSA2 : Hid (SiteAt W.heap.size Bs N J V (f + 1) y' ({ target := .collected D, args := #[] } :: ds) A) := Lib.hid (by
        refine ⟨?_, hyH, ?_, by omega, ?_, i3⟩
        · rw [HPL.out, List.length_append]
          rw [HLC.out] at i1; exact i1
        · refine Marks.push (Marks.keep (Marks.keep HSA.out.marks (fun b hb1 hb2 => (HB4.out.block b hb2))) (fun b hb1 hb2 => i2 b (by omega) hb2)) rfl (by omega) hK ?_
          intro e he E hE
          obtain ⟨E', h1, h2, h3⟩ := HSA.out.marks.at_ e he
          rw [hE] at h1
          cases h1
          have := (Array.getElem?_eq_some_iff.1 h3).1
          omega
        · exact (i2 W.heap.size (Nat.le_refl _) (by omega)).trans ((HB4.out.block W.heap.size (by omega)).trans HSA.out.box))
      clear hIA i1 i2 i3 hyH hK
      gi_wp2
      exact Handed.intro (M - (f + 1)) (by omega) (HJK.out _ _ _ ⟨f + 1, y', _, _, _, _, _, _, _, _, _, _, _, _, _, _, _, rfl, by omega, rfl, HSA2⟩)
    case stop =>
      intro D c y' A hD hSA hyH hK
      obtain ⟨rfl, i2, i3, i4⟩ := (HSX.out _ _ _).1 hSA
      have HMK : Hid (Marks (W.heap.size + 1) ({ target := .collected D, args := #[] } :: ds) A) := Lib.hid (by
        refine Marks.push (Marks.keep (Marks.keep HSA.out.marks (fun b hb1 hb2 => (HB4.out.block b hb2))) (fun b hb1 hb2 => i3 b (by omega) hb2)) rfl (by omega) hK ?_
        intro e he E hE
        obtain ⟨E', h1, h2, h3⟩ := HSA.out.marks.at_ e he
        rw [hE] at h1
        cases h1
        have := (Array.getElem?_eq_some_iff.1 h3).1
        omega)
      have HSS := Lib.hid i2
      have HYY := Lib.hid hyH
      clear hSA i2 i3 hyH hK
      gi_wp2
      refine leaves_marks (B := W.heap.size + 1) rfl (fun A => S y' A ∧ y'.Held A) ?_ ?_ _ A HMK.out ⟨HSS.out, HYY.out⟩
      · rintro A D hD hA ⟨a1, a2⟩
        exact ⟨HS.out _ _ _ a1 (put_below _ (by omega)), held_put a2 _ hA rfl⟩
      · rintro v A ⟨a1, a2⟩
        exact ⟨⟨_, rfl⟩, y', a2, .inr a1⟩
  · obtain rfl : f = M := by omega
    have hm := HSA.out.marks
    have HMM := Lib.hid hm
    clear hm
    gi_wp2
    refine leaves_marks (B := W.heap.size + 1) rfl (fun A => J (preS N f).length y A ∧ y.Held A) ?_ ?_ ds wr HMM.out ⟨HSA.out.j, HSA.out.held⟩
    · rintro A D hD hA ⟨a1, a2⟩
      exact ⟨HJ.out _ _ _ _ a1 (put_below _ (by omega)), held_put a2 _ hA rfl⟩
    · rintro v A ⟨a1, a2⟩
      exact ⟨⟨_, rfl⟩, y, a2, .inl (by rw [HL.out]; exact a1)⟩
theorem upTo_seq (n : Nat) (hn : 4 ≤ n) (Bk Bs N M : Nat) (w0 : World) (hN : N ≤ 7) (hM : M ≤ N) (hBk : w0.cell? ⟨Bk, 0, none⟩ = some (.int .i64 M)) (hBs : w0.cell? ⟨Bs, 0, none⟩ = some (.int .i64 N)) (p q : Nat) (hps : p ≤ Bs) (hqs : Bs < q) :
    ListSeq Fence.wide n Try.prog 73 #[.pointer (some ⟨Bk, 0, none⟩), .pointer (some ⟨Bs, 0, none⟩)] ((preS N M).map up) p q w0 := (upTo_seqX n hn Bk Bs N M w0 hN hM hBk hBs p q hps hqs).all
theorem preS_all (N : Nat) : preS N N = allSets N := rfl
theorem sites_seq (n : Nat) (hn : 4 ≤ n) (Bk Bs N : Nat) (w0 : World) (hN : N ≤ 7) (hBk : w0.cell? ⟨Bk, 0, none⟩ = some (.int .i64 N)) (hBs : w0.cell? ⟨Bs, 0, none⟩ = some (.int .i64 N)) (p q : Nat) (hps : p ≤ Bs) (hqs : Bs < q) :
    ListSeq Fence.wide n Try.prog 73 #[.pointer (some ⟨Bk, 0, none⟩), .pointer (some ⟨Bs, 0, none⟩)] ((allSets N).map up) p q w0 := upTo_seq n hn Bk Bs N N w0 hN (Nat.le_refl _) hBk hBs p q hps hqs

set_option maxHeartbeats 1000000 in
theorem setsUpTo_any (n k : Nat) (w : World) :
    Calls Try.prog 56 #[.int .i64 n, .int .i64 k] w fun e w' => ∃ Bk Bs, e = .returned (.func (.func 73) #[] #[.pointer (some ⟨Bk, 0, none⟩), .pointer (some ⟨Bs, 0, none⟩)]) ∧ Hid (w'.cell? ⟨Bk, 0, none⟩ = some (.int .i64 k)) ∧ Hid (w'.cell? ⟨Bs, 0, none⟩ = some (.int .i64 n)) ∧ Below w.heap.size w w' := by
  have HB := Lib.hid ((below_alloc w (.cells #[.int .i64 n] 3)).alloc (by simp) (.cells #[.int .i64 k] 3))
  have H0 := Lib.hid ((Boxed.new w 3 (.int .i64 n)).alloc (.cells #[.int .i64 k] 3)).cell
  have H1 := Lib.hid (Boxed.new (w.alloc (.cells #[.int .i64 n] 3)) 3 (.int .i64 k)).cell
  go_enter Try.func56, Try.ntmps56
  go_wp2
  go_ret
  exact ⟨_, w.heap.size, rfl, Lib.hid (by have := H1.out; simp only [World.size_alloc] at this; exact this), Lib.hid H0.out, HB.out⟩

set_option maxHeartbeats 1000000 in
theorem siteSets_any (n : Nat) (w : World) :
    Calls Try.prog 34 #[.int .i64 n] w fun e w' => ∃ Bk Bs, e = .returned (.func (.func 73) #[] #[.pointer (some ⟨Bk, 0, none⟩), .pointer (some ⟨Bs, 0, none⟩)]) ∧ Hid (w'.cell? ⟨Bk, 0, none⟩ = some (.int .i64 n)) ∧ Hid (w'.cell? ⟨Bs, 0, none⟩ = some (.int .i64 n)) ∧ Below w.heap.size w w' := by
  have CU := Lib.hid (setsUpTo_any n n w)
  go_enter Try.func34, Try.ntmps34
  go_wp2_with fail
  refine (show Calls _ _ _ _ _ from CU.out).mono ?_
  rintro e W1 ⟨Bk, Bs, rfl, H1, H2, hb⟩
  go_wp2
  go_ret
  exact ⟨Bk, Bs, rfl, H1, H2, hb⟩
end Go.Proofs.Ytemflcegkebloaa
