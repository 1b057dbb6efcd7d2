/- The iterator of all sets of one size, as a list and its successors: it hands these sets, in order, each in memory of its own. Condition: at most seven sites. -/
import Derived.Shelf.RegionOpen
import Derived.WalkKit
import Derived.OwnWalkIn
import Derived.TacticsInMore
import Derived.LoopNIn
import Derived.LoopIn
import Derived.Sort.LoopGhostIn
import Derived.Lib.Hide
import Derived.Test.YtemflcegkebloaaRangeX
import Derived.Test.YtemflcegkebloaaNext
import Derived.Test.YtemflcegkebloaaShelf
namespace Go.Proofs.Ytemflcegkebloaa
open Go.RowKit Go.Shelf
attribute [local go_sem] Oper.semAt_some

theorem cloneRow_any (s : Row) (w : World) (hs : s.At w) (h0 : 0 < s.l.length) (hn : s.l.length ≤ 1048576) :
    Calls Try.prog 95 #[.slice s.a s.l.length s.c] w fun e w' => ∃ t : Row, e = .returned (.slice t.a t.l.length t.c) ∧ t.l = s.l ∧ t.Own 3 w' ∧ t.In w.heap.size w'.heap.size w' ∧ Below w.heap.size w w' := by
  obtain ⟨q1, q2, q3⟩ := hs
  rcases q3 with h3 | ⟨bk, of, hsa, hbb, hcell⟩
  · have h3' := congrArg List.length (iv_nil h3); rw [List.length_nil] at h3'; omega
  have HC : ∀ j, j < s.l.length → w.cell? ⟨bk, of + j, none⟩ = some (.int .i64 (s.l.getD j 0)) := fun j hj => by
    rw [hcell j _ (iv_at hj), List.getD_eq_getElem?_getD, List.getElem?_eq_getElem hj]; rfl
  rw [hsa]
  refine (Try.slices_Clone_int bk of s.l.length s.c s.l w (Nat.le_refl _) (by omega) HC).mono ?_
  rintro e w' ⟨v', rfl, ho, hne, hb⟩
  rw [List.take_length] at ho
  obtain ⟨t, ht, htl, hto, hti⟩ := row_of_own ho
  exact ⟨t, congrArg Ending.returned ht, htl, hto, hti, hb⟩

/-- Not in block g. -/
def Row.Off (r : Row) (g : Nat) : Prop := r.l ≠ [] → ∀ x, r.a = some x → x.block ≠ g
theorem held_touch {w w' : World} {r : Row} {g : Nat} (h : r.Held w) (t : Touch g (g + 1) w w') (ho : r.Off g) : r.Held w' := by
  obtain ⟨h1, h2⟩ := h
  obtain ⟨q1, q2, q3⟩ := h2
  refine ⟨h1.keep fun b hl hb => ?_, q1, q2, ?_⟩
  · rcases q3 with q3 | ⟨b', o', e, _, _, hlt, _⟩
    · exact absurd (iv_nil q3) hl
    · rw [hb] at e
      simp only [Option.some.injEq, Addr.mk.injEq] at e
      obtain ⟨rfl, _⟩ := e
      have := ho hl _ hb
      simp only at this
      exact t.block b hlt (by omega)
  · rcases q3 with q3 | ⟨b', o', e, hl, hh, hlt, hc⟩
    · exact .inl q3
    · by_cases hn : r.l = []
      · exact .inl (by rw [hn]; rfl)
      have hne := ho hn _ e
      simp only at hne
      exact .inr ⟨b', o', e, hl, Nat.lt_of_lt_of_le hh t.size, Nat.lt_of_lt_of_le hlt t.size, fun j x hj => (t.cell (p := ⟨b', o' + j, none⟩) hlt (by simp only; omega)).trans (hc j x hj)⟩
theorem off_new {r : Row} {lo hi g : Nat} {w : World} (h : r.In lo hi w) (hg : g < lo) : r.Off g := fun hl x hx => by
  obtain ⟨_, _, q3⟩ := h
  rcases q3 with q3 | ⟨b, o, e, hl', _⟩
  · exact absurd (iv_nil q3) hl
  · rw [hx] at e
    simp only [Option.some.injEq] at e
    subst e
    simp only; omega
theorem off_old {r : Row} {lo hi g : Nat} {w : World} (h : r.In lo hi w) (hg : hi ≤ g) : r.Off g := fun hl x hx => by
  obtain ⟨_, _, q3⟩ := h
  rcases q3 with q3 | ⟨b, o, e, _, hh, _⟩
  · exact absurd (iv_nil q3) hl
  · rw [hx] at e
    simp only [Option.some.injEq] at e
    subst e
    simp only; omega

/-- Where the iterator's own set stands. -/
structure OwnSet (g zc B : Nat) (T : List Nat) (w : World) : Prop where
  own : (Row.mk (some ⟨g, 0, none⟩) zc (up T)).Own 3 w
  ins : (Row.mk (some ⟨g, 0, none⟩) zc (up T)).In B w.heap.size w
  lt : g < w.heap.size
  ge : B ≤ g

set_option maxRecDepth 16000 in
set_option maxHeartbeats 1000000 in
/-- The step to the next set, as the iterator calls it. -/
theorem next1_any (T : List Nat) (N g zc Bs : Nat) (v : Bool) (R : World → Prop) (w : World) (hT : Calls Try.prog 86 #[.slice (some ⟨g, 0, none⟩) (up T).length zc, .int .i64 N] w fun e w' => e = .returned (.bool v) ∧ R w') (hBs : w.cell? ⟨Bs, 0, none⟩ = some (.int .i64 N)) :
    Calls Try.prog 85 #[.slice (some ⟨g, 0, none⟩) (up T).length zc, .pointer (some ⟨Bs, 0, none⟩)] w fun e w' => e = .returned (.bool v) ∧ R w' := by
  have C := Lib.hid hT
  clear hT
  go_enter Try.func85, Try.ntmps85
  go_wp2_with fail
  refine (show Calls _ _ _ _ _ from C.out).mono ?_
  rintro e W ⟨rfl, hr⟩
  have HE := Lib.hid hr
  clear hr hBs
  go_wp2
  go_ret
  exact ⟨rfl, HE.out⟩

set_option maxRecDepth 100000 in
set_option maxHeartbeats 4000000 in
theorem lists_seqX (n : Nat) (hn : 2 ≤ n) (Bf Bt Bs N K : Nat) (z0 : Row) (w0 : World) (hN : N ≤ 7) (h1 : 1 ≤ K) (hK : K ≤ N) (hBf : w0.cell? ⟨Bf, 0, none⟩ = some (.slice z0.a z0.l.length z0.c)) (hz0 : z0.At w0) (hz0l : z0.l = up (List.range K)) (hBt : w0.cell? ⟨Bt, 0, none⟩ = some (.func (.func 85) #[] #[.pointer (some ⟨Bs, 0, none⟩)])) (hBs : w0.cell? ⟨Bs, 0, none⟩ = some (.int .i64 N)) (p q : Nat) (hpt : p ≤ Bt) (hps : p ≤ Bs) (hqt : Bt < q) (hqs : Bs < q) :
    ListSeqX Fence.wide n Try.prog 94 #[.pointer (some ⟨Bf, 0, none⟩), .pointer (some ⟨Bt, 0, none⟩)] ((combs N K).map up) p q w0 := by
  intro l lo hi J S W y0 hW hlo hhi hJ hS hY h0 hy0
  obtain ⟨hch, hhd, hall, hlen⟩ := combs_ok hN h1 hK
  have hbf : Bf < w0.heap.size := World.block_lt_of_cell? w0 _ hBf
  have hbt : Bt < w0.heap.size := World.block_lt_of_cell? w0 _ hBt
  have hbs : Bs < w0.heap.size := World.block_lt_of_cell? w0 _ hBs
  have hw0W := hW.size
  obtain ⟨C, hC⟩ : ∃ C, C = combs N K := ⟨_, rfl⟩
  rw [← hC] at hch hhd hall hlen hY ⊢
  have HY := Lib.hid hY
  have HJ := Lib.hid hJ
  have HCH := Lib.hid (fun j (h : j < C.length) => chain_at N C j h hch)
  have HAL := Lib.hid hall
  have HL : Hid ((C.map up).length = C.length) := Lib.hid (List.length_map _)
  have hC0 : 0 < C.length := by cases C with
    | nil => simp at hhd
    | cons => simp
  have HH : Hid (C[0]'hC0 = List.range K) := Lib.hid (by cases C with
    | nil => simp at hC0
    | cons T r => simpa using hhd)
  have cBf : W.cell? ⟨Bf, 0, none⟩ = some (.slice z0.a z0.l.length z0.c) := (hW.cell (p := ⟨Bf, 0, none⟩) hbf).trans hBf
  have hKi : (K : Int) ≤ 7 := by omega
  have hNi : (N : Int) ≤ 7 := by omega
  have HS0 : Hid (∀ u, Below W.heap.size W u → u.cell? ⟨Bs, 0, none⟩ = some (.int .i64 N) ∧ u.cell? ⟨Bt, 0, none⟩ = some (.func (.func 85) #[] #[.pointer (some ⟨Bs, 0, none⟩)])) := Lib.hid fun u hu => ⟨(hu.cell (p := ⟨Bs, 0, none⟩) (Nat.lt_of_lt_of_le hbs hw0W)).trans ((hW.cell (p := ⟨Bs, 0, none⟩) hbs).trans hBs), (hu.cell (p := ⟨Bt, 0, none⟩) (Nat.lt_of_lt_of_le hbt hw0W)).trans ((hW.cell (p := ⟨Bt, 0, none⟩) hbt).trans hBt)⟩
  have H0 := Lib.hid h0
  have HY0 := Lib.hid hy0
  have hz0n : z0.l.length = K := by rw [hz0l, up_range_len]
  have CN := Lib.hid (by have := cloneRow_any z0 W (hz0.on hW) (by omega) (by omega); rw [hz0l] at this; rw [← hz0l, hz0n, hz0l] at this; exact this)
  rw [hz0n] at cBf
  clear hC hch hhd hall hY hJ hS h0 hy0 hBf hBt hBs hz0 hz0l hz0n
  refine callsIn_of_wp Try.func94 rfl trivial ?_ rfl
  simp only [Try.ntmps94, List.size_toArray, List.length_cons, List.length_nil, Nat.reduceAdd, Nat.reduceSub, Array.replicate_succ, Array.replicate_zero, List.push_toArray, List.append_toArray, List.nil_append, List.cons_append]
  gi_wp2
  refine ⟨trivial, fun _ => by omega, (callsIn_wide.2 CN.out).mono ?_⟩
  rintro e W1 ⟨z, rfl, hzl, hzo, hzi, hb1⟩
  have hzlen : 0 < z.l.length := by rw [hzl, up_range_len]; omega
  obtain ⟨g, zc, zl, hzg⟩ : ∃ g zc zl, z = ⟨some ⟨g, 0, none⟩, zc, zl⟩ := by
    obtain ⟨g, e, _⟩ := hzo.resolve_left (fun e => by rw [e] at hzlen; simp at hzlen)
    obtain ⟨za, zc, zl⟩ := z
    simp only at e
    exact ⟨g, zc, zl, by rw [e]⟩
  subst hzg
  simp only at hzl hzlen
  subst hzl
  have hzg2 : W.heap.size ≤ g ∧ g < W1.heap.size := by
    obtain ⟨_, _, q3⟩ := hzi
    rcases q3 with q3 | ⟨b, o, e, q4, _, q5, _⟩
    · exact absurd (iv_nil q3) (fun e => by simp only at e; rw [e] at hzlen; simp at hzlen)
    · simp only [Option.some.injEq, Addr.mk.injEq] at e
      obtain ⟨rfl, _⟩ := e
      exact ⟨q4, q5⟩
  have HOS : Hid (OwnSet g zc W.heap.size C[0] W1) := Lib.hid (by rw [HH.out]; exact ⟨hzo, hzi, hzg2.2, hzg2.1⟩)
  have HJ1 := Lib.hid (HJ.out _ _ _ _ H0.out hb1)
  have HY1 := Lib.hid (HY0.out.on hb1)
  have HOF := Lib.hid (off_old HY0.out.2 hzg2.1)
  have HB1 := Lib.hid hb1.size
  have HC1 := Lib.hid (HS0.out W1 hb1)
  have hWg := hzg2.1
  have hulen : (up (List.range K)).length = K := up_range_len K
  rw [hulen]
  clear hzo hzi hb1 hzg2 cBf H0 HY0 CN hzlen
  gi_wp2
  gi_loopg [5] C.length (fun r mv wr => ∃ (k : Nat) (y : Row), Hid (J k y wr) ∧ Hid (y.Held wr) ∧ Hid (y.Off g) ∧ Hid (W.heap.size ≤ wr.heap.size) ∧ Hid (wr.cell? ⟨Bs, 0, none⟩ = some (.int .i64 N) ∧ wr.cell? ⟨Bt, 0, none⟩ = some (.func (.func 85) #[] #[.pointer (some ⟨Bs, 0, none⟩)])) ∧ ((mv = .bool true ∧ r = C.length - k ∧ ∃ hk : k < C.length, Hid (OwnSet g zc W.heap.size C[k] wr)) ∨ (mv = .bool false ∧ k = C.length ∧ r = 0)))
  case atStart => exact ⟨0, y0, HJ1, HY1, HOF, HB1, HC1, .inl ⟨rfl, rfl, hC0, HOS⟩⟩
  case round =>
    obtain ⟨k, y, HJk, HYk, HOk, HBk, HCk, ⟨rfl, hgk, hk, HZ⟩ | ⟨rfl, hkc, hgk⟩⟩ := hrel
    · have hlenk : C[k].length = K := (HAL.out _ (List.getElem_mem hk)).1
      have hzl2 : (up C[k]).length = K := by rw [up_length, hlenk]
      have CC := Lib.hid (by
        have := cloneRow_any (Row.mk (some ⟨g, 0, none⟩) zc (up C[k])) wr HZ.out.ins.at (by simp only; rw [hzl2]; omega) (by simp only; rw [hzl2]; omega)
        simp only at this
        rw [hzl2] at this; exact this)
      have HZL := Lib.hid hzl2
      have HLK := Lib.hid hlenk
      clear hlenk hzl2
      gi_wp2
      refine ⟨trivial, fun _ => by omega, (callsIn_wide.2 CC.out).mono ?_⟩
      rintro e W2 ⟨x, rfl, hxl, hxo, hxi, hb2⟩
      have hszr := HBk.out
      have HB2 := Lib.hid (Nat.le_trans hszr hb2.size)
      have HC2 := Lib.hid (And.intro ((hb2.cell (p := ⟨Bs, 0, none⟩) (Nat.lt_of_lt_of_le hbs (Nat.le_trans hw0W hszr))).trans HCk.out.1) ((hb2.cell (p := ⟨Bt, 0, none⟩) (Nat.lt_of_lt_of_le hbt (Nat.le_trans hw0W hszr))).trans HCk.out.2))
      have hJ2 := HJ.out _ _ _ _ HJk.out (hb2.mono hszr)
      have hH2 := HYk.out.on hb2
      have hxi2 := hxi.wide hszr (Nat.le_refl _)
      have hkL : k < (C.map up).length := by rw [HL.out]; exact hk
      have hxL : x.l = (C.map up)[k] := by rw [hxl, List.getElem_map]
      obtain ⟨fn, tmps, assign, body, hyl, hRnd⟩ := HY.out k y x W2 hkL hxL hJ2 hH2 ⟨hxo, hxi.wide (Nat.zero_le _) (Nat.le_refl _)⟩ hxi2 HB2.out
      have HZ2 : Hid (OwnSet g zc W.heap.size C[k] W2) := Lib.hid ⟨HZ.out.own.on hb2, (HZ.out.ins.on hb2).wide (Nat.le_refl _) hb2.size, Nat.lt_of_lt_of_le HZ.out.lt hb2.size, HZ.out.ge⟩
      have HXO := Lib.hid (off_new hxi HZ.out.lt)
      have HRnd := Lib.hid hRnd
      have HXL := Lib.hid hxl
      clear hxl hxo hxi hb2 hJ2 hH2 hxi2 hxL hRnd
      gi_wp2
      refine ⟨fun _ => by omega, HRnd.out.mono ?_⟩
      rintro e W3 ⟨y', hy', hH3, ⟨rfl, ht3, hJ3⟩ | ⟨rfl, ht3, hS3⟩⟩
      case inr =>
        have HEND : Hid ((∃ v, Ending.returned (.tuple #[]) = .returned v) ∧ ∃ y, y.Held W3 ∧ (J (C.map up).length y W3 ∨ S y W3)) := Lib.hid ⟨⟨_, rfl⟩, y', hH3, .inr hS3⟩
        clear hy' hH3 ht3 hS3
        gi_wp2
        refine bodyPost_ret (results_none rfl _ _ _) rfl ?_
        exact HEND.out
      have HZ3 : Hid (OwnSet g zc W.heap.size C[k] W3) := Lib.hid ⟨HZ2.out.own.touch HZ2.out.ins ht3 (.inr hhi), (HZ2.out.ins.touch ht3 (.inr hhi)).wide (Nat.le_refl _) ht3.size, Nat.lt_of_lt_of_le HZ2.out.lt ht3.size, HZ2.out.ge⟩
      have HO3 : Hid (y'.Off g) := Lib.hid (by rcases hy' with rfl | rfl; exact HOk.out; exact HXO.out)
      have cBs : W3.cell? ⟨Bs, 0, none⟩ = some (.int .i64 N) := (ht3.cell (p := ⟨Bs, 0, none⟩) (Nat.lt_of_lt_of_le hbs (Nat.le_trans hw0W HB2.out)) (by simp only; omega)).trans HC2.out.1
      have cBt : W3.cell? ⟨Bt, 0, none⟩ = some (.func (.func 85) #[] #[.pointer (some ⟨Bs, 0, none⟩)]) := (ht3.cell (p := ⟨Bt, 0, none⟩) (Nat.lt_of_lt_of_le hbt (Nat.le_trans hw0W HB2.out)) (by simp only; omega)).trans HC2.out.2
      have hWW2 := HB2.out
      have HC3 := Lib.hid (And.intro cBs cBt)
      have CT := Lib.hid (by
        have := toNext_any (Row.mk (some ⟨g, 0, none⟩) zc (up C[k])) C[k] N W.heap.size W3.heap.size W3 HZ3.out.own HZ3.out.ins rfl (by rw [HLK.out]; omega) (by rw [HLK.out]; exact hK) hN (HAL.out _ (List.getElem_mem hk)).2 g rfl
        simp only at this
        have := next1_any C[k] N g zc Bs _ _ W3 this HC3.out.1
        rw [HZL.out, HCH.out k hk] at this; exact this)
      have HJ3 := Lib.hid hJ3
      have HH3 := Lib.hid hH3
      have HT3 := Lib.hid ht3
      clear hJ3 hH3 ht3 hy' cBs
      gi_wp2
      refine ⟨trivial, fun _ => by omega, (callsIn_wide.2 CT.out).mono ?_⟩
      rintro e W4 ⟨rfl, hzo, hzi, ht4⟩
      have hsz4 := ht4.size
      have hsz3 := HT3.out.size
      have hb34 : Below W.heap.size W3 W4 := ht4.below HZ.out.ge (by omega)
      have HJ4 := Lib.hid (HJ.out _ _ _ _ HJ3.out hb34)
      have HH4 := Lib.hid (held_touch HH3.out ht4 HO3.out)
      have HC4 := Lib.hid (And.intro ((ht4.cell (p := ⟨Bs, 0, none⟩) (Nat.lt_of_lt_of_le hbs (Nat.le_trans hw0W (Nat.le_trans hWW2 hsz3))) (by simp only; omega)).trans HC3.out.1) ((ht4.cell (p := ⟨Bt, 0, none⟩) (Nat.lt_of_lt_of_le hbt (Nat.le_trans hw0W (Nat.le_trans hWW2 hsz3))) (by simp only; omega)).trans HC3.out.2))
      have hWW4 := Lib.hid (show W.heap.size ≤ W4.heap.size by omega)
      have hg4 : g < W4.heap.size := Nat.lt_of_lt_of_le HZ3.out.lt hsz4
      by_cases hk1 : k + 1 < C.length
      · have he : C[k + 1]? = some C[k + 1] := List.getElem?_eq_getElem hk1
        rw [he] at hzo hzi ⊢
        have HZ4 : Hid (OwnSet g zc W.heap.size C[k + 1] W4) := Lib.hid ⟨hzo, hzi.wide (Nat.le_refl _) hsz4, hg4, HZ.out.ge⟩
        clear he hzo hzi ht4 hb34 cBt
        gi_wp2
        go_roundg (C.length - (k + 1))
        case measure => omega
        case rel => exact ⟨k + 1, y', HJ4, HH4, HO3, hWW4, HC4, .inl ⟨rfl, rfl, hk1, HZ4⟩⟩
      · have he : C[k + 1]? = none := List.getElem?_eq_none (by omega)
        rw [he]
        clear he hzo hzi ht4 hb34 cBt
        gi_wp2
        go_roundg 0
        case measure => omega
        case rel => exact ⟨k + 1, y', HJ4, HH4, HO3, hWW4, HC4, .inr ⟨rfl, by omega, rfl⟩⟩
    · have HE := Lib.hid hkc
      clear hkc
      gi_wp2
      refine bodyPost_end (results_none rfl _ _ _) rfl ?_
      exact ⟨⟨_, rfl⟩, y, HYk.out, .inl (by rw [HL.out, ← HE.out]; exact HJk.out)⟩

theorem ListSeqX.wide {F : Fence} {n : Nat} {P : Program} {gf : Nat} {lb : Array Value} {L : List (List Int)} {p q p' q' : Nat} {w0 W0 : World} (h : ListSeqX F n P gf lb L p q w0) (hp : p' ≤ p) (hq : q ≤ q') (hb : Below w0.heap.size w0 W0) : ListSeqX F n P gf lb L p' q' W0 := by
  intro l lo hi J S W y0 h1 h2 h3
  exact h l lo hi J S W y0 (hb.trans (h1.mono hb.size)) (by omega) h3

set_option maxHeartbeats 1000000 in
/-- What setsOfSize gives: the iterator of these sets. -/
theorem setsOfSizeL_any (N K : Nat) (w : World) (hN : N ≤ 7) (h1 : 1 ≤ K) (hK : K ≤ N) :
    Calls Try.prog 74 #[.int .i64 N, .int .i64 K] w fun e w' => ∃ lb, e = .returned (.func (.func 94) #[] lb) ∧ Hid (∀ n, 2 ≤ n → ListSeqX Fence.wide n Try.prog 94 lb ((combs N K).map up) w.heap.size w'.heap.size w') ∧ Below w.heap.size w w' := by
  obtain ⟨wA, hA⟩ : ∃ u, u = w.alloc (.cells #[.int .i64 N] 3) := ⟨_, rfl⟩
  have hbA : Below w.heap.size w wA := by rw [hA]; exact below_alloc _ _
  have cA : wA.cell? ⟨w.heap.size, 0, none⟩ = some (.int .i64 N) := by rw [hA]; exact (Boxed.new w 3 (.int .i64 N)).cell
  have CN := Lib.hid (numbers_any K wA (by omega))
  have CF : Hid (∀ (z : Row) (u : World), z.At u → Calls Try.prog 83 #[.slice z.a z.l.length z.c, .func (.func 85) #[] #[.pointer (some ⟨w.heap.size, 0, none⟩)]] u fun e w' => e = .returned (.func (.func 94) #[] #[.pointer (some ⟨u.heap.size, 0, none⟩), .pointer (some ⟨u.heap.size + 1, 0, none⟩)]) ∧ w'.cell? ⟨u.heap.size, 0, none⟩ = some (.slice z.a z.l.length z.c) ∧ w'.cell? ⟨u.heap.size + 1, 0, none⟩ = some (.func (.func 85) #[] #[.pointer (some ⟨w.heap.size, 0, none⟩)]) ∧ w'.heap.size = u.heap.size + 2 ∧ Below u.heap.size u w') := Lib.hid fun z u _ => by
    have c0 := Lib.hid ((Boxed.new u 22 (.slice z.a z.l.length z.c)).alloc (.cells #[.func (.func 85) #[] #[.pointer (some ⟨w.heap.size, 0, none⟩)]] 59)).cell
    have c1 := Lib.hid (Boxed.new (u.alloc (.cells #[.slice z.a z.l.length z.c] 22)) 59 (.func (.func 85) #[] #[.pointer (some ⟨w.heap.size, 0, none⟩)])).cell
    go_enter Try.func83, Try.ntmps83
    go_wp2
    go_ret
    have h1 := c1.out
    rw [World.size_alloc] at h1
    exact ⟨rfl, c0.out, h1, by simp only [World.size_alloc], ((Below.refl _ u).alloc (Nat.le_refl _) _).alloc (by simp) _⟩
  have HA := Lib.hid hA
  have HCA := Lib.hid cA
  have hz : wA.heap.size = w.heap.size + 1 := by rw [hA]; exact World.size_alloc _ _
  have HZ := Lib.hid hz
  clear hA cA hz
  go_enter Try.func74, Try.ntmps74
  go_wp2_with fail
  rw [← HA.out]
  refine (show Calls _ _ _ _ _ from CN.out).mono ?_
  rintro e W1 ⟨z, rfl, hzl, -, hzi, hb1⟩
  have HZL := Lib.hid hzl
  have HZA := Lib.hid hzi.at
  have HB1 := Lib.hid hb1
  have CF1 := Lib.hid (CF.out z W1 hzi.at)
  clear hzl hzi hb1 CN CF
  go_wp2_with fail
  refine (show Calls _ _ _ _ _ from CF1.out).mono ?_
  rintro e W2 ⟨rfl, d0, d1, hs2, hb2⟩
  have hw1 := HB1.out.size
  have hZ := HZ.out
  have HSEQ : Hid (∀ n, 2 ≤ n → ListSeqX Fence.wide n Try.prog 94 #[.pointer (some ⟨W1.heap.size, 0, none⟩), .pointer (some ⟨W1.heap.size + 1, 0, none⟩)] ((combs N K).map up) w.heap.size W2.heap.size W2) := Lib.hid fun n hn =>
    lists_seqX n hn W1.heap.size (W1.heap.size + 1) w.heap.size N K z W2 hN h1 hK d0 (HZA.out.on hb2) HZL.out d1 ((hb2.cell (p := ⟨w.heap.size, 0, none⟩) (by simp only; omega)).trans ((HB1.out.cell (p := ⟨w.heap.size, 0, none⟩) (by simp only; omega)).trans HCA.out)) w.heap.size W2.heap.size (by omega) (Nat.le_refl _) (by omega) (by omega)
  have HFIN := Lib.hid ((hbA.trans (HB1.out.mono hbA.size)).trans (hb2.mono (Nat.le_trans hbA.size hw1)))
  clear d0 d1 hs2 hb2
  go_wp2
  go_ret
  exact ⟨_, rfl, HSEQ, HFIN.out⟩
end Go.Proofs.Ytemflcegkebloaa
