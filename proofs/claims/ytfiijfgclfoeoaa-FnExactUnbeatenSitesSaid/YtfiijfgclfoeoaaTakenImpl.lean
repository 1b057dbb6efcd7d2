/- The clients that go to the follower, as the program has them. Condition: a valid Field, a set of sites of the leader, and a list of sites of the follower. -/
import Derived.Test.YtfiijfgclfoeoaaPlainTaken
import Derived.Test.YtfiijfgclfoeoaaNear
import Derived.Test.YtfiijfgclfoeoaaSysMem
import Derived.RangeFuncNested
namespace Go.Proofs.Ytfiijfgclfoeoaa
open Go.RowKit

theorem at_fact9 {Q : Exit → Act → World → Prop} {e : Exit} {a : Act} {u : World} {P : World → Prop} (hP : P u) (h : ∀ v, P v → Q e a v) : Q e a u := h u hP
theorem one_next {V u1 : World} {x : Value} {t : TypeId} (hb : Below (V.alloc (.cells #[x] t)).heap.size (V.alloc (.cells #[x] t)) u1) : Boxed u1 V.heap.size t x :=
  (hb.block V.heap.size (by rw [size_alloc]; omega)).trans (Boxed.new V t x)
theorem one_nextD {V u1 : World} {x : Value} {t : TypeId} (hb : Below (V.alloc (.cells #[x] t)).drew.heap.size (V.alloc (.cells #[x] t)).drew u1) : Boxed u1 V.heap.size t x :=
  one_next ((Below.refl (V.alloc (.cells #[x] t)).heap.size (V.alloc (.cells #[x] t))).drew.trans hb)
theorem boxed_on {w w' : World} {B : Nat} {t : TypeId} {v : Value} (h : Boxed w B t v) (b : Below w.heap.size w w') : Boxed w' B t v := (b.block B h.lt).trans h

theorem tab_cellsT {T : Tab} {w u : World} (hT : T.At w) (hu : Below w.heap.size w u) {k : Nat} (hk : k < T.R.length) : ∃ b o, ∃ r : Row, T.a = some ⟨b, o, none⟩ ∧ u.cell? ⟨b, o + k, none⟩ = some (.slice r.a r.l.length r.c) ∧ r.At u ∧ T.con.getD k [] = r.l ∧ r ∈ T.R := by
  obtain ⟨⟨_, _, h3⟩, hr⟩ := hT
  rcases h3 with h3 | ⟨b, o, ha, hb, hcell⟩
  · have h3' := congrArg List.length h3; rw [tv_length, List.length_nil] at h3'; omega
  · refine ⟨b, o, T.R[k], ha, (hu.cell (p := ⟨b, o + k, none⟩) hb).trans (hcell k _ (tv_at hk)), (hr _ (List.getElem_mem hk)).on hu, ?_, List.getElem_mem hk⟩
    rw [List.getD_eq_getElem?_getD, List.getElem?_eq_getElem (by rw [con_length]; exact hk), Option.getD_some, con_at T hk]


/-- A site that is nearer than x. -/
def underP (l : List Int) (x : Int) (m : Nat) : Bool := decide (l.getD m 0 < x)

set_option maxHeartbeats 1000000 in
theorem takeIn_any (r : Row) (m : Nat) (x : Int) (gl gn : Nat) (w : World) (hr : r.At w) (hsm : r.l.length ≤ 7) (hm : m < r.l.length) (hgl : w.cell? ⟨gl, 0, none⟩ = some (.slice r.a r.l.length r.c)) (hgn : w.cell? ⟨gn, 0, none⟩ = some (.int .i64 x)) :
    Calls Try.prog 68 #[.int .i64 (m : Int), .pointer (some ⟨gl, 0, none⟩), .pointer (some ⟨gn, 0, none⟩)] w fun e w' => e = .returned (.bool (underP r.l x m)) ∧ Below w.heap.size w w' := by
  obtain ⟨b, o, ha, hcl⟩ : ∃ b o, r.a = some ⟨b, o, none⟩ ∧ w.cell? ⟨b, o + m, none⟩ = some (.int .i64 (r.l.getD m 0)) := by
    rcases hr.2.2 with h3 | ⟨b, o, h5, _, hc5⟩
    · have := congrArg List.length (iv_nil h3); rw [List.length_nil] at this; omega
    · exact ⟨b, o, h5, by rw [hc5 m _ (iv_at hm), getD_at hm]⟩
  obtain ⟨y, hy⟩ : ∃ y, y = r.l.getD m 0 := ⟨_, rfl⟩
  have HN : Hid (underP r.l x m = decide (y < x)) := Lib.hid (by rw [hy]; rfl)
  rw [← hy] at hcl
  have hai : (m : Int) < (r.l.length : Int) := by omega
  have hni : (r.l.length : Int) ≤ 7 := by omega
  rw [ha] at hgl
  clear hr hy ha
  go_enter Try.func68, Try.ntmps68
  go_wp2
  go_quiet (fail)
  go_wp2
  go_ret
  exact ⟨by rw [HN.out]; rfl, below_draws w _⟩

theorem any_takeN {P : Nat → Bool} {L : List Nat} {k : Nat} (hk : k < L.length) (h : (L.take k).any P = false) (hp : P L[k] = false) : (L.take (k + 1)).any P = false := by
  rw [List.take_succ_eq_append_getElem hk, List.any_append, h]; simp [hp]
theorem any_here {P : Nat → Bool} {L : List Nat} {k : Nat} (hk : k < L.length) (hp : P L[k] = true) : L.any P = true := List.any_eq_true.2 ⟨_, List.getElem_mem hk, hp⟩

set_option maxRecDepth 8000 in
set_option maxHeartbeats 1500000 in
theorem indexTake_any (s r : Row) (U : List Nat) (x : Int) (gl gn : Nat) (w : World) (hs : s.At w) (hU : s.l = up U) (hr : r.At w) (hsm : r.l.length ≤ 7) (hb : ∀ m ∈ U, m < r.l.length) (hgl : w.cell? ⟨gl, 0, none⟩ = some (.slice r.a r.l.length r.c)) (hgn : w.cell? ⟨gn, 0, none⟩ = some (.int .i64 x)) :
    Calls Try.prog 60 #[.slice s.a s.l.length s.c, .func (.func 68) #[] #[.pointer (some ⟨gl, 0, none⟩), .pointer (some ⟨gn, 0, none⟩)]] w fun e w' => (∃ i : Int, e = .returned (.int .i64 i) ∧ decide (0 ≤ i) = U.any (underP r.l x)) ∧ Below w.heap.size w w' := by
  have hll := World.block_lt_of_cell? _ _ hgl
  have hln := World.block_lt_of_cell? _ _ hgn
  have CO := Lib.hid (fun (m : Nat) (hm : m < r.l.length) (W : World) (h : Below w.heap.size w W) => takeIn_any r m x gl gn W (hr.on h) hsm hm ((h.cell (p := ⟨gl, 0, none⟩) hll).trans hgl) ((h.cell (p := ⟨gn, 0, none⟩) hln).trans hgn))
  obtain ⟨P, hP⟩ : ∃ P, P = underP r.l x := ⟨_, rfl⟩
  rw [← hP] at CO ⊢
  have HB := Lib.hid hb
  obtain ⟨a, c, l⟩ := s
  obtain ⟨h1, h2, h3⟩ := hs
  simp only at h1 h2 h3 hU ⊢
  subst hU
  rw [iv_length] at h1
  rw [up_length] at h1 ⊢
  unfold maxLen at h2
  have hni : (U.length : Int) ≤ 9223372036854775807 := by omega
  have HR := Lib.hid h3
  obtain ⟨rn, hrn⟩ : ∃ n, n = r.l.length := ⟨_, rfl⟩
  rw [← hrn] at CO HB
  clear h3 hr hgl hgn hP hb hrn hsm
  show Calls _ _ #[_, .func (.func 68) #[] #[.pointer (some ⟨gl, 0, none⟩), .pointer (some ⟨gn, 0, none⟩)]] _ _
  go_enter Try.func60, Try.ntmps60
  go_wp2
  go_loopw [8] (fun i wr => ∃ k : Nat, k ≤ U.length ∧ i = .int .i64 k ∧ Below w.heap.size w wr ∧ (U.take k).any P = false) (fun i _ => U.length - (intOf i).toNat)
  case atStart => exact ⟨0, Nat.zero_le _, rfl, Below.refl _ _, by simp⟩
  case round =>
    obtain ⟨k, hk, rfl, hnx, hall⟩ := hrel
    have HALL := Lib.hid hall
    clear hall
    by_cases hlt : k < U.length
    · have hlti : (k : Int) < (U.length : Int) := by omega
      rcases HR.out with h3 | ⟨b, o, rfl, hb, hcell⟩
      · have h3' := congrArg List.length (iv_nil h3); rw [up_length, List.length_nil] at h3'; omega
      obtain ⟨m, hm⟩ : ∃ m, m = U[k] := ⟨_, rfl⟩
      have hcl : wr.cell? ⟨b, o + k, none⟩ = some (.int .i64 (m : Int)) := (hnx.cell (p := ⟨b, o + k, none⟩) hb).trans (by rw [hcell k _ (iv_at (by rw [up_length]; exact hlt)), up_at hlt, hm])
      have ci := CO.out m (HB.out m (by rw [hm]; exact List.getElem_mem hlt)) wr hnx
      have HX := Lib.hid hm
      have HNX := Lib.hid hnx
      have hszr := hnx.size
      obtain ⟨v, hv⟩ : ∃ v, v = P m := ⟨_, rfl⟩
      rw [← hv] at ci
      have CI := Lib.hid ci
      clear hm hcell ci hnx
      cases v with
      | false =>
        have HS : Hid ((U.take (k + 1)).any P = false) := Lib.hid (any_takeN hlt HALL.out (by rw [← HX.out]; exact hv.symm))
        clear hv
        go_wp2_with fail
        refine CI.out.mono ?_
        rintro e W ⟨rfl, hb1⟩
        have HN2 := Lib.hid (HNX.out.trans (hb1.mono hszr))
        clear hb1 hcl
        go_wp2
        go_roundw
        case rel => exact ⟨k + 1, by omega, by go_num, HN2.out, HS.out⟩
        case measure => simp [intOf]; omega
      | true =>
        have HS : Hid (U.any P = true) := Lib.hid (any_here hlt (by rw [← HX.out]; exact hv.symm))
        clear hv
        go_wp2_with fail
        refine CI.out.mono ?_
        rintro e W ⟨rfl, hb1⟩
        have HN2 := Lib.hid (HNX.out.trans (hb1.mono hszr))
        clear hb1 hcl
        go_wp2
        go_ret
        exact ⟨⟨(k : Int), rfl, by rw [HS.out]; simp⟩, HN2.out⟩
    · obtain rfl : k = U.length := by omega
      have HS : Hid (U.any P = false) := Lib.hid (by have := HALL.out; rw [List.take_length] at this; exact this)
      have HNX := Lib.hid hnx
      clear hnx
      go_wp2
      go_ret
      exact ⟨⟨-1, rfl, by rw [HS.out]; rfl⟩, HNX.out⟩

theorem containsTake_any (s r : Row) (U : List Nat) (x : Int) (gl gn : Nat) (w : World) (hs : s.At w) (hU : s.l = up U) (hr : r.At w) (hsm : r.l.length ≤ 7) (hb : ∀ m ∈ U, m < r.l.length) (hgl : w.cell? ⟨gl, 0, none⟩ = some (.slice r.a r.l.length r.c)) (hgn : w.cell? ⟨gn, 0, none⟩ = some (.int .i64 x)) :
    Calls Try.prog 58 #[.slice s.a s.l.length s.c, .func (.func 68) #[] #[.pointer (some ⟨gl, 0, none⟩), .pointer (some ⟨gn, 0, none⟩)]] w fun e w' => e = .returned (.bool (U.any (underP r.l x))) ∧ Below w.heap.size w w' := by
  have CI := Lib.hid (indexTake_any s r U x gl gn w hs hU hr hsm hb hgl hgn)
  clear hr hs hgl hgn hb hU
  go_enter Try.func58, Try.ntmps58
  go_wp2_with fail
  refine CI.out.mono ?_
  rintro e W ⟨⟨i, rfl, hi⟩, hb⟩
  have HI := Lib.hid hi
  clear hi
  go_wp2
  go_ret
  exact ⟨by rw [← HI.out]; rfl, hb⟩

set_option maxRecDepth 8000 in
set_option maxHeartbeats 1500000 in
theorem take1_any (r s t : Row) (T U : List Nat) (gs gt : Nat) (w : World) (hr : r.At w) (hsm : r.l.length ≤ 7) (hs : s.At w) (hT : s.l = up T) (h0 : 0 < T.length) (hTb : ∀ m ∈ T, m < r.l.length) (ht : t.At w) (hU : t.l = up U) (hUb : ∀ m ∈ U, m < r.l.length)
    (hgs : w.cell? ⟨gs, 0, none⟩ = some (.slice s.a s.l.length s.c)) (hgt : w.cell? ⟨gt, 0, none⟩ = some (.slice t.a t.l.length t.c)) :
    Calls Try.prog 66 #[.slice r.a r.l.length r.c, .pointer (some ⟨gs, 0, none⟩), .pointer (some ⟨gt, 0, none⟩)] w fun e w' => e = .returned (.bool (takeP T U r.l)) ∧ Below w.heap.size w w' := by
  obtain ⟨q, hq⟩ : ∃ q, q = near r.l T := ⟨_, rfl⟩
  have hqb : q < r.l.length := by rw [hq]; exact hTb _ (near_mem h0 _ (Nat.le_refl _))
  obtain ⟨x, hx⟩ : ∃ x, x = r.l.getD q 0 := ⟨_, rfl⟩
  have HV : Hid (takeP T U r.l = U.any (underP r.l x)) := Lib.hid (by rw [hx, hq]; rfl)
  obtain ⟨wB, hB⟩ : ∃ u, u = w.alloc (.cells #[.slice r.a r.l.length r.c] 22) := ⟨_, rfl⟩
  have hbB : Below w.heap.size w wB := by rw [hB]; exact below_alloc _ _
  have hszB : wB.heap.size = w.heap.size + 1 := by rw [hB, size_alloc]
  have hxB : Boxed wB w.heap.size 22 (.slice r.a r.l.length r.c) := by rw [hB]; exact Boxed.new _ _ _
  have hsB : wB.cell? ⟨gs, 0, none⟩ = some (.slice s.a s.l.length s.c) := (hbB.cell (p := ⟨gs, 0, none⟩) (World.block_lt_of_cell? _ _ hgs)).trans hgs
  have htB : wB.cell? ⟨gt, 0, none⟩ = some (.slice t.a t.l.length t.c) := (hbB.cell (p := ⟨gt, 0, none⟩) (World.block_lt_of_cell? _ _ hgt)).trans hgt
  have hls := World.block_lt_of_cell? _ _ hsB
  have hlt2 := World.block_lt_of_cell? _ _ htB
  obtain ⟨b, o, ha, hbb, hcl⟩ : ∃ b o, r.a = some ⟨b, o, none⟩ ∧ b < wB.heap.size ∧ wB.cell? ⟨b, o + q, none⟩ = some (.int .i64 x) := by
    rcases (hr.on hbB).2.2 with h3 | ⟨b, o, h5, h6, hc5⟩
    · have := congrArg List.length (iv_nil h3); rw [List.length_nil] at this; omega
    · exact ⟨b, o, h5, h6, by rw [hc5 q _ (iv_at hqb), hx, getD_at hqb]⟩
  have HS : Hid (∀ u, Below wB.heap.size wB u → ((u.cell? ⟨w.heap.size, 0, none⟩ = some (.slice r.a r.l.length r.c) ∧ u.cell? ⟨gs, 0, none⟩ = some (.slice s.a s.l.length s.c) ∧ u.cell? ⟨b, o + q, none⟩ = some (.int .i64 x)) ∧ Below wB.heap.size wB u)) := Lib.hid fun u hu =>
    ⟨⟨(hu.cell (p := ⟨w.heap.size, 0, none⟩) hxB.lt).trans hxB.cell, (hu.cell (p := ⟨gs, 0, none⟩) hls).trans hsB, (hu.cell (p := ⟨b, o + q, none⟩) hbb).trans hcl⟩, hu⟩
  have CN := Lib.hid (fun u (hu : Below wB.heap.size wB u) => by have := nearest_law r s T u ((hr.on hbB).on hu) ((hs.on hbB).on hu) hT h0 hTb; rw [← hq] at this; exact this)
  have CC := Lib.hid (fun u (hu : Below wB.heap.size wB u) (gn : Nat) (hgn : u.cell? ⟨gn, 0, none⟩ = some (.int .i64 x)) => containsTake_any t r U x w.heap.size gn u ((ht.on hbB).on hu) hU ((hr.on hbB).on hu) hsm hUb ((hu.cell (p := ⟨w.heap.size, 0, none⟩) hxB.lt).trans hxB.cell) hgn)
  have HT2 := Lib.hid (fun u (hu : Below wB.heap.size wB u) => (hu.cell (p := ⟨gt, 0, none⟩) hlt2).trans htB)
  have s0 := HS.out wB.drew (Below.refl _ _).drew
  have HB := Lib.hid hB.symm
  have HBB := Lib.hid hbB
  have hqi : (q : Int) < (r.l.length : Int) := by omega
  have hni : (r.l.length : Int) ≤ 7 := by omega
  have HAL : Hid (∀ U o, Below wB.heap.size wB U → Below wB.heap.size wB (U.alloc o)) := Lib.hid fun U o hu => hu.alloc hu.size o
  obtain ⟨rn, hrn⟩ : ∃ n, n = r.l.length := ⟨_, rfl⟩
  obtain ⟨sn, hsn⟩ : ∃ n, n = s.l.length := ⟨_, rfl⟩
  obtain ⟨tn, htn⟩ : ∃ n, n = t.l.length := ⟨_, rfl⟩
  rw [ha] at HS s0 CN HB
  rw [← hrn] at HS s0 CN HB hqi hni
  rw [← hsn] at HS s0 CN
  rw [← htn] at HT2 CC
  rw [ha]
  rw [← hrn]
  rw [HV.out]
  obtain ⟨v, hv⟩ : ∃ v, v = U.any (underP r.l x) := ⟨_, rfl⟩
  rw [← hv] at CC ⊢
  clear hq hx hr hs ht hT hU h0 hTb hUb hgs hgt hB hbB hszB hxB hsB htB hls hlt2 hbb hcl ha hqb hsm hrn hsn htn HV hv
  go_enter Try.func66, Try.ntmps66
  go_wp2_with fail
  rw [HB.out]
  go_region_held3 (fun u => ((u.cell? ⟨w.heap.size, 0, none⟩ = some (.slice (some ⟨b, o, none⟩) rn r.c) ∧ u.cell? ⟨gs, 0, none⟩ = some (.slice s.a sn s.c) ∧ u.cell? ⟨b, o + q, none⟩ = some (.int .i64 x)) ∧ Below wB.heap.size wB u)) (first | exact s0 | exact HS.out _ (by assumption) | exact HS.out _ (HAL.out _ _ (by assumption)) | exact HS.out _ (HAL.out _ _ (by exact And.right (by assumption))) | exact HS.out _ (HAL.out _ _ (Below.refl _ _)).drew | exact HS.out _ (Below.setCell hB1 (p := ⟨wB.heap.size, 0, none⟩) (Nat.le_refl _) _)) ((go_at_call 67; refine (show Calls _ _ _ _ _ from CN.out _ (by first | assumption | exact And.right (by assumption))).mono ?_; rintro e u1 ⟨rfl, hb1⟩; have hB1 : Below wB.heap.size wB u1 := Below.trans (show Below wB.heap.size wB _ by first | assumption | exact And.right (by assumption)) (hb1.mono (Below.size (show Below wB.heap.size wB _ by first | assumption | exact And.right (by assumption)))); first | (have nx := one_next hb1; have n0 := nx.cell; have m0 := nx.frozen) | (have nx := one_nextD hb1; have n0 := nx.cell; have m0 := nx.frozen) | skip))
  all_goals
    first
    | refine at_fact9 (P := fun v => Below wB.heap.size wB v ∧ Boxed v wB.heap.size 3 (.int .i64 x)) ⟨Below.setCell hB1 (p := ⟨wB.heap.size, 0, none⟩) (Nat.le_refl _) _, nx.set _⟩ ?_
    | refine at_fact9 (P := fun v => Below wB.heap.size wB v ∧ Boxed v u1.heap.size 3 (.int .i64 x)) ⟨HAL.out _ _ hB1, Boxed.new u1 _ _⟩ ?_
    rintro W5 ⟨hb5, bx5⟩
    have n5 := bx5.cell
    have t5 := HT2.out _ hb5
    have CB := Lib.hid (CC.out W5 hb5 _ n5)
    have HB5 := Lib.hid hb5
    have hszB5 := hb5.size
    clear hb5 bx5
    go_wp2_with fail
    refine (show Calls _ _ _ _ _ from CB.out).mono ?_
    rintro e W6 ⟨rfl, hb6⟩
    have HB6 := Lib.hid (HBB.out.trans ((HB5.out.trans (hb6.mono hszB5)).mono HBB.out.size))
    clear hb6 n5 t5
    go_wp2
    go_ret
    exact ⟨rfl, HB6.out⟩

set_option maxRecDepth 8000 in
set_option maxHeartbeats 1000000 in
/-- The places of the rows of a table that are picked by takenFrom$1. -/
theorem placesWhere_taken (T : Tab) (ga gr : Nat) (P : List Int → Bool) (w : World) (hT : T.At w) (hs : T.R.length ≤ 1048576)
    (hP : ∀ r ∈ T.R, ∀ u, Below w.heap.size w u → Calls Try.prog 66 #[.slice r.a r.l.length r.c, .pointer (some ⟨ga, 0, none⟩), .pointer (some ⟨gr, 0, none⟩)] u fun e w' => e = .returned (.bool (P r.l)) ∧ Below u.heap.size u w') :
    Calls Try.prog 65 #[.slice T.a T.R.length T.c, .func (.func 66) #[] #[.pointer (some ⟨ga, 0, none⟩), .pointer (some ⟨gr, 0, none⟩)]] w fun e w' => ∃ t : Row, e = .returned (.slice t.a t.l.length t.c) ∧ t.l = picks P T.con T.R.length ∧ t.Own 3 w' ∧ t.In w.heap.size w'.heap.size w' ∧ Below w.heap.size w w' := by
  obtain ⟨i0, hi, hz0, hz1, hz2⟩ := info_parts infoInt
  have hni : (T.R.length : Int) ≤ 1048576 := by omega
  have HT := Lib.hid hT
  have HP := Lib.hid hP
  have hown0 := empty_own w
  have hb0 := below_alloc w (.cells #[] 3)
  have H0 := Lib.hid hown0
  have HB0 := Lib.hid hb0
  clear hP hown0 hb0 hT
  go_enter Try.func65, Try.ntmps65
  go_wp2
  go_loopw [5, 6, 7, 11] (fun out _ _ i wr => ∃ k : Nat, k ≤ T.R.length ∧ i = .int .i64 k ∧ wr.ownsRow w.heap.size 3 1 out (picks P T.con k).length (iv (picks P T.con k)) ∧ Below w.heap.size w wr) (fun _ _ _ i _ => T.R.length - (intOf i).toNat)
  case atStart => exact ⟨0, Nat.zero_le _, rfl, H0.out, HB0.out⟩
  case round =>
    obtain ⟨k, hk, rfl, hown0, hnx⟩ := hrel
    by_cases hlt : k < T.R.length
    · have hlti : (k : Int) < (T.R.length : Int) := by omega
      obtain ⟨b, o, x, hta, hcl, hxa, hxl, hxm⟩ := tab_cellsT HT.out hnx hlt
      have HX := Lib.hid hxl
      have cp := HP.out x hxm wr hnx
      obtain ⟨v, hv⟩ : ∃ v, v = P x.l := ⟨_, rfl⟩
      rw [← hv] at cp
      have CP := Lib.hid cp
      have HV := Lib.hid hv
      have HO := Lib.hid hown0
      have HN := Lib.hid hnx
      have hszr := hnx.size
      have hpl := picks_len P T.con k
      rw [hta]
      clear cp hv hown0 hnx hta hxa hxl hxm
      go_wp2_with fail
      refine (show Calls _ _ _ _ _ from CP.out).mono ?_
      rintro e W1 ⟨rfl, hb1⟩
      have hnx1 := HN.out.trans (hb1.mono hszr)
      have hown := owns_below HO.out hb1
      have hsz1 := hb1.size
      clear hb1 hcl
      cases v with
      | false =>
        have HE : Hid (picks P T.con (k + 1) = picks P T.con k) := Lib.hid (picks_no (by rw [HX.out, ← HV.out]))
        have HOW := Lib.hid hown
        clear hown
        go_wp2
        go_roundw
        case rel => exact ⟨k + 1, by omega, by go_num, by rw [HE.out]; exact HOW.out, hnx1⟩
        case measure => simp [intOf]; omega
      | true =>
        have HE : Hid (picks P T.con (k + 1) = picks P T.con k ++ [(k : Int)]) := Lib.hid (picks_yes (by rw [HX.out, ← HV.out]))
        have HX2 := Lib.hid hnx1
        clear hnx1
        go_wp2_with (at_builtin; refine wpList_append_own _ rfl _ _ 22 rfl w.heap.size 3 i0 (.int .i64 0) 1 8 Try.underlying22 hi hz0 hz1 hz2 rfl (by decide) _ _ _ rfl (hown.alloc _) ⟨W1.heap.size, 0, none⟩ 1 1 [.int .i64 (k : Int)] rfl rfl (one_cell _ _ _) (by simp [Value.oneCell']) (by unfold maxLen; omega) (by omega) (by simp; omega) ?_; intro v' w1 hown' hgrow _)
        have R1 : w1.ownsRow w.heap.size 3 1 v' (picks P T.con (k + 1)).length (iv (picks P T.con (k + 1))) := by rw [HE.out]; exact own_snoc rfl hown'
        have R2 : Below w.heap.size w w1 := (HX2.out.alloc (by omega) _).grown hgrow (by simp; omega) (fun j hj => (hown.lt j hj).1)
        clear hown' hgrow hown
        go_wp2
        go_roundw
        case rel => exact ⟨k + 1, by omega, by go_num, R1, R2⟩
        case measure => simp [intOf]; omega
    · obtain rfl : k = T.R.length := by omega
      go_wp2
      go_ret
      obtain ⟨t, ht, htl, hto, hti⟩ := row_of_own hown0
      exact ⟨t, congrArg Ending.returned ht, htl, hto, hti, hnx⟩

set_option maxRecDepth 8000 in
set_option maxHeartbeats 1000000 in
theorem takenFrom_any (F : Fld) (s t : Row) (T U : List Nat) (w : World) (hF : F.At w) (hg : F.good = true) (hs : s.At w) (hT : s.l = up T) (h0 : 0 < T.length) (hTb : ∀ m ∈ T, m < F.o.l.length) (ht : t.At w) (hU : t.l = up U) (hUb : ∀ m ∈ U, m < F.o.l.length) :
    Calls Try.prog 48 #[.agg #[.slice F.o.a F.o.l.length F.o.c, .slice F.t.a F.t.R.length F.t.c], .slice s.a s.l.length s.c, .slice t.a t.l.length t.c] w fun e w' => ∃ y : Row, e = .returned (.slice y.a y.l.length y.c) ∧ y.l = taken F.t.con T U ∧ y.Own 3 w' ∧ y.In w.heap.size w'.heap.size w' ∧ Below w.heap.size w w' := by
  obtain ⟨wA, hA⟩ : ∃ u, u = w.alloc (Obj.cells #[.slice F.o.a F.o.l.length F.o.c, .slice F.t.a F.t.R.length F.t.c] 29) := ⟨_, rfl⟩
  obtain ⟨wB, hB⟩ : ∃ u, u = wA.alloc (.cells #[.slice s.a s.l.length s.c] 22) := ⟨_, rfl⟩
  obtain ⟨wC, hC⟩ : ∃ u, u = wB.alloc (.cells #[.slice t.a t.l.length t.c] 22) := ⟨_, rfl⟩
  have hbA : Below w.heap.size w wA := by rw [hA]; exact below_alloc _ _
  have hszA : wA.heap.size = w.heap.size + 1 := by rw [hA, size_alloc]
  have hbB : Below wA.heap.size wA wB := by rw [hB]; exact below_alloc _ _
  have hszB : wB.heap.size = w.heap.size + 2 := by rw [hB, size_alloc, hszA]
  have hbC : Below wB.heap.size wB wC := by rw [hC]; exact below_alloc _ _
  have bx : Box2 wA w.heap.size (.slice F.o.a F.o.l.length F.o.c) (.slice F.t.a F.t.R.length F.t.c) 29 := by rw [hA]; exact Box2.made _ _ _ _
  have bxC := (bx.on hbB).on hbC
  have cs : wB.cell? ⟨w.heap.size + 1, 0, none⟩ = some (.slice s.a s.l.length s.c) := by rw [hB, ← hszA]; simp
  have csC : wC.cell? ⟨w.heap.size + 1, 0, none⟩ = some (.slice s.a s.l.length s.c) := (hbC.cell (p := ⟨w.heap.size + 1, 0, none⟩) (by show w.heap.size + 1 < _; omega)).trans cs
  have ctC : wC.cell? ⟨w.heap.size + 1 + 1, 0, none⟩ = some (.slice t.a t.l.length t.c) := by rw [hC, show w.heap.size + 1 + 1 = wB.heap.size by omega]; simp
  have hls := World.block_lt_of_cell? _ _ csC
  have hlt := World.block_lt_of_cell? _ _ ctC
  have hbw : Below w.heap.size w wC := (hbA.trans (hbB.mono hbA.size)).trans (hbC.mono (by omega))
  have hsz := good_sizes hg
  have CC := Lib.hid (placesWhere_taken F.t (w.heap.size + 1) (w.heap.size + 1 + 1) (takeP T U) wC (hF.on hbw).2 (by omega) (fun r hr u hu => by
    have hgr := good_row hg hr
    exact take1_any r s t T U (w.heap.size + 1) (w.heap.size + 1 + 1) u (((hF.on hbw).2.2 r hr).on hu) (by omega) ((hs.on hbw).on hu) hT h0 (fun m hm => by rw [hgr.1]; exact hTb m hm) ((ht.on hbw).on hu) hU (fun m hm => by rw [hgr.1]; exact hUb m hm)
      ((hu.cell (p := ⟨w.heap.size + 1, 0, none⟩) hls).trans csC) ((hu.cell (p := ⟨w.heap.size + 1 + 1, 0, none⟩) hlt).trans ctC)))
  have HW : Hid (wC = ((w.alloc (Obj.cells #[.slice F.o.a F.o.l.length F.o.c, .slice F.t.a F.t.R.length F.t.c] 29)).alloc (.cells #[.slice s.a s.l.length s.c] 22)).alloc (.cells #[.slice t.a t.l.length t.c] 22)) := Lib.hid (by rw [hC, hB, hA])
  have x1 := bxC.c1
  rw [HW.out] at x1
  have HBW := Lib.hid hbw
  have HTK : Hid (picks (takeP T U) F.t.con F.t.R.length = taken F.t.con T U) := Lib.hid (by unfold taken; rw [con_length])
  clear hA hB hC hbA hszA hbB hszB hbC bx bxC cs csC ctC hls hlt hbw hsz hF hs ht hT hU h0 hTb hUb
  go_enter Try.func48, Try.ntmps48
  go_wp2_with fail
  rw [← HW.out]
  refine (show Calls _ _ _ _ _ from CC.out).mono ?_
  rintro e W1 ⟨y, rfl, hyl, hyo, hyi, hb1⟩
  have HYL := Lib.hid (hyl.trans HTK.out)
  have HYO := Lib.hid hyo
  have HYI := Lib.hid (hyi.wide HBW.out.size (Nat.le_refl _) : y.In w.heap.size W1.heap.size W1)
  have HB := Lib.hid (HBW.out.trans (hb1.mono HBW.out.size))
  clear hyl hyo hyi hb1 x1
  go_wp2
  go_ret
  exact ⟨y, rfl, HYL.out, HYO.out, HYI.out, HB.out⟩
end Go.Proofs.Ytfiijfgclfoeoaa
