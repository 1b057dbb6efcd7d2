/- The sets of at most so many sites, as the model lists them, and the first one of the least reach. Condition: a valid Field, a number of its sites. -/
import Derived.Test.YthabpdfbpdokjaaPartial
import Derived.Test.YthabpdfbpdokjaaSiteSeq
import Derived.Test.YthabpdfbpdokjaaPairReachOf
import Derived.Test.YthabpdfbpdokjaaMedSpec
import Derived.Test.YthabpdfbpdokjaaOwnAll
import Derived.Maps.AppendAt
namespace Go.Proofs.Ythabpdfbpdokjaa
open Go.RowKit Go.Shelf

set_option maxRecDepth 16000 in
set_option maxHeartbeats 1000000 in
theorem l5Ask_any (F : Fld) (k : Int) (w : World) (hF : F.At w) :
    Calls Try.prog 57 #[F.val, .int .i64 k] w fun e w' => e = .returned (.bool (kB F k)) ∧ Below w.heap.size w w' := by
  obtain ⟨wA, hA, hbA, bx, hFA, hszA⟩ := laid_fld F w 29 hF
  have HBX := Lib.hid bx
  have HA := Lib.hid hA
  obtain ⟨g, hg⟩ : ∃ g, g = F.good := ⟨_, rfl⟩
  have CG := l2Good_any F wA hFA
  rw [← hg] at CG
  have CG1 := Lib.hid CG
  have CI := Lib.hid (fun W => l1In_any k 1 (F.o.l.length : Int) W)
  have HK : Hid (kB F k = (g && (decide (1 ≤ k) && decide (k ≤ (F.o.l.length : Int))))) := Lib.hid (by rw [hg]; rfl)
  have HG := Lib.hid hg
  have x0 := bx.c0
  have x1 := bx.c1
  rw [hA] at x0 x1
  have HOI : Hid ((F.o.l.length : Int) ≤ 9223372036854775807) := Lib.hid (by obtain ⟨q1, q2, _⟩ := hF.1; rw [iv_length] at q1; unfold maxLen at q2; omega)
  clear hF hA hFA bx hg CG
  show Calls _ _ #[.agg #[F.o.val, F.t.val], _] w _
  go_enter Try.func57, Try.ntmps57
  go_wp2_with fail
  rw [show w.alloc (Obj.cells #[F.o.val, F.t.val] 29) = wA from HA.out.symm]
  refine (show Calls _ _ _ _ _ from CG1.out).mono ?_
  rintro e W1 ⟨rfl, hb1⟩
  clear x0 x1
  cases g with
  | false =>
    go_wp2
    go_ret
    exact ⟨by rw [HK.out]; rfl, hbA.trans (hb1.mono hbA.size)⟩
  | true =>
    have y0 : W1.cell? ⟨w.heap.size, 0, none⟩ = some (.slice F.o.a F.o.l.length F.o.c) := (HBX.out.on hb1).c0
    have HB1 := Lib.hid hb1
    clear hb1
    go_wp2_with fail
    refine (CI.out _).mono ?_
    rintro e W2 ⟨rfl, rfl⟩
    have hb1 := HB1.out
    go_wp2
    go_ret
    exact ⟨by rw [HK.out]; rfl, hbA.trans (hb1.mono hbA.size)⟩


theorem some_upTo : upTo7 (fun n k => (allSets n).filter (fun T => decide (T.length ≤ k)) == preS n k) = true := by decide +kernel
theorem sets_upTo {n k : Nat} (hn : n ≤ 7) (h1 : 1 ≤ k) (hk : k ≤ n) : (allSets n).filter (fun T => decide (T.length ≤ k)) = preS n k := by
  simpa using upTo7_at some_upTo hn h1 hk
theorem preS_sub {N m : Nat} (hm : m ≤ N) {T : List Nat} (hT : T ∈ preS N m) : T ∈ allSets N := by
  unfold preS at hT
  unfold allSets
  rw [List.mem_flatMap] at hT ⊢
  obtain ⟨k, hk, hT⟩ := hT
  exact ⟨k, by rw [List.mem_range] at hk ⊢; omega, hT⟩
theorem preS_some : upTo7 (fun n k => decide (0 < (preS n k).length) && decide ((preS n k).length ≤ 127)) = true := by decide +kernel
theorem preS_len {n k : Nat} (hn : n ≤ 7) (h1 : 1 ≤ k) (hk : k ≤ n) : 0 < (preS n k).length ∧ (preS n k).length ≤ 127 := by
  have := upTo7_at preS_some hn h1 hk
  simpa using this
/-- The first set of at most m sites with the least partial reach. -/
def bestP (F : Fld) (m z : Nat) : List Nat := firstB (partT F z) (preS F.o.l.length m)
theorem bestP_like {F G : Fld} (h : F.Like G) (m z : Nat) : bestP F m z = bestP G m z := by unfold bestP; rw [partT_like h, h.1]
theorem preS_ok {F : Fld} (hg : F.good = true) {m : Nat} (hm : m ≤ F.o.l.length) {T : List Nat} (hT : T ∈ preS F.o.l.length m) : T ≠ [] ∧ ((setB F.o.l.length (up T) = true ∧ ∀ x ∈ T, x < F.o.l.length) ∧ T.length ≤ 7) :=
  all_ok (good_sizes hg).2.1 (preS_sub hm hT)
theorem bestP_ok {F : Fld} (hg : F.good = true) {m : Nat} (h1 : 1 ≤ m) (hm : m ≤ F.o.l.length) (z : Nat) : bestP F m z ≠ [] ∧ ((setB F.o.l.length (up (bestP F m z)) = true ∧ ∀ x ∈ bestP F m z, x < F.o.l.length) ∧ (bestP F m z).length ≤ 7) :=
  preS_ok hg hm (firstB_some (List.length_pos_iff.1 (preS_len (good_sizes hg).2.1 h1 hm).1) (fun _ hT => (preS_ok hg hm hT).1))

theorem maxOf_ge {l : List Int} : ∀ (b : Int), b ≤ l.foldl max b ∧ ∀ x ∈ l, x ≤ l.foldl max b := by
  induction l with
  | nil => intro b; simp
  | cons a t ih =>
    intro b
    have := ih (max b a)
    simp only [List.foldl_cons, List.mem_cons]
    refine ⟨by omega, fun x hx => ?_⟩
    rcases hx with rfl | hx
    · omega
    · exact this.2 x hx
theorem maxOf_mem {l : List Int} : ∀ (b : Int), l.foldl max b = b ∨ l.foldl max b ∈ l := by
  induction l with
  | nil => intro b; simp
  | cons a t ih =>
    intro b
    simp only [List.foldl_cons, List.mem_cons]
    rcases ih (max b a) with h | h
    · rw [h]
      by_cases hb : a ≤ b
      · left; omega
      · right; left; omega
    · exact .inr (.inr h)
/-- Without any left out, it is the reach. -/
theorem part_zero {L : List Int} (h0 : ∀ x ∈ L, 0 ≤ x) : partV L 0 = maxOf L := by
  unfold partV
  by_cases hL : L = []
  · subst hL; rfl
  · have hlen : 0 < L.length := List.length_pos_iff.2 hL
    rw [if_neg (by omega)]
    have hk : L.length - 1 - 0 < (sortA L).length := by rw [sortA_len]; omega
    rw [getD_at hk]
    have hm := (sortA_perm L).mem_iff.1 (List.getElem_mem hk)
    have h1 := (maxOf_ge (l := L) 0).2 _ hm
    have h2 : maxOf L ≤ (sortA L)[L.length - 1 - 0] := by
      have hall : ∀ y ∈ L, y ≤ (sortA L)[L.length - 1 - 0] := fun y hy => by
        obtain ⟨i, hi, rfl⟩ := List.mem_iff_getElem.1 ((sortA_perm L).mem_iff.2 hy)
        by_cases e : i = L.length - 1 - 0
        · subst e; exact Int.le_refl _
        · exact List.pairwise_iff_getElem.1 (sortA_rises L) _ _ hi hk (by rw [sortA_len] at hi; omega)
      rcases maxOf_mem (l := L) 0 with h | h
      · unfold maxOf; rw [h]; exact h0 _ hm
      · exact hall _ h
    have h3 : (sortA L)[L.length - 1 - 0] ≤ maxOf L := h1
    omega
theorem far_part (F : Fld) (s : Row) (T : List Nat) (w : World) (hF : F.At w) (hs : s.At w) (hf : Fine F s T) :
    Calls Try.prog 60 #[F.val, .slice s.a s.l.length s.c] w fun e w' => e = .returned (.int .i64 (partT F 0 T)) ∧ Below w.heap.size w w' := by
  have := l2Far_any F s T w hF hs hf
  rw [show partT F 0 T = maxOf (lens F.t.con T) from part_zero (fun x hx => (lens_bound hf.good T x hx).1)]
  exact this

/-- A table that reads as rows. -/
structure ReadTab (B : Nat) (w : World) (g cap : Nat) (Q : List Row) : Prop where
  cell : ∀ k, (hk : k < Q.length) → w.cell? ⟨g, k, none⟩ = some (.slice Q[k].a Q[k].l.length Q[k].c)
  lt : g < w.heap.size
  ge : B ≤ g
  cap : Q.length ≤ cap ∧ cap ≤ maxLen
  rows : ∀ r ∈ Q, r.In B w.heap.size w
theorem ReadTab.on {B : Nat} {w w' : World} {g cap : Nat} {Q : List Row} (h : ReadTab B w g cap Q) (t : Below w.heap.size w w') : ReadTab B w' g cap Q :=
  ⟨fun k hk => (t.cell (p := ⟨g, k, none⟩) h.lt).trans (h.cell k hk), Nat.lt_of_lt_of_le h.lt t.size, h.ge, h.cap, fun r hr => ((h.rows r hr).on t).wide (Nat.le_refl _) t.size⟩

theorem readTab_of {B : Nat} {w : World} {v : Value} {Q : List Row} (h : w.ownsRow B 22 1 v Q.length (tv Q)) (h0 : 0 < Q.length) (hr : ∀ r ∈ Q, r.In B w.heap.size w) :
    ∃ g cap, v = .slice (some ⟨g, 0, none⟩) Q.length cap ∧ ReadTab B w g cap Q := by
  rcases id h.2 with ⟨_, he⟩ | ⟨g, cap, cur, rfl, hB, _⟩
  · omega
  · have h3 := owns_lt h
    exact ⟨g, cap, rfl, fun k hk => (h.cellAt k (by omega)).trans (tv_at hk), h3.1, hB, ⟨h3.2.1, h3.2.2.1⟩, hr⟩

def selQ (m : Nat) (Q : List Row) (j : Nat) : List Row := (Q.take j).filter fun r => decide (r.l.length ≤ m)
theorem sel_yes {m : Nat} {Q : List Row} {j : Nat} (h : j < Q.length) (hl : Q[j].l.length ≤ m) : selQ m Q (j + 1) = selQ m Q j ++ [Q[j]] := by
  unfold selQ; rw [List.take_succ_eq_append_getElem h, List.filter_append]; simp [hl]
theorem sel_no {m : Nat} {Q : List Row} {j : Nat} (h : j < Q.length) (hl : ¬ Q[j].l.length ≤ m) : selQ m Q (j + 1) = selQ m Q j := by
  unfold selQ; rw [List.take_succ_eq_append_getElem h, List.filter_append]; simp [hl]
theorem sel_sub {m : Nat} {Q : List Row} {j : Nat} : ∀ r ∈ selQ m Q j, r ∈ Q := fun _ hr => List.mem_of_mem_take (List.mem_filter.1 hr).1
theorem sel_len {m : Nat} {Q : List Row} {j : Nat} : (selQ m Q j).length ≤ j := by
  unfold selQ; exact Nat.le_trans (List.length_filter_le _ _) (by rw [List.length_take]; omega)
theorem sel_con {m : Nat} {Q : List Row} {L : List (List Nat)} (h : Q.map Row.l = L.map up) : (selQ m Q Q.length).map Row.l = (L.filter fun T => decide (T.length ≤ m)).map up := by
  unfold selQ
  rw [List.take_length]
  have e1 : (Q.filter fun r => decide (r.l.length ≤ m)).map Row.l = (Q.map Row.l).filter fun l => decide (l.length ≤ m) := by rw [List.filter_map]; rfl
  rw [e1, h, List.filter_map]
  congr 1
  apply List.filter_congr
  intro T _
  simp [up_length]

set_option maxRecDepth 32000 in
set_option maxHeartbeats 2000000 in
theorem l5Sets_any (F : Fld) (m : Nat) (w : World) (hF : F.At w) (hg : F.good = true) (h1 : 1 ≤ m) (hm : m ≤ F.o.l.length) :
    Calls Try.prog 61 #[F.val, .int .i64 m] w fun e w' => ∃ g cap Q, e = .returned (.slice (some ⟨g, 0, none⟩) (preS F.o.l.length m).length cap) ∧ ReadTab w.heap.size w' g cap Q ∧ Q.map Row.l = (preS F.o.l.length m).map up ∧ Below w.heap.size w w' := by
  obtain ⟨i0, hi, hz0, hz1, hz2⟩ := info_parts infoInts
  obtain ⟨wA, hA, hbA, bx, hFA, hszA⟩ := laid_fld F w 29 hF
  have hsz := good_sizes hg
  obtain ⟨n, hn⟩ : ∃ n, n = F.o.l.length := ⟨_, rfl⟩
  have HN := Lib.hid hn
  have hn7 : n ≤ 7 := by omega
  have hni : (n : Int) ≤ 7 := by omega
  have hmi : (m : Int) ≤ 7 := by omega
  rw [← hn] at hm ⊢
  have HSL := Lib.hid (sets_upTo hn7 h1 hm)
  have HPL := Lib.hid (preS_len hn7 h1 hm)
  have hb0 : Below wA.heap.size wA (wA.alloc (.cells #[] 22)) := below_alloc _ _
  obtain ⟨w0, hw0⟩ : ∃ u, u = wA.alloc (.cells #[] 22) := ⟨_, rfl⟩
  have hown0 : w0.ownsRow wA.heap.size 22 1 (.slice (some ⟨wA.heap.size, 0, none⟩) 0 0) 0 (tv []) := by rw [hw0]; exact World.ownsRow_made wA #[] 0 (Nat.le_refl _) (by decide) rfl
  have hsz0 : w0.heap.size = wA.heap.size + 1 := by rw [hw0]; exact size_alloc _ _
  rw [← hw0] at hb0
  have HW0 : Hid (w0 = (w.alloc (Obj.cells #[F.o.val, F.t.val] 29)).alloc (.cells #[] 22)) := Lib.hid (by rw [hw0, hA])
  have HOW0 := Lib.hid hown0
  have CS := Lib.hid (l2Sets_any n w0 hn7)
  have x0 : w0.cell? ⟨w.heap.size, 0, none⟩ = some (.slice F.o.a n F.o.c) := by rw [hn]; exact (bx.on hb0).c0
  rw [HW0.out] at x0
  have HSA := Lib.hid hszA
  have HS0 := Lib.hid hsz0
  have HBA := Lib.hid hbA
  have HB0 := Lib.hid hb0
  clear hF hA hFA bx hn hsz hw0 hown0 hszA hsz0 hbA hb0
  show Calls _ _ #[.agg #[F.o.val, F.t.val], _] w _
  go_enter Try.func61, Try.ntmps61
  go_wp2_with fail
  rw [← HW0.out]
  refine CS.out.mono ?_
  rintro e W1 ⟨v, g, cap, Q, rfl, htab, hb1⟩
  obtain ⟨hgl, hcc, hcm, hwg⟩ := htab.lt
  obtain ⟨c, hc⟩ : ∃ c, c = 2 ^ n - 1 := ⟨_, rfl⟩
  rw [← hc] at htab hcc
  have hc7 : c ≤ 127 := by
    have : 2 ^ n ≤ 2 ^ 7 := Nat.pow_le_pow_right (by omega) hn7
    have h7 : (2 : Nat) ^ 7 = 128 := rfl
    omega
  obtain rfl := htab.val
  have hQc := htab.len
  have HT := Lib.hid htab
  have HCON : Hid ((selQ m Q c).map Row.l = (preS n m).map up) := Lib.hid (by
    have h2 := htab.con
    have e := sets_all n hn7
    rw [← hc] at e
    rw [e] at h2
    have h3 := sel_con (m := m) h2
    rw [hQc] at h3
    rw [h3, HSL.out])
  have HROW : Hid (∀ r ∈ Q, r.In w0.heap.size W1.heap.size W1) := Lib.hid fun r hr => htab.grows.ins r hr
  have hci : (c : Int) ≤ 127 := by omega
  have hW1 := hb1.size
  have HB1 := Lib.hid hb1
  have HO1 : Hid (W1.ownsRow wA.heap.size 22 1 (.slice (some ⟨w.heap.size + 1, 0, none⟩) 0 0) 0 (tv [])) := Lib.hid (by have := owns_below HOW0.out hb1; rw [HSA.out] at this ⊢; exact this)
  have hAW : wA.heap.size + 1 ≤ W1.heap.size := by have := HS0.out; omega
  have HQC := Lib.hid hQc
  clear htab hb1 hc x0 hQc
  go_wp2
  go_loopw [5, 7] (fun out i wr => ∃ j : Nat, j ≤ c ∧ i = .int .i64 j ∧ wr.ownsRow wA.heap.size 22 1 out (selQ m Q j).length (tv (selQ m Q j)) ∧ (∀ x, out.ownBlock = some x → x = wA.heap.size ∨ W1.heap.size ≤ x) ∧ Touch wA.heap.size (wA.heap.size + 1) W1 wr) (fun _ i _ => c - (intOf i).toNat)
  case atStart => exact ⟨0, Nat.zero_le _, rfl, HO1.out, fun x hx => by simp only [Value.ownBlock, Option.some.injEq] at hx; left; rw [← hx, HSA.out], Touch.refl _ _ _⟩
  case round =>
    obtain ⟨j, hj, rfl, hown, hblk, htc⟩ := hrel
    have HOWN := Lib.hid hown
    have HBLK := Lib.hid hblk
    have HTC := Lib.hid htc
    have hszr := htc.size
    clear hown hblk htc
    by_cases hlt : j < c
    · have hlti : (j : Int) < (c : Int) := by omega
      have hjQ : j < Q.length := by rw [HQC.out]; exact hlt
      obtain ⟨r, hr⟩ : ∃ r, r = Q[j] := ⟨_, rfl⟩
      have hcl : wr.cell? ⟨g, j, none⟩ = some (.slice r.a r.l.length r.c) := (HTC.out.cell (p := ⟨g, j, none⟩) hgl (by simp only; have := HS0.out; omega)).trans (by rw [hr]; exact HT.out.cell hjQ)
      have HR := Lib.hid hr
      have hsl := sel_len (m := m) (Q := Q) (j := j)
      by_cases hlm : r.l.length ≤ m
      · have hli : (r.l.length : Int) ≤ (m : Int) := by omega
        have HE : Hid (selQ m Q (j + 1) = selQ m Q j ++ [r]) := Lib.hid (by rw [sel_yes hjQ (by rw [← HR.out]; exact hlm), ← HR.out])
        have hown := HOWN.out
        clear hr hlm
        go_wp2_with (at_builtin; refine wpList_append_own_at _ rfl _ _ 23 rfl wA.heap.size 22 i0 (.slice none 0 0) 1 24 Try.underlying23 hi hz0 hz1 hz2 rfl (by decide) _ _ _ rfl (hown.alloc _) ⟨wr.heap.size, 0, none⟩ 1 1 [.slice r.a r.l.length r.c] rfl rfl (one_cell _ _ _) (by simp [Value.oneCell']) (by unfold maxLen; omega) (by omega) (by simp; omega) ?_; intro v' w1 hown' hgrow _ hat)
        have R1 : w1.ownsRow wA.heap.size 22 1 v' (selQ m Q (j + 1)).length (tv (selQ m Q (j + 1))) := by rw [HE.out]; simpa [tv, Row.val] using hown'
        have R2 : ∀ x, v'.ownBlock = some x → x = wA.heap.size ∨ W1.heap.size ≤ x := fun x hx => by
          rcases hat with h | h
          · rw [h] at hx; exact HBLK.out x hx
          · rw [h] at hx; simp only [Option.some.injEq] at hx; right; rw [size_alloc] at hx; omega
        have R3 : Touch wA.heap.size (wA.heap.size + 1) W1 w1 := by
          have T1 := HTC.out.trans ((Touch.of_below (below_alloc wr (.cells #[.slice r.a r.l.length r.c] 22))))
          refine ⟨hgrow.os.trans T1.os, hgrow.tape.trans T1.tape, hgrow.output.trans T1.output, Nat.le_trans T1.size hgrow.size, fun k hk hn => (hgrow.block k (Nat.lt_of_lt_of_le hk T1.size) (fun e => ?_)).trans (T1.block k hk hn)⟩
          rcases HBLK.out k e.symm with h | h
          · omega
          · omega
        clear hown' hgrow hown hat
        go_wp2
        go_roundw
        case rel => exact ⟨j + 1, by omega, by go_num, R1, R2, R3⟩
        case measure => simp [intOf]; omega
      · have hli : ¬ (r.l.length : Int) ≤ (m : Int) := by omega
        have HE : Hid (selQ m Q (j + 1) = selQ m Q j) := Lib.hid (sel_no hjQ (by rw [← HR.out]; exact hlm))
        clear hr hlm
        go_wp2
        go_roundw
        case rel => exact ⟨j + 1, by omega, by go_num, by rw [HE.out]; exact HOWN.out, HBLK.out, HTC.out⟩
        case measure => simp [intOf]; omega
    · obtain rfl : j = c := by omega
      obtain ⟨Q2, hQ2⟩ : ∃ Q2, Q2 = selQ m Q j := ⟨_, rfl⟩
      have hlen : Q2.length = (preS n m).length := by
        have := congrArg List.length HCON.out
        rw [← hQ2, List.length_map, List.length_map] at this; exact this
      have hown := HOWN.out
      rw [← hQ2] at hown
      obtain ⟨g2, cap2, rfl, hrt⟩ := readTab_of hown (by rw [hlen]; exact HPL.out.1) (fun r hr => ((HROW.out r (sel_sub r (by rw [← hQ2]; exact hr))).touch HTC.out (.inr (Nat.le_of_eq HS0.out.symm))).wide (Nat.le_trans (Nat.le_succ _) (Nat.le_of_eq HS0.out.symm)) hszr)
      have HRT := Lib.hid hrt
      have HLEN := Lib.hid hlen
      have HQ2 := Lib.hid hQ2
      have HBB : Hid (Below w.heap.size w wr) := Lib.hid (HBA.out.trans ((HB0.out.trans ((HB1.out.mono HB0.out.size).trans (HTC.out.below (Nat.le_refl _) (by omega)))).mono HBA.out.size))
      have hwA := HBA.out.size
      clear hown hrt hlen hQ2
      go_wp2
      go_ret
      exact ⟨g2, cap2, Q2, by rw [HLEN.out]; rfl, ⟨HRT.out.cell, HRT.out.lt, Nat.le_trans hwA HRT.out.ge, HRT.out.cap, fun r hr => (HRT.out.rows r hr).wide hwA (Nat.le_refl _)⟩, by rw [HQ2.out]; exact HCON.out, HBB.out⟩
end Go.Proofs.Ythabpdfbpdokjaa
