/- The sets of at most so many sites, as the model lists them, and the first one of the least reach. Condition: a valid Field, a number of its sites. -/
import Derived.Test.YtjeodblaekdpkaaPartial
import Derived.Test.YtjeodblaekdpkaaSiteSeq
import Derived.Test.YtjeodblaekdpkaaPairReachOf
import Derived.Test.YtjeodblaekdpkaaMedSpec
import Derived.Test.YtjeodblaekdpkaaOwnAll
import Derived.Maps.AppendAt
namespace Go.Proofs.Ytjeodblaekdpkaa
open Go.RowKit Go.Shelf

set_option maxRecDepth 16000 in
set_option maxHeartbeats 1000000 in
theorem l5Ask_any (F : Fld) (k : Int) (w : World) (hF : F.At w) :
    Calls Try.prog 56 #[F.val, .int .i64 k] w fun e w' => e = .returned (.bool (kB F k)) ∧ Below w.heap.size w w' := by
  obtain ⟨wA, hA, hbA, bx, hFA, hszA⟩ := laid_fld F w 29 hF
  have HBX := Lib.hid bx
  have HA := Lib.hid hA
  obtain ⟨g, hg⟩ : ∃ g, g = F.good := ⟨_, rfl⟩
  have CG := l2Good_any F wA hFA
  rw [← hg] at CG
  have CG1 := Lib.hid CG
  have CI := Lib.hid (fun W => l1In_any k 1 (F.o.l.length : Int) W)
  have HK : Hid (kB F k = (g && (decide (1 ≤ k) && decide (k ≤ (F.o.l.length : Int))))) := Lib.hid (by rw [hg]; rfl)
  have HG := Lib.hid hg
  have x0 := bx.c0
  have x1 := bx.c1
  rw [hA] at x0 x1
  have HOI : Hid ((F.o.l.length : Int) ≤ 9223372036854775807) := Lib.hid (by obtain ⟨q1, q2, _⟩ := hF.1; rw [iv_length] at q1; unfold maxLen at q2; omega)
  clear hF hA hFA bx hg CG
  show Calls _ _ #[.agg #[F.o.val, F.t.val], _] w _
  go_enter Try.func56, Try.ntmps56
  go_wp2_with fail
  rw [show w.alloc (Obj.cells #[F.o.val, F.t.val] 29) = wA from HA.out.symm]
  refine (show Calls _ _ _ _ _ from CG1.out).mono ?_
  rintro e W1 ⟨rfl, hb1⟩
  clear x0 x1
  cases g with
  | false =>
    go_wp2
    go_ret
    exact ⟨by rw [HK.out]; rfl, hbA.trans (hb1.mono hbA.size)⟩
  | true =>
    have y0 : W1.cell? ⟨w.heap.size, 0, none⟩ = some (.slice F.o.a F.o.l.length F.o.c) := (HBX.out.on hb1).c0
    have HB1 := Lib.hid hb1
    clear hb1
    go_wp2_with fail
    refine (CI.out _).mono ?_
    rintro e W2 ⟨rfl, rfl⟩
    have hb1 := HB1.out
    go_wp2
    go_ret
    exact ⟨by rw [HK.out]; rfl, hbA.trans (hb1.mono hbA.size)⟩


theorem some_upTo : upTo7 (fun n k => (allSets n).filter (fun T => decide (T.length ≤ k)) == preS n k) = true := by decide +kernel
theorem sets_upTo {n k : Nat} (hn : n ≤ 7) (h1 : 1 ≤ k) (hk : k ≤ n) : (allSets n).filter (fun T => decide (T.length ≤ k)) = preS n k := by
  simpa using upTo7_at some_upTo hn h1 hk
theorem preS_sub {N m : Nat} (hm : m ≤ N) {T : List Nat} (hT : T ∈ preS N m) : T ∈ allSets N := by
  unfold preS at hT
  unfold allSets
  rw [List.mem_flatMap] at hT ⊢
  obtain ⟨k, hk, hT⟩ := hT
  exact ⟨k, by rw [List.mem_range] at hk ⊢; omega, hT⟩
theorem preS_some : upTo7 (fun n k => decide (0 < (preS n k).length) && decide ((preS n k).length ≤ 127)) = true := by decide +kernel
theorem preS_len {n k : Nat} (hn : n ≤ 7) (h1 : 1 ≤ k) (hk : k ≤ n) : 0 < (preS n k).length ∧ (preS n k).length ≤ 127 := by
  have := upTo7_at preS_some hn h1 hk
  simpa using this
/-- The first set of at most m sites with the least partial reach. -/
def bestP (F : Fld) (m z : Nat) : List Nat := firstB (partT F z) (preS F.o.l.length m)
theorem bestP_like {F G : Fld} (h : F.Like G) (m z : Nat) : bestP F m z = bestP G m z := by unfold bestP; rw [partT_like h, h.1]
theorem preS_ok {F : Fld} (hg : F.good = true) {m : Nat} (hm : m ≤ F.o.l.length) {T : List Nat} (hT : T ∈ preS F.o.l.length m) : T ≠ [] ∧ ((setB F.o.l.length (up T) = true ∧ ∀ x ∈ T, x < F.o.l.length) ∧ T.length ≤ 7) :=
  all_ok (good_sizes hg).2.1 (preS_sub hm hT)
theorem bestP_ok {F : Fld} (hg : F.good = true) {m : Nat} (h1 : 1 ≤ m) (hm : m ≤ F.o.l.length) (z : Nat) : bestP F m z ≠ [] ∧ ((setB F.o.l.length (up (bestP F m z)) = true ∧ ∀ x ∈ bestP F m z, x < F.o.l.length) ∧ (bestP F m z).length ≤ 7) :=
  preS_ok hg hm (firstB_some (List.length_pos_iff.1 (preS_len (good_sizes hg).2.1 h1 hm).1) (fun _ hT => (preS_ok hg hm hT).1))

theorem maxOf_ge {l : List Int} : ∀ (b : Int), b ≤ l.foldl max b ∧ ∀ x ∈ l, x ≤ l.foldl max b := by
  induction l with
  | nil => intro b; simp
  | cons a t ih =>
    intro b
    have := ih (max b a)
    simp only [List.foldl_cons, List.mem_cons]
    refine ⟨by omega, fun x hx => ?_⟩
    rcases hx with rfl | hx
    · omega
    · exact this.2 x hx
theorem maxOf_mem {l : List Int} : ∀ (b : Int), l.foldl max b = b ∨ l.foldl max b ∈ l := by
  induction l with
  | nil => intro b; simp
  | cons a t ih =>
    intro b
    simp only [List.foldl_cons, List.mem_cons]
    rcases ih (max b a) with h | h
    · rw [h]
      by_cases hb : a ≤ b
      · left; omega
      · right; left; omega
    · exact .inr (.inr h)
/-- Without any left out, it is the reach. -/
theorem part_zero {L : List Int} (h0 : ∀ x ∈ L, 0 ≤ x) : partV L 0 = maxOf L := by
  unfold partV
  by_cases hL : L = []
  · subst hL; rfl
  · have hlen : 0 < L.length := List.length_pos_iff.2 hL
    rw [if_neg (by omega)]
    have hk : L.length - 1 - 0 < (sortA L).length := by rw [sortA_len]; omega
    rw [getD_at hk]
    have hm := (sortA_perm L).mem_iff.1 (List.getElem_mem hk)
    have h1 := (maxOf_ge (l := L) 0).2 _ hm
    have h2 : maxOf L ≤ (sortA L)[L.length - 1 - 0] := by
      have hall : ∀ y ∈ L, y ≤ (sortA L)[L.length - 1 - 0] := fun y hy => by
        obtain ⟨i, hi, rfl⟩ := List.mem_iff_getElem.1 ((sortA_perm L).mem_iff.2 hy)
        by_cases e : i = L.length - 1 - 0
        · subst e; exact Int.le_refl _
        · exact List.pairwise_iff_getElem.1 (sortA_rises L) _ _ hi hk (by rw [sortA_len] at hi; omega)
      rcases maxOf_mem (l := L) 0 with h | h
      · unfold maxOf; rw [h]; exact h0 _ hm
      · exact hall _ h
    have h3 : (sortA L)[L.length - 1 - 0] ≤ maxOf L := h1
    omega
theorem far_part (F : Fld) (s : Row) (T : List Nat) (w : World) (hF : F.At w) (hs : s.At w) (hf : Fine F s T) :
    Calls Try.prog 48 #[F.val, .slice s.a s.l.length s.c] w fun e w' => e = .returned (.int .i64 (partT F 0 T)) ∧ Below w.heap.size w w' := by
  have := l2Far_any F s T w hF hs hf
  rw [show partT F 0 T = maxOf (lens F.t.con T) from part_zero (fun x hx => (lens_bound hf.good T x hx).1)]
  exact this

/-- A table that reads as rows. -/
structure ReadTab (B : Nat) (w : World) (g cap : Nat) (Q : List Row) : Prop where
  cell : ∀ k, (hk : k < Q.length) → w.cell? ⟨g, k, none⟩ = some (.slice Q[k].a Q[k].l.length Q[k].c)
  lt : g < w.heap.size
  ge : B ≤ g
  cap : Q.length ≤ cap ∧ cap ≤ maxLen
  rows : ∀ r ∈ Q, r.In B w.heap.size w
theorem ReadTab.on {B : Nat} {w w' : World} {g cap : Nat} {Q : List Row} (h : ReadTab B w g cap Q) (t : Below w.heap.size w w') : ReadTab B w' g cap Q :=
  ⟨fun k hk => (t.cell (p := ⟨g, k, none⟩) h.lt).trans (h.cell k hk), Nat.lt_of_lt_of_le h.lt t.size, h.ge, h.cap, fun r hr => ((h.rows r hr).on t).wide (Nat.le_refl _) t.size⟩

theorem readTab_of {B : Nat} {w : World} {v : Value} {Q : List Row} (h : w.ownsRow B 22 1 v Q.length (tv Q)) (h0 : 0 < Q.length) (hr : ∀ r ∈ Q, r.In B w.heap.size w) :
    ∃ g cap, v = .slice (some ⟨g, 0, none⟩) Q.length cap ∧ ReadTab B w g cap Q := by
  rcases id h.2 with ⟨_, he⟩ | ⟨g, cap, cur, rfl, hB, _⟩
  · omega
  · have h3 := owns_lt h
    exact ⟨g, cap, rfl, fun k hk => (h.cellAt k (by omega)).trans (tv_at hk), h3.1, hB, ⟨h3.2.1, h3.2.2.1⟩, hr⟩

def selQ (m : Nat) (Q : List Row) (j : Nat) : List Row := (Q.take j).filter fun r => decide (r.l.length ≤ m)
theorem sel_yes {m : Nat} {Q : List Row} {j : Nat} (h : j < Q.length) (hl : Q[j].l.length ≤ m) : selQ m Q (j + 1) = selQ m Q j ++ [Q[j]] := by
  unfold selQ; rw [List.take_succ_eq_append_getElem h, List.filter_append]; simp [hl]
theorem sel_no {m : Nat} {Q : List Row} {j : Nat} (h : j < Q.length) (hl : ¬ Q[j].l.length ≤ m) : selQ m Q (j + 1) = selQ m Q j := by
  unfold selQ; rw [List.take_succ_eq_append_getElem h, List.filter_append]; simp [hl]
theorem sel_sub {m : Nat} {Q : List Row} {j : Nat} : ∀ r ∈ selQ m Q j, r ∈ Q := fun _ hr => List.mem_of_mem_take (List.mem_filter.1 hr).1
theorem sel_len {m : Nat} {Q : List Row} {j : Nat} : (selQ m Q j).length ≤ j := by
  unfold selQ; exact Nat.le_trans (List.length_filter_le _ _) (by rw [List.length_take]; omega)
theorem sel_con {m : Nat} {Q : List Row} {L : List (List Nat)} (h : Q.map Row.l = L.map up) : (selQ m Q Q.length).map Row.l = (L.filter fun T => decide (T.length ≤ m)).map up := by
  unfold selQ
  rw [List.take_length]
  have e1 : (Q.filter fun r => decide (r.l.length ≤ m)).map Row.l = (Q.map Row.l).filter fun l => decide (l.length ≤ m) := by rw [List.filter_map]; rfl
  rw [e1, h, List.filter_map]
  congr 1
  apply List.filter_congr
  intro T _
  simp [up_length]

end Go.Proofs.Ytjeodblaekdpkaa
