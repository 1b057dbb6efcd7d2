/- Plain facts of the sets after a swap and of their services. No condition. -/
import Derived.Test.YtfmodibahpgkmaaPairSwapSites
import Derived.Test.YtfmodibahpgkmaaPairServiceOf
namespace Go.Proofs.Ytfmodibahpgkmaa
open Go.RowKit

def toN (l : List Int) : List Nat := l.map Int.toNat
theorem up_toN {l : List Int} (h : ∀ x ∈ l, 0 ≤ x) : up (toN l) = l := by
  unfold up toN
  rw [List.map_map]
  refine (List.map_congr_left fun x hx => ?_).trans (List.map_id l)
  have := h x hx
  simp only [id, Function.comp]; omega
theorem toN_length (l : List Int) : (toN l).length = l.length := List.length_map _
/-- The service of a list of sites. -/
def serv (F : Fld) (l : List Int) : Int := (lens F.t.con (toN l)).sum
theorem fine_list {F : Fld} {s : Row} (hg : F.good = true) (h0 : 0 < s.l.length) (hb : ∀ x ∈ s.l, 0 ≤ x ∧ x < F.o.l.length) : Fine F s (toN s.l) := by
  refine ⟨hg, (up_toN fun x hx => (hb x hx).1).symm, by rw [toN_length]; exact h0, fun m hm => ?_⟩
  obtain ⟨x, hx, rfl⟩ := List.mem_map.1 hm
  have := hb x hx
  omega
theorem serv_bounds {F : Fld} (h : F.good = true) (l : List Int) : 0 ≤ serv F l ∧ serv F l ≤ 693 := by
  have h1 := sum_bound (lens_bound h (toN l))
  rw [lens_length] at h1
  have := good_sizes h
  unfold serv; omega
theorem set_bounds {n : Nat} {l : List Int} (h : setB n l = true) : ∀ x ∈ l, 0 ≤ x ∧ x < n := fun x hx => by
  have := rise_bounds n l (-1) h x hx; omega
theorem fine_two {F : Fld} {s : Row} (h : twoB F s = true) : Fine F s (toN s.l) := by
  obtain ⟨h1, h2, h3⟩ := twoB_iff.1 h
  exact fine_list h1 h3 (set_bounds h2)
theorem pairs_rise (n : Int) : ∀ (l : List Int) (lo : Int), l.Pairwise (· < ·) → (∀ x ∈ l, lo < x ∧ x < n) → rise n lo l = true
  | [], _, _, _ => rfl
  | x :: r, lo, h, hb => by
    obtain ⟨h1, h2⟩ := List.pairwise_cons.1 h
    have hx := hb x List.mem_cons_self
    simp only [rise, Bool.and_eq_true, decide_eq_true_eq]
    exact ⟨hx, pairs_rise n r x h2 fun y hy => ⟨h1 y hy, (hb y (List.mem_cons_of_mem _ hy)).2⟩⟩

/-- The set after a swap. -/
def swapd (l : List Int) (o n : Int) : List Int := putAt (without l o) n
def gain (F : Fld) (l : List Int) (o n : Int) : Int := serv F l - serv F (swapd l o n)
structure SwapAt (F : Fld) (s : Row) (o n : Int) : Prop where
  two : twoB F s = true
  lo : 0 ≤ n
  hi : n < F.o.l.length
  no : hasI s.l n = false
  has : hasI s.l o = true
theorem SwapAt.of {F : Fld} {s : Row} {o n : Int} {k : Nat} (h : SwapOk F s o n k) : SwapAt F s o n :=
  ⟨h.two, h.lo, h.hi, h.no, has_yes (n := o) h.lt (idx_at s.l o 0 k h.lt (by have := h.idx; unfold Lib.idxOf at this; rw [this]; simp))⟩
theorem SwapAt.ok {F : Fld} {s : Row} {o n : Int} (h : SwapAt F s o n) : ∃ k, SwapOk F s o n k := by
  obtain ⟨k, h1, h2⟩ := has_idx h.has
  exact ⟨k, h.two, h.lo, h.hi, h.no, h1, h2⟩
theorem SwapAt.swaps {F : Fld} {s : Row} {o n : Int} (h : SwapAt F s o n) : Swaps F s o n (swapd s.l o n) true := by
  obtain ⟨k, hk⟩ := h.ok
  exact .inl ⟨k, hk, by unfold swapd; exact swap_same hk, rfl⟩
theorem swaps_no {F : Fld} {s : Row} {o n : Int} (h : ¬ SwapAt F s o n) : Swaps F s o n [] false := .inr ⟨fun _ hk => h (SwapAt.of hk), rfl, rfl⟩
theorem putAt_mem {l : List Int} {n x : Int} : x ∈ putAt l n ↔ x = n ∨ x ∈ l := by rw [(putAt_perm l n).mem_iff, List.mem_cons]
theorem without_mem {l : List Int} {o x : Int} (h : x ∈ without l o) : x ∈ l := (List.mem_filter.1 h).1
theorem swapd_bounds {F : Fld} {s : Row} {o n : Int} (h : SwapAt F s o n) : ∀ x ∈ swapd s.l o n, 0 ≤ x ∧ x < F.o.l.length := fun x hx => by
  rcases putAt_mem.1 hx with hx | hx
  · subst hx; exact ⟨h.lo, h.hi⟩
  · exact set_bounds (twoB_iff.1 h.two).2.1 x (without_mem hx)
theorem swapd_set {F : Fld} {s : Row} {o n : Int} (h : SwapAt F s o n) : setB F.o.l.length (swapd s.l o n) = true := by
  have hr := rise_pairs _ _ _ (twoB_iff.1 h.two).2.1
  refine pairs_rise _ _ _ (putAt_rises _ n (without_rises hr) fun e => ?_) fun x hx => ?_
  · have h1 := without_has (o := o) h.no; unfold hasI at h1; rw [List.contains_iff_mem.2 e] at h1; cases h1
  · have := swapd_bounds h x hx; omega
theorem swapd_len {F : Fld} {s : Row} {o n : Int} (h : SwapAt F s o n) : (swapd s.l o n).length = s.l.length := by
  obtain ⟨k, hk⟩ := h.ok
  unfold swapd; rw [swap_same hk, swapL_len]
theorem swapd_two {F : Fld} {s t : Row} {o n : Int} (h : SwapAt F s o n) (ht : t.l = swapd s.l o n) : twoB F t = true := by
  have h1 := twoB_iff.1 h.two
  exact twoB_iff.2 ⟨h1.1, by rw [ht]; exact swapd_set h, by rw [ht, swapd_len h]; exact h1.2.2⟩
theorem gain_bounds {F : Fld} (h : F.good = true) (l : List Int) (o n : Int) : -693 ≤ gain F l o n ∧ gain F l o n ≤ 693 := by
  have h1 := serv_bounds h l
  have h2 := serv_bounds h (swapd l o n)
  unfold gain; omega
/-- What SwapGain answers. -/
def Gains (F : Fld) (s : Row) (o n v : Int) (b : Bool) : Prop := (SwapAt F s o n ∧ v = gain F s.l o n ∧ b = true) ∨ (¬ SwapAt F s o n ∧ v = 0 ∧ b = false)
theorem swapAt_like {F G : Fld} {s t : Row} {o n : Int} (hl : G.Like F) (hs : t.l = s.l) : SwapAt G t o n ↔ SwapAt F s o n := by
  constructor
  · rintro ⟨h1, h2, h3, h4, h5⟩; exact ⟨by rw [← twoB_like hl hs]; exact h1, h2, by rw [← hl.1]; exact h3, by rw [← hs]; exact h4, by rw [← hs]; exact h5⟩
  · rintro ⟨h1, h2, h3, h4, h5⟩; exact ⟨by rw [twoB_like hl hs]; exact h1, h2, by rw [hl.1]; exact h3, by rw [hs]; exact h4, by rw [hs]; exact h5⟩
theorem gain_like {F G : Fld} {l : List Int} {o n : Int} (hl : G.Like F) : gain G l o n = gain F l o n := by unfold gain serv; rw [hl.2]
theorem gains_like {F G : Fld} {s t : Row} {o n v : Int} {b : Bool} (h : Gains F s o n v b) (hl : G.Like F) (hs : t.l = s.l) : Gains G t o n v b := by
  rcases h with ⟨h1, h2, h3⟩ | ⟨h1, h2, h3⟩
  · exact .inl ⟨(swapAt_like hl hs).2 h1, by rw [gain_like hl, hs]; exact h2, h3⟩
  · exact .inr ⟨fun h => h1 ((swapAt_like hl hs).1 h), h2, h3⟩
theorem gains_some (F : Fld) (s : Row) (o n : Int) : ∃ (v : Int) (b : Bool), Gains F s o n v b := by
  by_cases h : SwapAt F s o n
  · exact ⟨_, _, .inl ⟨h, rfl, rfl⟩⟩
  · exact ⟨_, _, .inr ⟨h, rfl, rfl⟩⟩
end Go.Proofs.Ytfmodibahpgkmaa
