/- Groups of places, number by number and group by group: plain. No condition. -/
import Derived.Test.YtmbgipllkbahpaaPlainProv
import Derived.Test.YtmbgipllkbahpaaDelete
namespace Go.Proofs.Ytmbgipllkbahpaa

theorem take_split {g : List Int} {k : Nat} (h : k < g.length) : g = g.take k ++ g[k] :: g.drop (k + 1) := by rw [← List.drop_eq_getElem_cons h, List.take_append_drop]
theorem flat_at {gs : List (List Int)} {i k : Nat} (hi : i < gs.length) (hk : k < gs[i].length) : flatG gs = (flatG (gs.take i) ++ gs[i].take k) ++ gs[i][k] :: (gs[i].drop (k + 1) ++ flatG (gs.drop (i + 1))) := by
  have e := congrArg (fun l => flatG (gs.take i) ++ (l ++ flatG (gs.drop (i + 1)))) (take_split hk)
  rw [flatG_split hi, e]
  simp only [List.append_assoc, List.cons_append]
/-- What the model has seen, in the midst of a group. -/
structure Mid (d : List (List Int)) (gs : List (List Int)) (D : Int) (i : Nat) (g : List Int) (k : Nat) : Prop where
  to : ProvTo d gs D i
  nodup : (flatG (gs.take i) ++ g.take k).Nodup
  mem : ∀ x ∈ flatG (gs.take i) ++ g.take k, 0 ≤ x ∧ x < (d.length : Int)
  near : nearP d D g k = true
theorem mid_zero {d gs : List (List Int)} {D : Int} {i : Nat} (g : List Int) (h : ProvTo d gs D i) : Mid d gs D i g 0 := ⟨h, by simpa using h.nodup, by simpa using h.mem, by simp [nearP]⟩
theorem mid_range {d gs : List (List Int)} {D : Int} {i k : Nat} (hi : i < gs.length) (hk : k < gs[i].length) (h : ¬ (0 ≤ gs[i][k] ∧ gs[i][k] < (d.length : Int))) : provB d gs D = false := provB_no fun hp => h (hp.mem _ (by rw [flat_at hi hk]; simp))
theorem mid_seen {d gs : List (List Int)} {D : Int} {i k : Nat} (hi : i < gs.length) (hk : k < gs[i].length) (h : gs[i][k] ∈ flatG (gs.take i) ++ gs[i].take k) : provB d gs D = false := provB_no fun hp => by
  have hn := hp.nodup
  rw [flat_at hi hk] at hn
  exact (List.nodup_append.1 hn).2.2 _ h _ List.mem_cons_self rfl
theorem each_no {d gs : List (List Int)} {D : Int} {i : Nat} (hi : i < gs.length) (h : groupB d D gs[i] = false) : provB d gs D = false := provB_no fun hp => by
  have := hp.each _ (List.getElem_mem hi); rw [h] at this; cases this
theorem mid_near {d gs : List (List Int)} {D : Int} {i k : Nat} (hi : i < gs.length) (hk : k < gs[i].length) (h : nearL d D (gs[i].getD k 0) (gs[i].take k) = false) : provB d gs D = false :=
  each_no hi (by unfold groupB; rw [nearP_out hk h]; rfl)
theorem mid_next {d gs : List (List Int)} {D : Int} {i k : Nat} {g : List Int} (h : Mid d gs D i g k) (hk : k < g.length) (h1 : 0 ≤ g[k] ∧ g[k] < (d.length : Int)) (h2 : g[k] ∉ flatG (gs.take i) ++ g.take k) (h3 : nearL d D (g.getD k 0) (g.take k) = true) : Mid d gs D i g (k + 1) := by
  have e : flatG (gs.take i) ++ g.take (k + 1) = (flatG (gs.take i) ++ g.take k) ++ [g[k]] := by rw [List.take_succ_eq_append_getElem hk, List.append_assoc]
  refine ⟨h.to, ?_, fun x hx => ?_, by rw [nearP_step, h.near, h3]; rfl⟩
  · rw [e]
    exact List.nodup_append.2 ⟨h.nodup, by simp, fun x hx y hy e => by rw [List.mem_singleton] at hy; subst hy; subst e; exact h2 hx⟩
  · rw [e] at hx
    rcases List.mem_append.1 hx with hx | hx
    · exact h.mem x hx
    · rw [List.mem_singleton] at hx; subst hx; exact h1
theorem mid_end {d gs : List (List Int)} {D : Int} {i : Nat} (hi : i < gs.length) (h : Mid d gs D i gs[i] gs[i].length) (h0 : 0 < gs[i].length) : ProvTo d gs D (i + 1) := by
  have e : flatG (gs.take (i + 1)) = flatG (gs.take i) ++ gs[i].take gs[i].length := by rw [flatG_step hi, List.take_length]
  refine ⟨fun g hg => ?_, by rw [e]; exact h.nodup, by rw [e]; exact h.mem⟩
  rw [List.take_succ_eq_append_getElem hi] at hg
  rcases List.mem_append.1 hg with hg | hg
  · exact h.to.each g hg
  · rw [List.mem_singleton] at hg; subst hg
    unfold groupB; rw [h.near, decide_eq_true h0]; rfl

/-- The places that are left behind some groups. -/
def leftL (n : Nat) (f : List Int) : List Int := keepL (hasI f) (up (List.range n))
theorem mem_range_up {n : Nat} {x : Int} : x ∈ up (List.range n) ↔ 0 ≤ x ∧ x < (n : Int) := by
  unfold up
  rw [List.mem_map]
  constructor
  · rintro ⟨m, hm, rfl⟩; have := List.mem_range.1 hm; omega
  · rintro ⟨h0, h1⟩; exact ⟨x.toNat, List.mem_range.2 (by omega), by show ((x.toNat : Nat) : Int) = x; omega⟩
theorem range_up_nodup (n : Nat) : (up (List.range n)).Nodup := by
  unfold up
  exact List.Pairwise.map _ (fun a b (h : a ≠ b) => by show (a : Int) ≠ (b : Int); omega) List.nodup_range
theorem left_nodup (n : Nat) (f : List Int) : (leftL n f).Nodup := (range_up_nodup n).sublist List.filter_sublist
theorem left_mem {n : Nat} {f : List Int} {x : Int} : x ∈ leftL n f ↔ (0 ≤ x ∧ x < (n : Int)) ∧ x ∉ f := by
  unfold leftL keepL
  rw [List.mem_filter, mem_range_up]
  unfold hasI; simp
theorem left_step (n : Nat) (f g : List Int) : keepL (hasI g) (leftL n f) = leftL n (f ++ g) := by
  unfold leftL keepL
  rw [List.filter_filter]
  congr 1
  funext x
  unfold hasI
  rw [Bool.eq_iff_iff]
  simp [And.comm]
theorem left_zero (n : Nat) : leftL n [] = up (List.range n) := by
  unfold leftL keepL hasI; simp
theorem left_len (n : Nat) (f : List Int) : (leftL n f).length ≤ n := by
  have := List.length_filter_le (fun x => !hasI f x) (up (List.range n))
  rw [up_length, List.length_range] at this
  exact this
theorem take_bad {d gs : List (List Int)} {D : Int} {i : Nat} (hi : i < gs.length) (h : ¬ ((leftL d.length (flatG (gs.take i))).length - (leftL d.length (flatG (gs.take (i + 1)))).length = gs[i].length)) : provB d gs D = false := provB_no fun hp => h (by
  rw [flatG_step hi, ← left_step]
  refine (count_iff (left_nodup _ _)).2 ?_
  have hn := hp.nodup
  have hm := hp.mem
  rw [flatG_split hi] at hn hm
  have h2 := List.nodup_append.1 hn
  refine ⟨(List.nodup_append.1 h2.2.1).1, fun x hx => left_mem.2 ⟨hm x (by simp [hx]), fun hc => h2.2.2 x hc x (by simp [hx]) rfl⟩⟩)
theorem take_good {d gs : List (List Int)} {i : Nat} (hi : i < gs.length) (h : (leftL d.length (flatG (gs.take i))).length - (leftL d.length (flatG (gs.take (i + 1)))).length = gs[i].length) : gs[i].Nodup ∧ ∀ x ∈ gs[i], (0 ≤ x ∧ x < (d.length : Int)) ∧ x ∉ flatG (gs.take i) := by
  rw [flatG_step hi, ← left_step] at h
  obtain ⟨h1, h2⟩ := (count_iff (left_nodup _ _)).1 h
  exact ⟨h1, fun x hx => left_mem.1 (h2 x hx)⟩
theorem take_next {d gs : List (List Int)} {D : Int} {i : Nat} (hi : i < gs.length) (ht : ProvTo d gs D i) (h : (leftL d.length (flatG (gs.take i))).length - (leftL d.length (flatG (gs.take (i + 1)))).length = gs[i].length) (hg : groupB d D gs[i] = true) : ProvTo d gs D (i + 1) := by
  obtain ⟨h1, h2⟩ := take_good hi h
  refine ⟨fun g hg' => ?_, ?_, fun x hx => ?_⟩
  · rw [List.take_succ_eq_append_getElem hi] at hg'
    rcases List.mem_append.1 hg' with h' | h'
    · exact ht.each g h'
    · rw [List.mem_singleton] at h'; subst h'; exact hg
  · rw [flatG_step hi]
    exact List.nodup_append.2 ⟨ht.nodup, h1, fun x hx y hy e => by subst e; exact (h2 x hy).2 hx⟩
  · rw [flatG_step hi] at hx
    rcases List.mem_append.1 hx with hx | hx
    · exact ht.mem x hx
    · exact (h2 x hx).1
theorem left_le {n : Nat} (f g : List Int) : (leftL n (f ++ g)).length ≤ (leftL n f).length := by rw [← left_step]; exact List.length_filter_le _ _
theorem left_end {d gs : List (List Int)} {D : Int} (h : ProvTo d gs D gs.length) : provB d gs D = decide ((leftL d.length (flatG gs)).length = 0) := by
  rw [prov_end h]
  have h2 := h.nodup
  have h3 := h.mem
  rw [List.take_length] at h2 h3
  have hc := (count_iff (L := up (List.range d.length)) (g := flatG gs) (range_up_nodup _)).2 ⟨h2, fun x hx => mem_range_up.2 (h3 x hx)⟩
  rw [up_length, List.length_range] at hc
  have e : ((up (List.range d.length)).filter fun x => !hasI (flatG gs) x) = leftL d.length (flatG gs) := rfl
  rw [e] at hc
  have := left_len d.length (flatG gs)
  congr 1
  rw [eq_iff_iff]
  omega
end Go.Proofs.Ytmbgipllkbahpaa
