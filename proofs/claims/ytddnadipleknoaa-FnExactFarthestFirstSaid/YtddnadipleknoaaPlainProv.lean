/- Plain mathematics of groups of places. No condition. -/
import Derived.Test.YtddnadipleknoaaPlainDisp
import Derived.Test.YtddnadipleknoaaSwap
namespace Go.Proofs.Ytddnadipleknoaa

theorem nodup_len {α : Type} [DecidableEq α] : ∀ (A B : List α), A.Nodup → (∀ x ∈ A, x ∈ B) → A.length ≤ B.length
  | [], _, _, _ => Nat.zero_le _
  | a :: A, B, hn, hs => by
    rw [List.nodup_cons] at hn
    have ha : a ∈ B := hs a List.mem_cons_self
    have h := nodup_len A (B.erase a) hn.2 fun x hx => (List.mem_erase_of_ne (fun e => hn.1 (by rw [← e]; exact hx))).2 (hs x (List.mem_cons_of_mem _ hx))
    rw [List.length_erase_of_mem ha] at h
    have := List.length_pos_of_mem ha
    simp only [List.length_cons]; omega
theorem nodup_full {α : Type} [DecidableEq α] {A B : List α} (hn : A.Nodup) (hs : ∀ x ∈ A, x ∈ B) (hl : B.length ≤ A.length) : B.Nodup ∧ ∀ x ∈ B, x ∈ A := by
  have hsub : ∀ x ∈ B, x ∈ A := fun y hy => by
    rcases Classical.em (y ∈ A) with h | h
    · exact h
    · have := nodup_len (y :: A) B (List.nodup_cons.2 ⟨h, hn⟩) (fun x hx => (List.mem_cons.1 hx).elim (fun e => by rw [e]; exact hy) (fun h => hs x h))
      simp only [List.length_cons] at this; omega
  refine ⟨?_, hsub⟩
  rcases Classical.em B.Nodup with h | h
  · exact h
  · exfalso
    have : ∃ y ∈ B, y ∈ B.erase y := by
      rcases Classical.em (∃ y ∈ B, y ∈ B.erase y) with h' | h'
      · exact h'
      · exact absurd (List.nodup_iff_count.2 fun a => by
          rcases Classical.em (a ∈ B) with ha | ha
          · have h1 : a ∉ B.erase a := fun hc => h' ⟨a, ha, hc⟩
            have h2 := List.count_erase_self (a := a) (l := B)
            rw [List.count_eq_zero_of_not_mem h1] at h2
            omega
          · rw [List.count_eq_zero_of_not_mem ha]; omega) h
    obtain ⟨y, hy, hy2⟩ := this
    have h1 := nodup_len A (B.erase y) hn fun x hx => by
      rcases Classical.em (x = y) with e | e
      · subst e; exact hy2
      · exact (List.mem_erase_of_ne e).2 (hs x hx)
    rw [List.length_erase_of_mem hy] at h1
    have := List.length_pos_of_mem hy
    omega
theorem split_len {α : Type} (p : α → Bool) : ∀ L : List α, L.length = (L.filter p).length + (L.filter fun x => !p x).length
  | [] => rfl
  | a :: L => by
    have := split_len p L
    simp only [List.filter_cons]
    cases p a <;> simp <;> omega
/-- As many of a list's numbers stand in another list as this is long just if it is a part of it. -/
theorem count_iff {L g : List Int} (hL : L.Nodup) : (L.length - (L.filter fun x => !hasI g x).length = g.length) ↔ (g.Nodup ∧ ∀ x ∈ g, x ∈ L) := by
  have hs := split_len (fun x => hasI g x) L
  have hn : (L.filter fun x => hasI g x).Nodup := hL.sublist List.filter_sublist
  have hm : ∀ x ∈ L.filter (fun x => hasI g x), x ∈ g := fun x hx => by have := (List.mem_filter.1 hx).2; unfold hasI at this; simpa using this
  constructor
  · intro h
    obtain ⟨h1, h2⟩ := nodup_full hn hm (by omega)
    exact ⟨h1, fun x hx => (List.mem_filter.1 (h2 x hx)).1⟩
  · rintro ⟨h1, h2⟩
    have a := nodup_len g (L.filter fun x => hasI g x) h1 fun x hx => List.mem_filter.2 ⟨h2 x hx, by unfold hasI; simpa using hx⟩
    have b := nodup_len _ g hn hm
    omega

/-- Whether a place is near to some others. -/
def nearL (d : List (List Int)) (D x : Int) (L : List Int) : Bool := L.all fun y => decide (cel d x.toNat y.toNat < D)
/-- Whether any two places of a group are near. -/
def nearP (d : List (List Int)) (D : Int) (g : List Int) (k : Nat) : Bool := (List.range k).all fun i => nearL d D (g.getD i 0) (g.take i)
theorem nearP_step (d : List (List Int)) (D : Int) (g : List Int) (k : Nat) : nearP d D g (k + 1) = (nearP d D g k && nearL d D (g.getD k 0) (g.take k)) := by unfold nearP; rw [List.range_succ, List.all_append]; simp
theorem nearP_out {d : List (List Int)} {D : Int} {g : List Int} {k : Nat} (hk : k < g.length) (h : nearL d D (g.getD k 0) (g.take k) = false) : nearP d D g g.length = false := by
  unfold nearP
  rw [List.all_eq_false]
  exact ⟨k, List.mem_range.2 hk, by rw [h]; simp⟩
/-- A group. -/
def groupB (d : List (List Int)) (D : Int) (g : List Int) : Bool := nearP d D g g.length && decide (0 < g.length)
def flatG (gs : List (List Int)) : List Int := gs.flatten
theorem flatG_step {gs : List (List Int)} {k : Nat} (h : k < gs.length) : flatG (gs.take (k + 1)) = flatG (gs.take k) ++ gs[k] := by unfold flatG; rw [List.take_succ_eq_append_getElem h, List.flatten_append]; simp
theorem flatG_split {gs : List (List Int)} {k : Nat} (h : k < gs.length) : flatG gs = flatG (gs.take k) ++ (gs[k] ++ flatG (gs.drop (k + 1))) := by
  unfold flatG
  have e := congrArg List.flatten (List.take_append_drop k gs)
  rw [List.drop_eq_getElem_cons h, List.flatten_append, List.flatten_cons] at e
  exact e.symm
/-- Groups that prove a number. -/
structure Prov (d : List (List Int)) (gs : List (List Int)) (D : Int) : Prop where
  each : ∀ g ∈ gs, groupB d D g = true
  nodup : (flatG gs).Nodup
  mem : ∀ x ∈ flatG gs, 0 ≤ x ∧ x < (d.length : Int)
  all : (flatG gs).length = d.length
/-- What has been looked at so far is in order. -/
structure ProvTo (d : List (List Int)) (gs : List (List Int)) (D : Int) (k : Nat) : Prop where
  each : ∀ g ∈ gs.take k, groupB d D g = true
  nodup : (flatG (gs.take k)).Nodup
  mem : ∀ x ∈ flatG (gs.take k), 0 ≤ x ∧ x < (d.length : Int)
theorem provTo_zero (d : List (List Int)) (gs : List (List Int)) (D : Int) : ProvTo d gs D 0 := ⟨by simp, by simp [flatG], by simp [flatG]⟩
def provB (d : List (List Int)) (gs : List (List Int)) (D : Int) : Bool := gs.all (groupB d D) && decide (flatG gs).Nodup && (flatG gs).all (fun x => decide (0 ≤ x) && decide (x < (d.length : Int))) && decide ((flatG gs).length = d.length)
theorem provB_iff {d : List (List Int)} {gs : List (List Int)} {D : Int} : provB d gs D = true ↔ Prov d gs D := by
  unfold provB
  simp only [Bool.and_eq_true, decide_eq_true_eq, List.all_eq_true]
  exact ⟨fun ⟨⟨⟨h1, h2⟩, h3⟩, h4⟩ => ⟨h1, h2, h3, h4⟩, fun h => ⟨⟨⟨h.each, h.nodup⟩, h.mem⟩, h.all⟩⟩
theorem provB_no {d : List (List Int)} {gs : List (List Int)} {D : Int} (h : ¬ Prov d gs D) : provB d gs D = false := by rw [Bool.eq_false_iff]; intro e; exact h (provB_iff.1 e)
theorem prov_end {d : List (List Int)} {gs : List (List Int)} {D : Int} (h : ProvTo d gs D gs.length) : provB d gs D = decide ((flatG gs).length = d.length) := by
  have h1 := h.each
  have h2 := h.nodup
  have h3 := h.mem
  rw [List.take_length] at h1 h2 h3
  by_cases e : (flatG gs).length = d.length
  · rw [decide_eq_true e]; exact provB_iff.2 ⟨h1, h2, h3, e⟩
  · rw [decide_eq_false e]; exact provB_no fun hp => e hp.all
theorem few_places {n : Nat} {L : List Int} (hn : L.Nodup) (hm : ∀ x ∈ L, 0 ≤ x ∧ x < (n : Int)) : L.length ≤ n := by
  have := nodup_len L (up (List.range n)) hn fun x hx => by
    have h := hm x hx
    unfold up
    exact List.mem_map.2 ⟨x.toNat, List.mem_range.2 (by omega), by show ((x.toNat : Nat) : Int) = x; omega⟩
  rw [up_length, List.length_range] at this
  exact this
end Go.Proofs.Ytddnadipleknoaa
