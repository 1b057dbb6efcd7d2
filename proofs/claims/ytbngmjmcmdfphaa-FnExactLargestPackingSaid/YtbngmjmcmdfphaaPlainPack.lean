/- Plain mathematics of packings. No condition. -/
import Derived.Test.YtbngmjmcmdfphaaPlainCover
import Derived.Test.YtbngmjmcmdfphaaNewEls
namespace Go.Proofs.Ytbngmjmcmdfphaa

theorem fold_nodup : ∀ (L b : List Int), L.Nodup → (∀ x ∈ L, x ∉ b) → (L.foldl putS b).length = L.length + b.length
  | [], b, _, _ => by simp
  | a :: t, b, h, hb => by
    obtain ⟨h1, h2⟩ := List.nodup_cons.1 h
    have e : putS b a = putAt b a := by unfold putS; rw [if_neg (fun e => hb a List.mem_cons_self (has_mem.1 e))]
    rw [List.foldl_cons, fold_nodup t (putS b a) h2 (fun x hx hm => ?_), e, putAt_len, List.length_cons]
    · omega
    · rcases (putS_mem b a x).1 hm with r | r
      · subst r; exact h1 hx
      · exact hb x (List.mem_cons_of_mem _ hx) r
theorem fold_short : ∀ (L b : List Int) (x : Int), x ∈ L → x ∈ b → (L.foldl putS b).length < L.length + b.length
  | [], _, x, h, _ => by simp at h
  | a :: t, b, x, h, hb => by
    rw [List.foldl_cons, List.length_cons]
    by_cases ha : a ∈ b
    · have e : putS b a = b := by unfold putS; rw [if_pos (has_mem.2 ha)]
      rw [e]
      have := putAll_len t b
      omega
    · have hx : x ∈ t := by
        rcases List.mem_cons.1 h with r | r
        · subst r; exact absurd hb ha
        · exact r
      have h1 := fold_short t (putS b a) x hx ((putS_mem b a x).2 (.inr hb))
      have h2 := (putS_len b a).1
      omega
theorem newE_full {cov l : List Int} : (newE cov l).length = l.length ↔ ∀ x ∈ l, x ∉ cov := by
  unfold newE
  rw [List.length_filter_eq_length_iff]
  constructor
  · intro h x hx hc
    have := h x hx
    simp [hc] at this
  · intro h x hx
    have := h x hx
    simp [this]
theorem flatS_cut (d : List (List Int)) (T : List Nat) (k : Nat) : flatS d T = flatS d (T.take k) ++ flatS d (T.drop k) := by
  unfold flatS; rw [← List.flatten_append, ← List.map_append, List.take_append_drop]

/-- Whether these sets are a packing. -/
def packB (d : List (List Int)) (T : List Nat) : Bool := T.all (fun m => !(d.getD m []).isEmpty) && ((putAll (flatS d T)).length == (flatS d T).length)
theorem pack_nil (d : List (List Int)) : packB d [] = true := rfl
theorem pack_step {d : List (List Int)} {T : List Nat} {k : Nat} (hk : k < T.length) (h : packB d (T.take k) = true) (hne : d.getD T[k] [] ≠ []) (hnd : (d.getD T[k] []).Nodup) (hnew : (newE (putAll (flatS d (T.take k))) (d.getD T[k] [])).length = (d.getD T[k] []).length) : packB d (T.take (k + 1)) = true := by
  unfold packB at h ⊢
  rw [Bool.and_eq_true] at h ⊢
  obtain ⟨h1, h2⟩ := h
  have h2' : (putAll (flatS d (T.take k))).length = (flatS d (T.take k)).length := by simpa using h2
  refine ⟨?_, ?_⟩
  · rw [List.take_succ_eq_append_getElem hk, List.all_append, h1, Bool.true_and, List.all_cons, List.all_nil, Bool.and_true]
    cases hx : d.getD T[k] [] with
    | nil => exact absurd hx hne
    | cons _ _ => rfl
  · rw [flatS_step d T hk, putAll_app, fold_nodup _ _ hnd (newE_full.1 hnew), h2', List.length_append]
    simp; omega
theorem pack_short {d : List (List Int)} {T : List Nat} {k : Nat} (h : (putAll (flatS d (T.take k))).length < (flatS d (T.take k)).length) : packB d T = false := by
  unfold packB
  rw [Bool.and_eq_false_iff]
  refine .inr ?_
  rw [flatS_cut d T k, putAll_app, List.length_append]
  have := putAll_len (flatS d (T.drop k)) (putAll (flatS d (T.take k)))
  simp; omega
theorem pack_empty {d : List (List Int)} {T : List Nat} {k : Nat} (hk : k < T.length) (he : d.getD T[k] [] = []) : packB d T = false := by
  unfold packB
  rw [Bool.and_eq_false_iff]
  refine .inl ?_
  rw [List.all_eq_false]
  exact ⟨T[k], List.getElem_mem hk, by rw [he]; simp⟩
theorem pack_old {d : List (List Int)} {T : List Nat} {k : Nat} (hk : k < T.length) (hnew : (newE (putAll (flatS d (T.take k))) (d.getD T[k] [])).length ≠ (d.getD T[k] []).length) : packB d T = false := by
  obtain ⟨x, hx, hc⟩ : ∃ x ∈ d.getD T[k] [], x ∈ putAll (flatS d (T.take k)) := by
    refine Classical.byContradiction fun h => hnew (newE_full.2 fun x hx hc => h ⟨x, hx, hc⟩)
  refine pack_short (k := k + 1) ?_
  rw [flatS_step d T hk, putAll_app, List.length_append]
  have h1 := fold_short _ _ x hx hc
  have h2 := putAll_len (flatS d (T.take k)) []
  have h3 : (putAll (flatS d (T.take k))).length ≤ (flatS d (T.take k)).length := by simpa [putAll] using h2
  omega
/-- The program's own test. -/
theorem pack_count (d : List (List Int)) (T : List Nat) (h : ∀ k, (hk : k < T.length) → d.getD T[k] [] ≠ []) : packB d T = ((elsT d T).length == (flatS d T).length) := by
  unfold packB elsT
  have : T.all (fun m => !(d.getD m []).isEmpty) = true := by
    rw [List.all_eq_true]
    intro m hm
    obtain ⟨k, hk, rfl⟩ := List.getElem_of_mem hm
    have := h k hk
    cases hx : d.getD T[k] [] with
    | nil => exact absurd hx this
    | cons _ _ => rfl
  rw [this, Bool.true_and]
end Go.Proofs.Ytbngmjmcmdfphaa
