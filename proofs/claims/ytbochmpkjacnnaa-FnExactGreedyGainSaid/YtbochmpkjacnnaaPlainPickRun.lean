/- Sites that are picked and taken where a rule allows it, and that with equal costs and a size they are those taken greedily: plain. No condition. -/
import Derived.Test.YtbochmpkjacnnaaBestPick
namespace Go.Proofs.Ytbochmpkjacnnaa

/-- The sites taken behind those that are taken, out of those that are left. -/
def gRun (F : Fld) (u : Int) (c : List Int) (p : List Nat → Bool) : Nat → List Nat → List Nat → List Nat
  | 0, T, _ => T
  | m + 1, T, L => if (pickG F u T c L).1 = -1 then T else gRun F u c p m (if p (T ++ [(pickG F u T c L).1.toNat]) then T ++ [(pickG F u T c L).1.toNat] else T) (L.erase (pickG F u T c L).1.toNat)
theorem pickG_mem (F : Fld) (u : Int) (T : List Nat) (c : List Int) (L : List Nat) : ∀ b : Int × Int × Int, L.foldl (pickStep F u T c) b = b ∨ ∃ i ∈ L, (L.foldl (pickStep F u T c) b).1 = (i : Int) := by
  induction L with
  | nil => intro b; exact .inl rfl
  | cons i L ih =>
    intro b
    rcases ih (pickStep F u T c b i) with h | ⟨j, hj, h⟩
    · by_cases h2 : moreT F u T i * b.2.2 > b.2.1 * c.getD i 0
      · refine .inr ⟨i, by simp, ?_⟩
        show (L.foldl (pickStep F u T c) (pickStep F u T c b i)).1 = _
        rw [h]; unfold pickStep; rw [if_pos h2]
      · refine .inl ?_
        show L.foldl (pickStep F u T c) (pickStep F u T c b i) = _
        rw [h]; unfold pickStep; rw [if_neg h2]
    · exact .inr ⟨j, by simp [hj], h⟩
theorem pickG_site (F : Fld) (u : Int) (T : List Nat) (c : List Int) (L : List Nat) : (pickG F u T c L).1 = -1 ∨ ((pickG F u T c L).1.toNat ∈ L ∧ (pickG F u T c L).1 = ((pickG F u T c L).1.toNat : Int)) := by
  rcases pickG_mem F u T c L (-1, 0, 1) with h | ⟨i, hi, h⟩
  · exact .inl (by unfold pickG; rw [h])
  · refine .inr ?_
    have h' : (pickG F u T c L).1 = (i : Int) := h
    rw [h']
    exact ⟨by simpa using hi, by simp⟩
theorem bestM_step (F : Fld) (u : Int) (T : List Nat) (k : Nat) : bestM F u T (k + 1) = if k ∉ T ∧ moreT F u T k > (bestM F u T k).2 then ((k : Int), moreT F u T k) else bestM F u T k := rfl
theorem pick_best (F : Fld) (u : Int) (T : List Nat) (n : Nat) : ∀ m, m ≤ n → pickG F u T (List.replicate n 1) ((List.range m).filter (fun x => decide (x ∉ T))) = ((bestM F u T m).1, (bestM F u T m).2, 1)
  | 0, _ => rfl
  | m + 1, h => by
    have ih := pick_best F u T n m (by omega)
    unfold pickG at ih ⊢
    rw [List.range_succ, List.filter_append, List.foldl_append, ih]
    have hc : (List.replicate n (1 : Int)).getD m 0 = 1 := by
      rw [List.getD_eq_getElem?_getD, List.getElem?_eq_getElem (by rw [List.length_replicate]; omega)]; simp
    by_cases hm : m ∈ T
    · have e : ([m].filter (fun x => decide (x ∉ T))) = [] := by simp [hm]
      rw [e, bestM_step, if_neg (fun h => h.1 hm)]
      rfl
    · have e : ([m].filter (fun x => decide (x ∉ T))) = [m] := by simp [hm]
      rw [e]
      show pickStep F u T (List.replicate n 1) ((bestM F u T m).1, (bestM F u T m).2, 1) m = _
      rw [pickStep, hc, bestM_step]
      simp only [Int.mul_one]
      by_cases hg : moreT F u T m > (bestM F u T m).2
      · rw [if_pos hg, if_pos ⟨hm, hg⟩]
      · rw [if_neg hg, if_neg (fun h => hg h.2)]
theorem gRun_full (F : Fld) (u : Int) (c : List Int) (p : List Nat → Bool) (T : List Nat) (hp : ∀ i, p (T ++ [i]) = false) : ∀ m L, gRun F u c p m T L = T
  | 0, _ => rfl
  | m + 1, L => by
    unfold gRun
    split
    · rfl
    · rw [hp]; exact gRun_full F u c p T hp m _
theorem best_none {F : Fld} {u : Int} {T : List Nat} {n : Nat} (h : (bestM F u T n).1 = -1) : (bestM F u T n).2 = 0 := by
  rcases bestM_ok F u T n with h1 | ⟨i, _, _, h2, _⟩
  · exact h1.2
  · omega
theorem gRun_size (F : Fld) (u : Int) (n k : Nat) : ∀ m d, d ≤ k → (grG F u n d).length = d → ((List.range n).filter (fun x => decide (x ∉ grG F u n d))).length ≤ m →
    gRun F u (List.replicate n 1) (fun T => decide (T.length ≤ k)) m (grG F u n d) ((List.range n).filter (fun x => decide (x ∉ grG F u n d))) = grG F u n k := by
  intro m
  induction m with
  | zero =>
    intro d hd hl hm
    have hp := pick_best F u (grG F u n d) n n (Nat.le_refl _)
    have e : (List.range n).filter (fun x => decide (x ∉ grG F u n d)) = [] := List.eq_nil_of_length_eq_zero (by omega)
    rw [e] at hp
    have h1 : (bestM F u (grG F u n d) n).1 = -1 := (congrArg Prod.fst hp).symm
    show grG F u n d = _
    rw [← grG_stop (best_none h1) (k - d), show d + (k - d) = k by omega]
  | succ m ih =>
    intro d hd hl hm
    by_cases hk : d = k
    · rw [← hk]
      exact gRun_full F u _ _ _ (fun i => by simp [hl]) _ _
    · have hp := pick_best F u (grG F u n d) n n (Nat.le_refl _)
      unfold gRun
      rw [hp]
      simp only
      by_cases h1 : (bestM F u (grG F u n d) n).1 = -1
      · rw [if_pos h1, ← grG_stop (best_none h1) (k - d), show d + (k - d) = k by omega]
      · rw [if_neg h1]
        rcases bestM_ok F u (grG F u n d) n with h2 | ⟨i, hin, hiT, h3, h4, h5⟩
        · exact absurd h2.1 h1
        · have hi : (bestM F u (grG F u n d) n).1.toNat = i := by omega
          have hg : grG F u n (d + 1) = grG F u n d ++ [i] := by
            rw [grG, if_neg (by omega), hi]
          rw [hi, if_pos (by simp [hl]; omega), ← hg]
          have hnd : ((List.range n).filter (fun x => decide (x ∉ grG F u n d))).Nodup := List.nodup_range.filter _
          have hE : ((List.range n).filter (fun x => decide (x ∉ grG F u n d))).erase i = (List.range n).filter (fun x => decide (x ∉ grG F u n (d + 1))) := by
            rw [List.Nodup.erase_eq_filter hnd, List.filter_filter, hg]
            refine List.filter_congr (fun x _ => ?_)
            by_cases hx : x = i
            · subst hx; simp
            · simp [hx]
          have hmem : i ∈ (List.range n).filter (fun x => decide (x ∉ grG F u n d)) := List.mem_filter.2 ⟨List.mem_range.2 hin, by simpa using hiT⟩
          have hlen := List.length_erase_of_mem hmem
          have hpos := List.length_pos_of_mem hmem
          rw [hE] at hlen ⊢
          exact ih (d + 1) (by omega) (by rw [hg, List.length_append, hl]; rfl) (by omega)
end Go.Proofs.Ytbochmpkjacnnaa
