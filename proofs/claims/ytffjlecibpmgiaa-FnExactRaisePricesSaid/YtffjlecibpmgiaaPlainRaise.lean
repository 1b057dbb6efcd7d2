/- Plain mathematics of prices that are raised. No condition. -/
import Derived.Test.YtffjlecibpmgiaaPlainFairS
import Derived.Test.YtffjlecibpmgiaaPlainPicks
namespace Go.Proofs.Ytffjlecibpmgiaa

theorem set_getD (p : List Int) (k j : Nat) (v : Int) (hk : k < p.length) : (p.set k v).getD j 0 = if j = k then v else p.getD j 0 := by
  simp only [List.getD_eq_getElem?_getD, List.getElem?_set]
  by_cases h : k = j
  · subst h; simp [hk]
  · rw [if_neg h, if_neg (fun e => h e.symm)]
theorem prOf_none (p : List Int) (k : Nat) (v : Int) (hk : k < p.length) : ∀ l : List Int, (∀ x ∈ l, 0 ≤ x) → (k : Int) ∉ l → prOf (p.set k v) l = prOf p l
  | [], _, _ => rfl
  | x :: r, h0, h => by
    have ih := prOf_none p k v hk r (fun y hy => h0 y (List.mem_cons_of_mem _ hy)) (fun e => h (List.mem_cons_of_mem _ e))
    unfold prOf at ih ⊢
    rw [List.map_cons, List.map_cons, ih, set_getD p k _ v hk, if_neg]
    intro e
    have := h0 x List.mem_cons_self
    exact h (by rw [← e, Int.toNat_of_nonneg this]; exact List.mem_cons_self)
theorem prOf_set (n : Nat) (p : List Int) (k : Nat) (v : Int) (hk : k < p.length) : ∀ (l : List Int) (lo : Int), -1 ≤ lo → rise n lo l = true → (prOf (p.set k v) l).sum = (prOf p l).sum + if l.contains (k : Int) then v - p.getD k 0 else 0
  | [], _, _, _ => by simp [prOf]
  | x :: r, lo, hlo, h => by
    have hb := rise_bounds n (x :: r) lo h
    simp only [rise, Bool.and_eq_true, decide_eq_true_eq] at h
    obtain ⟨⟨h1, h2⟩, h3⟩ := h
    have hbr := rise_bounds n r x h3
    have ih := prOf_set n p k v hk r x (by omega) h3
    by_cases e : (k : Int) = x
    · have hnot : (k : Int) ∉ r := fun hm => by have := hbr _ hm; omega
      have hp := prOf_none p k v hk r (fun y hy => by have := hbr y hy; omega) hnot
      have hc : (x :: r).contains (k : Int) = true := List.contains_iff_mem.2 (by rw [e]; exact List.mem_cons_self)
      rw [if_pos hc]
      have hx : x.toNat = k := by omega
      have hs : prOf (p.set k v) (x :: r) = v :: prOf p r := by
        show (p.set k v).getD x.toNat 0 :: prOf (p.set k v) r = _
        rw [hp, hx, set_getD p k k v hk, if_pos rfl]
      have hs2 : prOf p (x :: r) = p.getD k 0 :: prOf p r := by
        show p.getD x.toNat 0 :: prOf p r = _
        rw [hx]
      rw [hs, hs2, List.sum_cons, List.sum_cons]; omega
    · have hc : (x :: r).contains (k : Int) = r.contains (k : Int) := by
        rw [Bool.eq_iff_iff, List.contains_iff_mem, List.contains_iff_mem, List.mem_cons]
        exact ⟨fun h => h.elim (fun h => absurd h e) id, .inr⟩
      have hx : x.toNat ≠ k := by have := (hb x List.mem_cons_self).1; omega
      have hs : prOf (p.set k v) (x :: r) = p.getD x.toNat 0 :: prOf (p.set k v) r := by
        show (p.set k v).getD x.toNat 0 :: prOf (p.set k v) r = _
        rw [set_getD p k _ v hk, if_neg hx]
      have hs2 : prOf p (x :: r) = p.getD x.toNat 0 :: prOf p r := rfl
      rw [hs, hs2, List.sum_cons, List.sum_cons, ih, hc]; omega

/-- The least one of some rests, 99 at most. -/
def leastR (f : Nat → Int) (L : List Int) : Int := L.foldl (fun a i => min a (f i.toNat)) 99
theorem leastR_snoc (f : Nat → Int) (L : List Int) (k : Nat) : leastR f (L ++ [(k : Int)]) = min (leastR f L) (f k) := by unfold leastR; rw [List.foldl_append]; simp
/-- By how much a price can be raised. -/
def raiseV (S : Sys) (p : List Int) (x : Nat) : Int := if withEl S.f.t.con (x : Int) = [] then 0 else leastR (restS S p 1) (withEl S.f.t.con (x : Int))
def pricesK (S : Sys) (n : Nat) : Nat → List Int
  | 0 => List.replicate n 0
  | k + 1 => (pricesK S n k).set k (raiseV S (pricesK S n k) k)
theorem pricesK_len (S : Sys) (n : Nat) : ∀ k, (pricesK S n k).length = n
  | 0 => by simp [pricesK]
  | k + 1 => by unfold pricesK; rw [List.length_set, pricesK_len S n k]
theorem raiseV_like {S U : Sys} (hl : U.Like S) : raiseV U = raiseV S := by funext p x; unfold raiseV; rw [restS_like hl, hl.2.2]
theorem pricesK_like {S U : Sys} (hl : U.Like S) (n : Nat) : ∀ k, pricesK U n k = pricesK S n k
  | 0 => rfl
  | k + 1 => by unfold pricesK; rw [pricesK_like hl n k, raiseV_like hl]

/-- All rests lie in 0..99. -/
def RestOK (S : Sys) (p : List Int) : Prop := ∀ i, i < S.f.t.con.length → 0 ≤ restS S p 1 i ∧ restS S p 1 i ≤ 99
theorem leastR_bounds {f : Nat → Int} {d : List (List Int)} {P : List Int → Bool} (h : ∀ i, i < d.length → 0 ≤ f i ∧ f i ≤ 99) : ∀ k, k ≤ d.length → 0 ≤ leastR f (picks P d k) ∧ leastR f (picks P d k) ≤ 99 ∧ ∀ i, i < k → P (d.getD i []) = true → leastR f (picks P d k) ≤ f i
  | 0, _ => by refine ⟨by simp [picks, leastR], by simp [picks, leastR], fun i hi => by omega⟩
  | k + 1, hk => by
    obtain ⟨h1, h2, h3⟩ := leastR_bounds (P := P) h k (by omega)
    have hk1 := h k (by omega)
    by_cases hp : P (d.getD k []) = true
    · rw [picks_yes hp, leastR_snoc]
      refine ⟨by omega, by omega, fun i hi hpi => ?_⟩
      by_cases e : i = k
      · subst e; omega
      · have := h3 i (by omega) hpi; omega
    · rw [picks_no (by simpa using hp)]
      refine ⟨h1, h2, fun i hi hpi => ?_⟩
      by_cases e : i = k
      · subst e; exact absurd hpi hp
      · exact h3 i (by omega) hpi
theorem raiseV_bounds {S : Sys} {p : List Int} (h : RestOK S p) (x : Nat) : 0 ≤ raiseV S p x ∧ raiseV S p x ≤ 99 ∧ ∀ i, i < S.f.t.con.length → (S.f.t.con.getD i []).contains (x : Int) = true → raiseV S p x ≤ restS S p 1 i := by
  unfold raiseV
  split
  · rename_i he
    refine ⟨by omega, by omega, fun i hi hc => ?_⟩
    exact (h i hi).1
  · have := leastR_bounds (P := fun l => l.contains (x : Int)) h S.f.t.con.length (Nat.le_refl _)
    exact this

structure RaiseAt (S : Sys) (n k : Nat) (p : List Int) : Prop where
  len : p.length = n
  low : ∀ x ∈ p, 0 ≤ x ∧ x ≤ 99
  zero : ∀ j, k ≤ j → p.getD j 0 = 0
  rest : RestOK S p
theorem raise_at {S : Sys} {n : Nat} (hg : S.good = true) (hn : S.n = n) : ∀ k, k ≤ n → RaiseAt S n k (pricesK S n k)
  | 0, _ => by
    obtain ⟨n', h1, h2, h3, h4, h5, h6⟩ := good_n hg
    refine ⟨pricesK_len _ _ _, fun x hx => ?_, fun j _ => ?_, fun i hi => ?_⟩
    · have := (List.mem_replicate.1 hx).2; omega
    · unfold pricesK; rw [List.getD_eq_getElem?_getD, List.getElem?_replicate]; split <;> simp
    · have hz : ∀ l : List Int, (prOf (pricesK S n 0) l).sum = 0 := fun l => by
        induction l with
        | nil => simp [prOf]
        | cons x r ih =>
          show ((pricesK S n 0).getD x.toNat 0 :: prOf (pricesK S n 0) r).sum = 0
          rw [List.sum_cons, ih]
          unfold pricesK; rw [List.getD_eq_getElem?_getD, List.getElem?_replicate]; split <;> simp
      unfold restS
      rw [hz, List.getD_eq_getElem?_getD, List.getElem?_eq_getElem (by omega), Option.getD_some]
      have := h5 _ (List.getElem_mem (show i < S.f.o.l.length by omega))
      omega
  | k + 1, hk => by
    have ih := raise_at hg hn k (by omega)
    obtain ⟨n', h1, h2, h3, h4, h5, h6⟩ := good_n hg
    obtain rfl : n' = n := by omega
    have hr := raiseV_bounds ih.rest k
    have hkl : k < (pricesK S n' k).length := by rw [pricesK_len]; omega
    refine ⟨pricesK_len _ _ _, fun x hx => ?_, fun j hj => ?_, fun i hi => ?_⟩
    · unfold pricesK at hx
      rcases List.mem_or_eq_of_mem_set hx with hx | hx
      · exact ih.low x hx
      · omega
    · unfold pricesK
      rw [set_getD _ _ _ _ hkl, if_neg (by omega)]
      exact ih.zero j (by omega)
    · have hset : setB n' (S.f.t.con.getD i []) = true := by
        rw [List.getD_eq_getElem?_getD, List.getElem?_eq_getElem hi, Option.getD_some]
        exact h6 _ (List.getElem_mem hi)
      have hp := prOf_set n' (pricesK S n' k) k (raiseV S (pricesK S n' k) k) hkl (S.f.t.con.getD i []) (-1) (by omega) hset
      have hri := ih.rest i hi
      have h0 := ih.zero k (Nat.le_refl _)
      show 0 ≤ restS S ((pricesK S n' k).set k (raiseV S (pricesK S n' k) k)) 1 i ∧ restS S ((pricesK S n' k).set k (raiseV S (pricesK S n' k) k)) 1 i ≤ 99
      unfold restS at hri ⊢
      rw [hp, h0]
      by_cases hc : (S.f.t.con.getD i []).contains (k : Int) = true
      · rw [if_pos hc]
        have := hr.2.2 i hi hc
        unfold restS at this
        omega
      · rw [if_neg hc]; omega

/-- The model's search of the least rest. -/
def mostK (S : Sys) (p : List Int) (x : Nat) : Nat → Int
  | 0 => -1
  | k + 1 => if (S.f.t.con.getD k []).contains (x : Int) = true ∧ (mostK S p x k < 0 ∨ restS S p 1 k < mostK S p x k) then restS S p 1 k else mostK S p x k
theorem mostK_is {S : Sys} {p : List Int} (x : Nat) (h : RestOK S p) : ∀ k, k ≤ S.f.t.con.length →
    (picks (fun l => l.contains (x : Int)) S.f.t.con k = [] ∧ mostK S p x k = -1) ∨ (picks (fun l => l.contains (x : Int)) S.f.t.con k ≠ [] ∧ mostK S p x k = leastR (restS S p 1) (picks (fun l => l.contains (x : Int)) S.f.t.con k) ∧ 0 ≤ mostK S p x k)
  | 0, _ => .inl ⟨rfl, rfl⟩
  | k + 1, hk => by
    have ih := mostK_is x h k (by omega)
    have hr := h k (by omega)
    by_cases hc : (S.f.t.con.getD k []).contains (x : Int) = true
    · rw [picks_yes (P := fun l => l.contains (x : Int)) hc]
      right
      rw [leastR_snoc]
      rcases ih with ⟨h1, h2⟩ | ⟨h1, h2, h3⟩
      · have e : mostK S p x (k + 1) = restS S p 1 k := by unfold mostK; rw [if_pos ⟨hc, .inl (by omega)⟩]
        rw [e, h1]
        refine ⟨by simp, ?_, hr.1⟩
        show restS S p 1 k = min 99 (restS S p 1 k)
        omega
      · by_cases hlt : restS S p 1 k < mostK S p x k
        · have e : mostK S p x (k + 1) = restS S p 1 k := by unfold mostK; rw [if_pos ⟨hc, .inr hlt⟩]
          rw [e]
          exact ⟨by simp, by rw [← h2]; omega, hr.1⟩
        · have e : mostK S p x (k + 1) = mostK S p x k := by
            show (if _ then _ else _) = _
            rw [if_neg (fun h => h.2.elim (fun h => by omega) hlt)]
          rw [e]
          exact ⟨by simp, by rw [← h2]; omega, h3⟩
    · rw [picks_no (P := fun l => l.contains (x : Int)) (by simpa using hc)]
      have e : mostK S p x (k + 1) = mostK S p x k := by
        show (if _ then _ else _) = _
        rw [if_neg (fun h => hc h.1)]
      rw [e]; exact ih
theorem mostK_raise {S : Sys} {p : List Int} (x : Nat) (h : RestOK S p) : max (mostK S p x S.f.t.con.length) 0 = raiseV S p x := by
  unfold raiseV withEl
  rcases mostK_is x h _ (Nat.le_refl _) with ⟨h1, h2⟩ | ⟨h1, h2, h3⟩
  · rw [if_pos h1, h2]; rfl
  · rw [if_neg h1, ← h2]; omega
theorem mostK_bounds {S : Sys} {p : List Int} (x : Nat) (h : RestOK S p) (k : Nat) (hk : k ≤ S.f.t.con.length) : -1 ≤ mostK S p x k ∧ mostK S p x k ≤ 99 := by
  rcases mostK_is x h k hk with ⟨_, h2⟩ | ⟨_, h2, h3⟩
  · omega
  · have := leastR_bounds (P := fun l => l.contains (x : Int)) h k hk
    omega

end Go.Proofs.Ytffjlecibpmgiaa
