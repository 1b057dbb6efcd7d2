/- The costs of sets of clients. No condition. -/
import Derived.Test.YtfplcgakpildmaaPlainSums
import Derived.Test.YtfplcgakpildmaaBestTot
namespace Go.Proofs.Ytfplcgakpildmaa

theorem minV_first {φ : List Nat → Int} {L : List (List Nat)} (hn : ∀ T ∈ L, T ≠ []) (hb : ∀ T ∈ L, φ T < 9223372036854775807) : ∀ i, i ≤ L.length → 0 < i → minV φ (L.take i) = φ (firstB φ (L.take i))
  | 0, _, h => absurd h (Nat.lt_irrefl _)
  | 1, h, _ => by
    rw [minV_step φ L (i := 0) (by omega), firstB_step φ L (i := 0) (by omega)]
    have := hb _ (List.getElem_mem (show 0 < L.length by omega))
    simp only [List.take_zero]
    rw [show firstB φ [] = [] from rfl, show stepB φ [] L[0] = L[0] by unfold stepB; rw [if_pos (.inl rfl)]]
    unfold minV
    simp only [List.foldl_nil]
    omega
  | i + 2, h, _ => by
    have ih := minV_first hn hb (i + 1) (by omega) (by omega)
    rw [minV_step φ L (i := i + 1) (by omega), firstB_step φ L (i := i + 1) (by omega), ih]
    have hm : firstB φ (L.take (i + 1)) ∈ L.take (i + 1) := firstB_some (fun e => by have := congrArg List.length e; rw [List.length_take, List.length_nil] at this; omega) fun T hT => hn T (List.mem_of_mem_take hT)
    have h0 := hn _ (List.mem_of_mem_take hm)
    unfold stepB
    by_cases hlt : φ L[i + 1] < φ (firstB φ (L.take (i + 1)))
    · rw [if_pos (.inr hlt)]; omega
    · rw [if_neg (fun e => e.elim h0 hlt)]; omega
theorem minV_all {φ : List Nat → Int} {n : Nat} (hn : n ≤ 7) (h1 : 1 ≤ n) (hb : ∀ T ∈ allSets n, φ T < 9223372036854775807) : minV φ (allSets n) = φ (firstB φ (allSets n)) := by
  have h0 : 0 < (allSets n).length := List.length_pos_iff.2 (fun e => by have := firstB_all (φ := φ) hn h1; rw [e] at this; cases this)
  have := minV_first (φ := φ) (L := allSets n) (fun T hT => (all_ok hn hT).1) hb _ (Nat.le_refl _) h0
  rw [List.take_length] at this; exact this

/-- What a set of sites costs for the clients of a code. -/
def parT (F : Fld) (c : Nat) (T : List Nat) : Int := (pays F.o.l T).sum + subS (lens F.t.con T) (bitsTo c F.t.R.length)
/-- The cost of the set of clients of a code. -/
def costC (F : Fld) (c : Nat) : Int := if c = 0 then 0 else minV (parT F c) (allSets F.o.l.length)
/-- The costs of all sets of clients. -/
def costs (F : Fld) : List Int := (List.range (2 ^ F.t.R.length)).map (costC F)
theorem costs_len (F : Fld) : (costs F).length = 2 ^ F.t.R.length := by unfold costs; simp
theorem costs_at (F : Fld) {c : Nat} (h : c < 2 ^ F.t.R.length) : (costs F).getD c 0 = costC F c := by unfold costs; simp [List.getD_eq_getElem?_getD, h]
theorem subS_bound {l : List Int} (h : ∀ x ∈ l, 0 ≤ x ∧ x ≤ 99) : ∀ T : List Nat, 0 ≤ subS l T ∧ subS l T ≤ 99 * T.length
  | [] => by simp [subS]
  | k :: T => by
    have ih := subS_bound h T
    have hk := getD_bound h k
    unfold subS at ih ⊢
    rw [List.map_cons, List.sum_cons, List.length_cons]
    push_cast
    omega
theorem parT_bound {F : Fld} (h : F.good = true) (c : Nat) {T : List Nat} (hT : T.length ≤ 7) : 0 ≤ parT F c T ∧ parT F c T ≤ 1386 := by
  have h2 := sum_bound (pays_bound h T)
  have h3 : (pays F.o.l T).length = T.length := by unfold pays; simp
  have h4 := subS_bound (lens_bound h T) (bitsTo c F.t.R.length)
  have h5 := bitsTo_len c F.t.R.length
  have h6 := good_sizes h
  unfold parT; omega
theorem minV_bound {φ : List Nat → Int} {L : List (List Nat)} (h : ∀ T ∈ L, 0 ≤ φ T ∧ φ T ≤ 1386) (h0 : L ≠ []) : 0 ≤ minV φ L ∧ minV φ L ≤ 1386 := by
  have key : ∀ i, i ≤ L.length → 0 ≤ minV φ (L.take i) ∧ (0 < i → minV φ (L.take i) ≤ 1386) := by
    intro i
    induction i with
    | zero => intro _; simp [minV]
    | succ i ih =>
      intro hi
      have := ih (by omega)
      have hb := h _ (List.getElem_mem (show i < L.length by omega))
      rw [minV_step φ L (by omega)]
      omega
  have := key L.length (Nat.le_refl _)
  rw [List.take_length] at this
  exact ⟨this.1, this.2 (List.length_pos_iff.2 h0)⟩
theorem all_some {n : Nat} (hn : n ≤ 7) (h1 : 1 ≤ n) : allSets n ≠ [] := fun e => by have := firstB_all (φ := fun _ => 0) hn h1; rw [e] at this; cases this
theorem costC_bound {F : Fld} (h : F.good = true) (c : Nat) : 0 ≤ costC F c ∧ costC F c ≤ 1386 := by
  have hs := good_sizes h
  unfold costC
  split
  · omega
  · exact minV_bound (fun T hT => parT_bound h c (all_ok hs.2.1 hT).2.2) (all_some hs.2.1 hs.1)
theorem costs_bound {F : Fld} (h : F.good = true) : ∀ x ∈ costs F, 0 ≤ x ∧ x ≤ 1386 := by
  intro x hx
  unfold costs at hx
  obtain ⟨c, _, rfl⟩ := List.mem_map.1 hx
  exact costC_bound h c
theorem costs_like {F G : Fld} (h : G.Like F) : costs G = costs F := by
  have e : G.t.R.length = F.t.R.length := by have := congrArg List.length h.2; rw [con_length, con_length] at this; exact this
  unfold costs
  rw [e]
  refine List.map_congr_left fun c _ => ?_
  unfold costC
  rw [h.1]
  have : parT G c = parT F c := by funext T; unfold parT; rw [h.1, h.2, e]
  rw [this]

/-- The Field with some clients alone. -/
def partF (F : Fld) (a : Option Addr) (c : Nat) (T : List Nat) : Fld := ⟨F.o, ⟨a, c, T.map fun j => F.t.R.getD j ⟨none, 0, []⟩⟩⟩
theorem partF_len (F : Fld) (a : Option Addr) (c : Nat) (T : List Nat) : (partF F a c T).t.R.length = T.length := by unfold partF; simp
theorem partF_con (F : Fld) (a : Option Addr) (c : Nat) {T : List Nat} (hT : ∀ j ∈ T, j < F.t.R.length) : (partF F a c T).t.con = T.map fun j => F.t.con.getD j [] := by
  unfold partF Tab.con
  rw [List.map_map]
  refine List.map_congr_left fun j hj => ?_
  have := hT j hj
  simp [List.getD_eq_getElem?_getD, List.getElem?_eq_getElem this]
theorem partF_mem {F : Fld} {a : Option Addr} {c : Nat} {T : List Nat} (hT : ∀ j ∈ T, j < F.t.R.length) : ∀ r ∈ (partF F a c T).t.R, r ∈ F.t.R := by
  intro r hr
  unfold partF at hr
  obtain ⟨j, hj, rfl⟩ := List.mem_map.1 hr
  rw [List.getD_eq_getElem?_getD, List.getElem?_eq_getElem (hT j hj)]
  exact List.getElem_mem _
theorem partF_good {F : Fld} (h : F.good = true) (a : Option Addr) (c : Nat) {T : List Nat} (hT : ∀ j ∈ T, j < F.t.R.length) (hl : T.length ≤ 7) : (partF F a c T).good = true := by
  obtain ⟨h1, h2, h3, h4, h5⟩ := goodB_iff.1 h
  refine goodB_iff.2 ⟨h1, h2, h3, by rw [con_length, partF_len]; exact hl, ?_⟩
  rw [List.all_eq_true] at h5 ⊢
  intro x hx
  unfold Tab.con at hx
  obtain ⟨r, hr, rfl⟩ := List.mem_map.1 hx
  exact h5 _ (List.mem_map.2 ⟨r, partF_mem hT r hr, rfl⟩)
theorem partF_tot {F : Fld} (a : Option Addr) (c : Nat) {T : List Nat} (hT : ∀ j ∈ T, j < F.t.R.length) (U : List Nat) : totT (partF F a c T) U = (pays F.o.l U).sum + subS (lens F.t.con U) T := by
  unfold totT servT
  rw [partF_con F a c hT]
  have e : (lens (T.map fun j => F.t.con.getD j []) U) = T.map fun j => (lens F.t.con U).getD j 0 := by
    unfold lens
    rw [List.map_map]
    refine List.map_congr_left fun j hj => ?_
    have hj2 : j < F.t.con.length := by rw [con_length]; exact hT j hj
    simp [List.getD_eq_getElem?_getD, List.getElem?_eq_getElem hj2]
  rw [e]
  unfold subS
  show _ + (pays F.o.l U).sum = _
  omega
theorem part_cost {F : Fld} (h : F.good = true) (a : Option Addr) (c : Nat) {T : List Nat} (hT : ∀ j ∈ T, j < F.t.R.length) {k : Nat} (hk : k ≠ 0) (hTk : T = bitsTo k F.t.R.length) :
    totT (partF F a c T) (firstB (totT (partF F a c T)) (allSets F.o.l.length)) = costC F k := by
  have hs := good_sizes h
  have e : totT (partF F a c T) = parT F k := by funext U; rw [partF_tot a c hT U, hTk]; rfl
  unfold costC
  rw [if_neg hk, e]
  exact (minV_all hs.2.1 hs.1 (fun U hU => by have := parT_bound h k (all_ok hs.2.1 hU).2.2; omega)).symm
end Go.Proofs.Ytfplcgakpildmaa
