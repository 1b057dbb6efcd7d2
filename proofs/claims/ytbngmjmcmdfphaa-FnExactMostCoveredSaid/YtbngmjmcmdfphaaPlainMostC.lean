/- Plain mathematics of the choices that cover most. No condition. -/
import Derived.Test.YtbngmjmcmdfphaaPlainFirst2
import Derived.Test.YtbngmjmcmdfphaaPlainCover
import Derived.Test.YtbngmjmcmdfphaaCovered
import Derived.Test.YtbngmjmcmdfphaaChoiceTab
namespace Go.Proofs.Ytbngmjmcmdfphaa

def covT (S : Sys) (T : List Nat) : Nat := (elsT S.f.t.con T).length
def uncT (S : Sys) (T : List Nat) : Int := S.n - (covT S T : Int)
theorem covT_le {S : Sys} (hg : S.good = true) {T : List Nat} (hT : T.length ≤ 8) : covT S T ≤ 64 := by
  unfold covT elsT
  have h1 := putAll_few (flatS S.f.t.con T)
  have h2 := flat_bound (good_row8 hg) T
  omega
theorem covT_like {S U : Sys} (h : U.Like S) : covT U = covT S := by funext T; unfold covT; rw [h.2.2]
theorem uncT_like {S U : Sys} (h : U.Like S) : uncT U = uncT S := by funext T; unfold uncT; rw [h.1, covT_like h]
/-- Whether k choices can be asked for. -/
def askM (S : Sys) (k : Int) : Bool := S.good && (decide (0 ≤ k) && decide (k ≤ 8))
/-- The choice of at most k sets that covers most. -/
def mostC (S : Sys) (k : Nat) : List Nat := firstE (uncT S) (choL S.f.t.con.length (min k S.f.t.con.length))
/-- The model's way to it: all choices, those of more than k passed over. -/
def stepM (S : Sys) (k : Nat) (b T : List Nat) : List Nat := if T.length ≤ k ∧ covT S b < covT S T then T else b
def mostTo (S : Sys) (k : Nat) (L : List (List Nat)) (j : Nat) : List Nat := (L.take j).foldl (stepM S k) []
theorem mostTo_zero (S : Sys) (k : Nat) (L : List (List Nat)) : mostTo S k L 0 = [] := by simp [mostTo]
theorem mostTo_step (S : Sys) (k : Nat) (L : List (List Nat)) {j : Nat} (h : j < L.length) : mostTo S k L (j + 1) = stepM S k (mostTo S k L j) L[j] := by
  unfold mostTo; rw [List.take_succ_eq_append_getElem h, List.foldl_append]; rfl
theorem cho_filter : ∀ n ≤ 8, ∀ k ≤ 8, (E8.preS n n).filter (fun T => decide (T.length ≤ k)) = E8.preS n (min k n) := by decide +kernel
theorem step_same (S : Sys) (k : Nat) (b T : List Nat) (h : T.length ≤ k) : stepM S k b T = stepE (uncT S) b T := by
  unfold stepM stepE uncT
  by_cases hc : covT S b < covT S T
  · rw [if_pos ⟨h, hc⟩, if_pos (by omega)]
  · rw [if_neg (fun e => hc e.2), if_neg (by omega)]
theorem fold_filter (S : Sys) (k : Nat) : ∀ (L : List (List Nat)) (b : List Nat), L.foldl (stepM S k) b = (L.filter fun T => decide (T.length ≤ k)).foldl (stepE (uncT S)) b
  | [], _ => rfl
  | T :: r, b => by
    rw [List.foldl_cons, fold_filter S k r, List.filter_cons]
    by_cases h : T.length ≤ k
    · rw [if_pos (by simpa using h), List.foldl_cons, step_same S k b T h]
    · rw [if_neg (by simpa using h)]
      congr 1
      unfold stepM; rw [if_neg (fun e => h e.1)]
theorem mostTo_all (S : Sys) (k : Nat) (hN : S.f.t.con.length ≤ 8) (hk : k ≤ 8) : mostTo S k (choL S.f.t.con.length S.f.t.con.length) (choL S.f.t.con.length S.f.t.con.length).length = mostC S k := by
  unfold mostTo mostC
  rw [List.take_length]
  unfold choL
  rw [List.foldl_cons, show stepM S k [] [] = [] by unfold stepM; split <;> rfl, fold_filter, cho_filter _ hN k hk]
  rfl
theorem mostTo_mem (S : Sys) (k : Nat) (L : List (List Nat)) : ∀ j, j ≤ L.length → mostTo S k L j = [] ∨ mostTo S k L j ∈ L
  | 0, _ => .inl (mostTo_zero _ _ _)
  | j + 1, h => by
    rw [mostTo_step S k L (by omega)]
    unfold stepM
    split
    · exact .inr (List.getElem_mem _)
    · exact mostTo_mem S k L j (by omega)
theorem cho_min_all : ∀ n ≤ 8, ∀ k ≤ 8, (choL n (min k n)).all (fun T => decide (T.length ≤ 8) && T.all (fun x => decide (x < n))) = true := by decide +kernel
theorem cho_min {n k : Nat} (hn : n ≤ 8) (hk : k ≤ 8) {T : List Nat} (hT : T ∈ choL n (min k n)) : T.length ≤ 8 ∧ ∀ x ∈ T, x < n := by
  have := List.all_eq_true.1 (cho_min_all n hn k hk) T hT
  simpa using this
theorem askM_iff {S : Sys} {k : Int} : askM S k = true ↔ S.good = true ∧ 0 ≤ k ∧ k ≤ 8 := by unfold askM; simp
theorem mostC_like {S U : Sys} (h : U.Like S) (k : Nat) : mostC U k = mostC S k := by unfold mostC; rw [uncT_like h, h.2.2]
theorem askM_like {S U : Sys} (h : U.Like S) (k : Int) : askM U k = askM S k := by unfold askM; rw [h.good]
end Go.Proofs.Ytbngmjmcmdfphaa
