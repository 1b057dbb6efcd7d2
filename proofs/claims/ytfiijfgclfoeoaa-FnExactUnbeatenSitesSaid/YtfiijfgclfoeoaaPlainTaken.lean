/- Which clients go to the follower, and how many votes a site has against another one. No condition. -/
import Derived.Test.YtfiijfgclfoeoaaPlainPicks
import Derived.Test.YtfiijfgclfoeoaaPlainGreed
namespace Go.Proofs.Ytfiijfgclfoeoaa

/-- A client to which a site of the follower is nearer than all sites of the leader. -/
def takeP (T U : List Nat) (row : List Int) : Bool := U.any fun m => decide (row.getD m 0 < row.getD (near row T) 0)
/-- The clients that go to the follower. -/
def taken (d : List (List Int)) (T U : List Nat) : List Int := picks (takeP T U) d d.length
theorem taken_len (d : List (List Int)) (T U : List Nat) : (taken d T U).length ≤ d.length := picks_len _ _ _
theorem takeP_nil (T : List Nat) (row : List Int) : takeP T [] row = false := rfl
theorem takeP_near {T U : List Nat} (h0 : 0 < U.length) (row : List Int) : takeP T U row = decide (row.getD (near row U) 0 < row.getD (near row T) 0) := by
  unfold takeP
  rw [Bool.eq_iff_iff, List.any_eq_true, decide_eq_true_eq]
  constructor
  · rintro ⟨m, hm, h⟩
    rw [decide_eq_true_eq] at h
    obtain ⟨j, hj, rfl⟩ := List.mem_iff_getElem.1 hm
    have := near_le row U U.length (Nat.le_refl _) j hj hj
    unfold near at *
    omega
  · intro h
    exact ⟨_, near_mem h0 U.length (Nat.le_refl _), by rw [decide_eq_true_eq]; exact h⟩
theorem near_single (row : List Int) (a : Nat) : near row [a] = a := by
  unfold near nearTo nearF
  simp
theorem takeP_one (a b : Nat) (row : List Int) : takeP [b] [a] row = decide (row.getD a 0 < row.getD b 0) := by
  unfold takeP
  rw [near_single]
  simp
theorem picks_nil {P : List Int → Bool} {d : List (List Int)} (h : ∀ l, P l = false) : ∀ k, picks P d k = []
  | 0 => rfl
  | k + 1 => by rw [picks_no (h _), picks_nil h k]
theorem taken_nil (d : List (List Int)) (T : List Nat) : taken d T [] = [] := picks_nil (fun l => takeP_nil T l) _
/-- How many clients are nearer to a than to b. -/
def votes (d : List (List Int)) (a b : Nat) : Nat := (taken d [b] [a]).length
theorem votes_le (d : List (List Int)) (a b : Nat) : votes d a b ≤ d.length := taken_len _ _ _
end Go.Proofs.Ytfiijfgclfoeoaa
