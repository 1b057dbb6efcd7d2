/- Plain mathematics of rests, of places that are picked, and of the least number. No condition. -/
import Derived.Test.YtjabdcallfipeaaPlainClaim
import Derived.Test.YtjabdcallfipeaaPlainPick
import Derived.Lib.Slices
namespace Go.Proofs.Ytjabdcallfipeaa

/-- The opening cost less the claim of a site. -/
def restAt (F : Fld) (p : List Int) (a : Nat) : Int := F.o.l.getD a 0 - clmTo F 1 p a p.length
def restsTo (F : Fld) (p : List Int) (n : Nat) : List Int := (List.range n).map (restAt F p)
theorem rests_length (F : Fld) (p : List Int) (n : Nat) : (restsTo F p n).length = n := by simp [restsTo]
theorem rests_at (F : Fld) (p : List Int) {n a : Nat} (h : a < n) : (restsTo F p n)[a]'(by rw [rests_length]; exact h) = restAt F p a := by simp [restsTo]
theorem rests_getD (F : Fld) (p : List Int) {n a : Nat} (h : a < n) : (restsTo F p n).getD a 0 = restAt F p a := by rw [getD_at (by rw [rests_length]; exact h), rests_at F p h]
theorem rests_step (F : Fld) (p : List Int) (n : Nat) : restsTo F p (n + 1) = restsTo F p n ++ [restAt F p n] := by simp [restsTo, List.range_succ]
theorem rest_like {F G : Fld} (h : F.Like G) (p : List Int) (a : Nat) : restAt F p a = restAt G p a := by unfold restAt; rw [h.1, clm_like h]
theorem rests_like {F G : Fld} (h : F.Like G) (p : List Int) (n : Nat) : restsTo F p n = restsTo G p n := by unfold restsTo; congr 1; funext a; exact rest_like h p a
theorem rest_bound {F : Fld} {p : List Int} {B : Int} (hg : F.good = true) (hd : Dues B p) (hB : 0 ≤ B) (hl : p.length = F.t.R.length) (a : Nat) : -(7 * B) ≤ restAt F p a ∧ restAt F p a ≤ 99 := by
  have h1 := clm_bound hg (u := 1) (by omega) hd hB a p.length (by omega)
  have h2 := getD_bound (good_open hg) a
  have h3 := good_sizes hg
  have h4 : B * (p.length : Int) ≤ B * 7 := Int.mul_le_mul_of_nonneg_left (by omega) hB
  unfold restAt
  omega

theorem over_at (xs ms : List Value) (j : Nat) (h : ms.length = xs.length) (hj : j ≤ xs.length) : (over xs ms j)[j]? = xs[j]? := by
  unfold over
  rw [List.getElem?_append_right (by rw [List.length_take]; omega), List.length_take, show j - min j ms.length = 0 by omega, List.getElem?_drop, Nat.add_zero]


theorem min_le : ∀ (k : Nat) (zs : List Int), 0 < k → k ≤ zs.length → (∀ j, j < k → Lib.minOf (zs.take k) ≤ zs.getD j 0) ∧ ∃ j, j < k ∧ Lib.minOf (zs.take k) = zs.getD j 0
  | 0, _, h, _ => absurd h (Nat.lt_irrefl _)
  | 1, zs, _, _ => by
    rw [Lib.minOf_one]
    exact ⟨fun j hj => by rw [show j = 0 by omega]; exact Int.le_refl _, 0, by omega, rfl⟩
  | k + 2, zs, _, hk => by
    obtain ⟨h1, j0, h2, h3⟩ := min_le (k + 1) zs (by omega) (by omega)
    rw [Lib.minOf_step zs (k + 1) (by omega) (by omega)]
    refine ⟨fun j hj => ?_, ?_⟩
    · by_cases e : j = k + 1
      · subst e; omega
      · have := h1 j (by omega); omega
    · by_cases e : Lib.minOf (zs.take (k + 1)) ≤ zs.getD (k + 1) 0
      · exact ⟨j0, by omega, by rw [Int.min_eq_left e]; exact h3⟩
      · exact ⟨k + 1, by omega, by rw [Int.min_eq_right (by omega)]⟩

/-- Fair prices: no claim is above its site's cost. -/
def fairB (F : Fld) (p : List Int) : Bool := pricesB F p && (List.range F.o.l.length).all fun a => decide (0 ≤ restAt F p a)
theorem fair_iff {F : Fld} {p : List Int} : fairB F p = true ↔ Priced F p ∧ ∀ a, a < F.o.l.length → 0 ≤ restAt F p a := by
  unfold fairB
  rw [Bool.and_eq_true, priced_iff]
  simp
theorem fair_like {F G : Fld} (h : G.Like F) (p : List Int) : fairB G p = fairB F p := by
  unfold fairB; rw [prices_like h, h.1]; congr 2; funext a; rw [rest_like h]

end Go.Proofs.Ytjabdcallfipeaa
