/- slices.DeleteFunc in a list of the call's own, for one closure (UnbeatenSites$1). Condition: at most seven numbers; the closure writes nothing old. -/
import Derived.Test.YtddnadipleknoaaWriteI
import Derived.Test.YtddnadipleknoaaSysMem
import Derived.Lib.SliceRun
namespace Go.Proofs.Ytddnadipleknoaa
open Go.RowKit

theorem zeroInt9 (u : World) : (zeroValue 3).run Try.prog u = .ok (.int .i64 0) u := by kernel_rfl
/-- What is kept. -/
def keepL (P : Int → Bool) (l : List Int) : List Int := l.filter fun x => !P x
theorem keep_step {P : Int → Bool} {l : List Int} {j : Nat} (h : j < l.length) : keepL P (l.take (j + 1)) = keepL P (l.take j) ++ (if P l[j] = true then [] else [l[j]]) := by
  unfold keepL
  rw [List.take_succ_eq_append_getElem h, List.filter_append]
  cases hp : P l[j] <;> simp [hp]
theorem keep_none {P : Int → Bool} {l : List Int} (h : ∀ j (hj : j < l.length), P l[j] = false) : keepL P l = l := by
  unfold keepL
  rw [List.filter_eq_self]
  intro x hx
  obtain ⟨j, hj, rfl⟩ := List.mem_iff_getElem.1 hx
  rw [h j hj]; rfl
theorem keep_head {P : Int → Bool} {l : List Int} {p : Nat} (hp : p ≤ l.length) (h : ∀ j (hj : j < p), P (l[j]'(by omega)) = false) : keepL P (l.take p) = l.take p := by
  refine keep_none fun j hj => ?_
  rw [List.length_take] at hj
  rw [List.getElem_take]
  exact h j (by omega)

/-- Some cells of an own row are written over by zeros. -/
theorem row_zeros {a : Option Addr} {c : Nat} {lo hi b : Nat} (ha : a = some ⟨b, 0, none⟩) : ∀ (m k : Nat) (xs : List Int) (W : World), k + m ≤ xs.length → (Row.mk a c xs).Own 3 W → (Row.mk a c xs).In lo hi W →
    ∃ zs : List Int, zs.length = xs.length ∧ zs.take k = xs.take k ∧ (Row.mk a c zs).Own 3 (W.setCells b k (List.replicate m (.int .i64 0))) ∧ (Row.mk a c zs).In lo hi (W.setCells b k (List.replicate m (.int .i64 0))) ∧ Touch lo hi W (W.setCells b k (List.replicate m (.int .i64 0)))
  | 0, k, xs, W, _, ho, hi' => ⟨xs, rfl, rfl, ho, hi', Touch.refl _ _ _⟩
  | m + 1, k, xs, W, hk, ho, hi' => by
    obtain ⟨g', e1, h1, h2, h3, h4, h5, h6, h7, h8⟩ := row_write ho hi' (a := k) (by simp only; omega) 0
    simp only [ha, Option.some.injEq, Addr.mk.injEq, and_true] at e1
    subst e1
    simp only at h6 h7
    obtain ⟨zs, z1, z2, z3, z4, z5⟩ := row_zeros ha m (k + 1) (xs.set k 0) _ (by rw [List.length_set]; omega) h6 h7
    refine ⟨zs, by rw [z1, List.length_set], ?_, z3, z4, (h8.touch hi').trans z5⟩
    have := congrArg (List.take k) z2
    rw [List.take_take, List.take_take, Nat.min_eq_left (by omega), List.take_set_of_le (Nat.le_refl _)] at this
    exact this

theorem owns_take9 {w : World} {B : Nat} {e : TypeId} {g c n m : Nat} {xs : List Value} (h : w.ownsRow B e 1 (.slice (some ⟨g, 0, none⟩) n c) n xs) (hm : m ≤ n) : w.ownsRow B e 1 (.slice (some ⟨g, 0, none⟩) m c) m (xs.take m) := by
  obtain ⟨h1, h2⟩ := h
  refine ⟨by rw [List.length_take]; omega, ?_⟩
  rcases h2 with ⟨h2, _⟩ | ⟨g', cap, cur, e1, hB, hg, hl, hm1, hs, ht⟩
  · cases h2
  · simp only [Value.slice.injEq, Option.some.injEq, Addr.mk.injEq, and_true, true_and] at e1
    obtain ⟨rfl, rfl⟩ := e1
    refine .inr ⟨g, c, cur, rfl, hB, hg, by omega, hm1, hs, ?_⟩
    rw [← ht, List.take_take]; congr 1; omega
theorem row_take9 {r : Row} {lo hi m : Nat} {w : World} (ho : r.Own 3 w) (hi' : r.In lo hi w) (hm : m ≤ r.l.length) (t : Row) (ht : t = ⟨r.a, r.c, r.l.take m⟩) : t.Own 3 w ∧ t.In lo hi w := by
  subst ht
  have hl : (r.l.take m).length = m := by rw [List.length_take]; omega
  by_cases h0 : r.l.take m = []
  · exact ⟨.inl h0, by have := hi'.1; rw [iv_length] at this; exact ⟨by rw [iv_length]; simp only; omega, hi'.2.1, .inl (by simp only; rw [h0]; rfl)⟩⟩
  · have hne : r.l ≠ [] := fun h => h0 (by rw [h]; exact List.take_nil)
    obtain ⟨g, hga, hown⟩ := ho.resolve_left hne
    have h1 := owns_take9 hown hm
    refine ⟨.inr ⟨g, hga, ?_⟩, ?_⟩
    · simp only
      rw [hl, show iv (r.l.take m) = (iv r.l).take m by unfold iv; rw [List.map_take]]
      exact h1
    · obtain ⟨q1, q2, q3⟩ := hi'
      rw [iv_length] at q1
      refine ⟨by rw [iv_length]; simp only; omega, q2, ?_⟩
      rcases q3 with q3 | ⟨b, o, e, a1, a2, a3, a4⟩
      · exact absurd (iv_nil q3) hne
      · refine .inr ⟨b, o, e, a1, a2, a3, fun j x hj => a4 j x ?_⟩
        simp only [iv, List.map_take] at hj
        rw [List.getElem?_take] at hj
        split at hj
        · exact hj
        · cases hj

end Go.Proofs.Ytddnadipleknoaa
