/- The contracts of serving: the sites that serve, their lengths, sums and payments, on both sides. Condition: a valid Field and a valid set with at least one site. -/
import Derived.Test.YtddnadipleknoaaNear
import Derived.Test.YtddnadipleknoaaPost
import Derived.WalkKit
import Derived.WalkSpells
namespace Go.Proofs.Ytddnadipleknoaa
open Go.RowKit

theorem one_cell (w : World) (x : Value) (e : TypeId) : ∀ j u, [x][j]? = some u → (w.alloc (.cells #[x] e)).cell? ((⟨w.heap.size, 0, none⟩ : Addr).add j) = some u := by
  intro j u hj
  match j, hj with
  | 0, hj => simp at hj; subst hj; simp [Addr.add]
theorem own_snoc {w1 : World} {B n : Nat} {v : Value} {l : List Int} {x : Int} (hn : n = l.length) (h : w1.ownsRow B 3 1 v (n + 1) (iv l ++ [Value.int .i64 x])) : w1.ownsRow B 3 1 v (l ++ [x]).length (iv (l ++ [x])) := by
  subst hn; simpa [iv] using h
theorem row_of_own {w : World} {B : Nat} {e : TypeId} {v : Value} {l : List Int} (h : w.ownsRow B e 1 v l.length (iv l)) : ∃ t : Row, v = .slice t.a t.l.length t.c ∧ t.l = l ∧ t.Own e w ∧ t.In B w.heap.size w := by
  rcases id h.2 with ⟨rfl, h0⟩ | ⟨g, cap, cur, rfl, hB, _⟩
  · have hl : l = [] := List.eq_nil_of_length_eq_zero h0
    subst hl
    exact ⟨⟨none, 0, []⟩, rfl, rfl, .inl rfl, ⟨by simp [iv], by decide, .inl rfl⟩⟩
  · refine ⟨⟨some ⟨g, 0, none⟩, cap, l⟩, rfl, rfl, .inr ⟨g, rfl, owns_base h⟩, ?_⟩
    obtain ⟨q1, q2, q3⟩ := row_of_owns h
    refine ⟨q1, q2, ?_⟩
    rcases q3 with q3 | ⟨b, o, e0, hb, hc⟩
    · exact .inl q3
    · simp only [Option.some.injEq, Addr.mk.injEq] at e0
      obtain ⟨rfl, rfl, _⟩ := e0
      exact .inr ⟨_, _, rfl, hB, hb, hb, hc⟩
theorem ints_end {w w' : World} {B n : Nat} {v : Value} {l : List Int} {b : Bool} (hn : n = l.length) (h : w'.ownsRow B 3 1 v n (iv l)) (hB : w.heap.size ≤ B) (hb : Below w.heap.size w w') :
    PInts l b w (.returned (.tuple #[v, .bool b])) w' := by
  subst hn
  obtain ⟨t, rfl, htl, hto, hti⟩ := row_of_own h
  exact ⟨t, rfl, htl, hto, hti.wide hB (Nat.le_refl _), hb⟩
theorem empty_own (w : World) : (w.alloc (.cells #[] 3)).ownsRow w.heap.size 3 1 (.slice (some ⟨w.heap.size, 0, none⟩) 0 0) 0 (iv []) := World.ownsRow_made w #[] 0 (Nat.le_refl _) (by decide) rfl

/-- What is asked of a Field and a set. -/
structure Fine (F : Fld) (s : Row) (T : List Nat) : Prop where
  good : F.good = true
  set : s.l = up T
  some : 0 < T.length
  lt : ∀ m ∈ T, m < F.o.l.length
theorem fine_of {F : Fld} {s : Row} (h : twoB F s = true) : ∃ T, Fine F s T := by
  obtain ⟨h1, h2, h3⟩ := twoB_iff.1 h
  obtain ⟨T, hT, hl⟩ := set_nat h2
  exact ⟨T, h1, hT, by rw [hT, up_length] at h3; exact h3, hl⟩

theorem lens_length (F : Fld) (T : List Nat) : (lens F.t.con T).length = F.t.R.length := by unfold lens Tab.con; simp
theorem lens_at (F : Fld) (T : List Nat) {i : Nat} (h : i < F.t.R.length) : (lens F.t.con T)[i]'(by rw [lens_length]; exact h) = F.t.R[i].l.getD (near F.t.R[i].l T) 0 := by simp [lens, Tab.con]
theorem served_length (F : Fld) (T : List Nat) : (served F.t.con T).length = F.t.R.length := by unfold served Tab.con; simp
theorem served_at (F : Fld) (T : List Nat) {i : Nat} (h : i < F.t.R.length) : (served F.t.con T)[i]'(by rw [served_length]; exact h) = ((near F.t.R[i].l T : Nat) : Int) := by simp [served, Tab.con]
theorem lens_bound {F : Fld} (h : F.good = true) (T : List Nat) : ∀ x ∈ lens F.t.con T, 0 ≤ x ∧ x ≤ 99 := by
  intro x hx
  unfold lens at hx
  obtain ⟨row, hr, rfl⟩ := List.mem_map.1 hx
  obtain ⟨r, hr', rfl⟩ := List.mem_map.1 hr
  exact getD_bound (good_row h hr').2 _
theorem pays_bound {F : Fld} (h : F.good = true) (T : List Nat) : ∀ x ∈ pays F.o.l T, 0 ≤ x ∧ x ≤ 99 := by
  intro x hx
  unfold pays at hx
  obtain ⟨m, _, rfl⟩ := List.mem_map.1 hx
  exact getD_bound (good_open h) _
theorem take_bound {l : List Int} (h : ∀ x ∈ l, 0 ≤ x ∧ x ≤ 99) (k : Nat) : 0 ≤ (l.take k).sum ∧ (l.take k).sum ≤ 99 * k := by
  have := sum_bound (l := l.take k) fun x hx => h x (List.mem_of_mem_take hx)
  rw [List.length_take] at this
  omega

end Go.Proofs.Ytddnadipleknoaa
