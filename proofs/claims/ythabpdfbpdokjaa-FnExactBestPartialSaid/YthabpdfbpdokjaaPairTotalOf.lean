/- The contracts of totals and reaches, on both sides. Condition: Field and set read as such. -/
import Derived.Test.YthabpdfbpdokjaaPairServiceOf
import Derived.Test.YthabpdfbpdokjaaPairPaymentOf
import Derived.IntWalk
namespace Go.Proofs.Ythabpdfbpdokjaa
open Go.RowKit

/-- What TotalOf answers. -/
def Totals (F : Fld) (s : Row) (v : Int) (b : Bool) : Prop :=
  (twoB F s = false ∧ v = 0 ∧ b = false) ∨ (∃ T, Fine F s T ∧ Able F s T ∧ twoB F s = true ∧ v = (lens F.t.con T).sum + (pays F.o.l T).sum ∧ b = true)
theorem total_bounds {F : Fld} {s : Row} {T : List Nat} (h : Fine F s T) (ha : Able F s T) : 0 ≤ (lens F.t.con T).sum ∧ (lens F.t.con T).sum ≤ 693 ∧ 0 ≤ (pays F.o.l T).sum ∧ (pays F.o.l T).sum ≤ 103809024 := by
  have h1 := sum_bound (lens_bound h.good T)
  have h2 := sum_bound (pays_bound h.good T)
  rw [lens_length] at h1
  rw [pays_length] at h2
  have := good_sizes h.good
  have := ha.few
  omega

theorem totals_like {F G : Fld} {s t : Row} {v : Int} {b : Bool} (h : Totals F s v b) (hl : G.Like F) (hs : t.l = s.l) : Totals G t v b := by
  rcases h with ⟨h1, h2, h3⟩ | ⟨T, h1, h2, h3, h4, h5⟩
  · exact .inl ⟨by rw [twoB_like hl hs, h1], h2, h3⟩
  · exact .inr ⟨T, fine_like h1 hl hs, able_like h2 hl hs, by rw [twoB_like hl hs, h3], by rw [hl.1, hl.2]; exact h4, h5⟩
theorem totals_some (F : Fld) (s : Row) (hs : s.l.length ≤ 1048576) : ∃ (v : Int) (b : Bool), Totals F s v b := by
  by_cases h : twoB F s = true
  · obtain ⟨T, hf⟩ := fine_of h
    exact ⟨_, _, .inr ⟨T, hf, ⟨hf.good, hf.set, hf.lt, by have := congrArg List.length hf.set; rw [up_length] at this; omega⟩, h, rfl, rfl⟩⟩
  · exact ⟨_, _, .inl ⟨by simpa using h, rfl, rfl⟩⟩
end Go.Proofs.Ythabpdfbpdokjaa
