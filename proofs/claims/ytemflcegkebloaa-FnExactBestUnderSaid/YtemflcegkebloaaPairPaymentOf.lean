/- Both sides of PaymentOf answer alike. Condition: Field and set read as such. -/
import Derived.Test.YtemflcegkebloaaPay
import Derived.Test.YtemflcegkebloaaPost
namespace Go.Proofs.Ytemflcegkebloaa
open Go.RowKit
theorem pays_like {F G : Fld} {s t : Row} {v : Int} {b : Bool} (h : Pays F s v b) (hl : G.Like F) (hs : t.l = s.l) : Pays G t v b := by
  rcases h with ⟨h1, h2, h3⟩ | ⟨T, hT, h1, h2, h3, h4⟩
  · exact .inl ⟨by rw [hl.good, hl.1, hs]; exact h1, h2, h3⟩
  · exact .inr ⟨T, able_like hT hl hs, hl.good.trans h1, by rw [hl.1, hs]; exact h2, by rw [hl.1]; exact h3, h4⟩
theorem pays_some (F : Fld) (s : Row) (hs : s.l.length ≤ 1048576) : ∃ (v : Int) (b : Bool), Pays F s v b := by
  by_cases h : F.good = true ∧ setB F.o.l.length s.l = true
  · obtain ⟨T, hT⟩ := able_of h.1 h.2 hs
    exact ⟨_, _, .inr ⟨T, hT, h.1, h.2, rfl, rfl⟩⟩
  · exact ⟨_, _, .inl ⟨by cases h1 : F.good <;> cases h2 : setB F.o.l.length s.l <;> simp_all, rfl, rfl⟩⟩
end Go.Proofs.Ytemflcegkebloaa
