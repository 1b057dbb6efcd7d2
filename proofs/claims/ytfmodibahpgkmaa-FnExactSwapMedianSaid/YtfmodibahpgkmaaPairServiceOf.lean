/- Both sides of ServiceOf answer alike. Condition: Field and set read as such. -/
import Derived.Test.YtfmodibahpgkmaaServe
namespace Go.Proofs.Ytfmodibahpgkmaa
open Go.RowKit
theorem fine_like {F G : Fld} {s t : Row} {T : List Nat} (h : Fine F s T) (hl : G.Like F) (hs : t.l = s.l) : Fine G t T :=
  ⟨hl.good.trans h.good, hs.trans h.set, h.some, fun m hm => by rw [hl.1]; exact h.lt m hm⟩
theorem serviceOf_pair (F : Fld) (s : Row) (_ : F.Small) (_ : s.l.length ≤ 1048576) : ∃ (v : Int) (b : Bool),
    (∀ (G : Fld) (t : Row) (W : World), G.At W → t.At W → G.Like F → t.l = s.l → Calls Try.prog 16 #[G.val, .slice t.a t.l.length t.c] W (PInt v b W)) ∧
    (∀ (G : Fld) (t : Row) (W : World), G.At W → t.At W → G.Like F → t.l = s.l → Calls Try.prog 19 #[G.val, .slice t.a t.l.length t.c] W (PInt v b W)) := by
  by_cases h : twoB F s = true
  · obtain ⟨T, hf⟩ := fine_of h
    refine ⟨(lens F.t.con T).sum, true, fun G t W hG ht hl hs => ?_, fun G t W hG ht hl hs => ?_⟩
    · exact specService_any G t W hG ht _ _ (.inr ⟨T, fine_like hf hl hs, by rw [twoB_like hl hs, h], by rw [hl.2], rfl⟩)
    · exact implService_any G t W hG ht _ _ (.inr ⟨T, fine_like hf hl hs, by rw [twoB_like hl hs, h], by rw [hl.2], rfl⟩)
  · have h' : twoB F s = false := by simpa using h
    exact ⟨0, false, fun G t W hG ht hl hs => specService_any G t W hG ht _ _ (.inl ⟨by rw [twoB_like hl hs, h'], rfl, rfl⟩), fun G t W hG ht hl hs => implService_any G t W hG ht _ _ (.inl ⟨by rw [twoB_like hl hs, h'], rfl, rfl⟩)⟩
end Go.Proofs.Ytfmodibahpgkmaa
