/- The contracts of payments, totals and reaches, on both sides. Condition: Field and set read as such. -/
import Derived.Test.YthabpdfbpdokjaaServe
namespace Go.Proofs.Ythabpdfbpdokjaa
open Go.RowKit

theorem pays_length (o : List Int) (T : List Nat) : (pays o T).length = T.length := by unfold pays; simp
theorem pays_at (o : List Int) (T : List Nat) {i : Nat} (h : i < T.length) : (pays o T)[i]'(by rw [pays_length]; exact h) = o.getD T[i] 0 := by simp [pays]
/-- A valid Field and a valid set, perhaps without sites. -/
structure Able (F : Fld) (s : Row) (T : List Nat) : Prop where
  good : F.good = true
  set : s.l = up T
  lt : ∀ m ∈ T, m < F.o.l.length
  few : T.length ≤ 1048576
theorem able_of {F : Fld} {s : Row} (h1 : F.good = true) (h2 : setB F.o.l.length s.l = true) (h3 : s.l.length ≤ 1048576) : ∃ T, Able F s T := by
  obtain ⟨T, hT, hl⟩ := set_nat h2
  exact ⟨T, h1, hT, hl, by rw [hT, up_length] at h3; exact h3⟩
theorem able_like {F G : Fld} {s t : Row} {T : List Nat} (h : Able F s T) (hl : G.Like F) (hs : t.l = s.l) : Able G t T :=
  ⟨hl.good.trans h.good, hs.trans h.set, fun m hm => by rw [hl.1]; exact h.lt m hm, h.few⟩

/-- What PaymentOf answers. -/
def Pays (F : Fld) (s : Row) (v : Int) (b : Bool) : Prop :=
  ((F.good && setB F.o.l.length s.l) = false ∧ v = 0 ∧ b = false) ∨ (∃ T, Able F s T ∧ F.good = true ∧ setB F.o.l.length s.l = true ∧ v = (pays F.o.l T).sum ∧ b = true)

end Go.Proofs.Ythabpdfbpdokjaa
