/- The contract of the program's ScaleField. Condition: the Field reads as such. -/
import Derived.Test.YtfgedolngcdjpaaWrite
namespace Go.Proofs.Ytfgedolngcdjpaa
open Go.RowKit

def mkF (o : List Int) (d : List (List Int)) : Fld := ⟨⟨none, 0, o⟩, ⟨none, 0, d.map fun l => ⟨none, 0, l⟩⟩⟩
theorem mkF_con (o : List Int) (d : List (List Int)) : (mkF o d).t.con = d := by
  show (d.map fun l => (⟨none, 0, l⟩ : Row)).map Row.l = d
  rw [List.map_map]; exact List.map_id d
def timesF (F : Fld) (k : Int) : Fld := mkF (F.o.l.map fun x => x * k) (F.t.con.map (List.map fun x => x * k))
def zeroF : Fld := mkF [] []
/-- What ScaleField answers. -/
def ScaleIs (F : Fld) (k : Int) (K : Fld) (b : Bool) : Prop :=
  ((F.good = false ∨ k < 1) ∧ K = zeroF ∧ b = false) ∨ (F.good = true ∧ 1 ≤ k ∧ (timesF F (min k 100)).good = false ∧ K = zeroF ∧ b = false) ∨
  (F.good = true ∧ 1 ≤ k ∧ (timesF F (min k 100)).good = true ∧ K = timesF F (min k 100) ∧ b = true)
theorem zero_end {w w' : World} (hb : Below w.heap.size w w') : PFld zeroF false w (.returned (.tuple #[.agg #[.slice none 0 0, .slice none 0 0], .bool false])) w' :=
  ⟨⟨⟨none, 0, []⟩, ⟨none, 0, []⟩⟩, rfl, ⟨rfl, rfl⟩, ⟨⟨by simp [Row.Own], List.pairwise_singleton _ _⟩, by intro r hr x y h1 h2; exact absurd rfl h2⟩, ⟨⟨by simp [iv], by decide, .inl rfl⟩, ⟨⟨by simp [tv], by decide, .inl rfl⟩, by simp⟩⟩, hb⟩
theorem like_good {G K : Fld} (h1 : G.o.l = K.o.l) (h2 : G.t.con = K.t.con) : G.good = K.good := Fld.Like.good ⟨h1, h2⟩

end Go.Proofs.Ytfgedolngcdjpaa
