/- The contract of the model's median. Condition: a valid Field. -/
import Derived.Test.YtemflcegkebloaaPlainLeast
import Derived.Test.YtemflcegkebloaaSetsOf
namespace Go.Proofs.Ytemflcegkebloaa
open Go.RowKit

/-- The service of a set of sites. -/
def servT (F : Fld) (T : List Nat) : Int := (lens F.t.con T).sum
theorem servT_bounds {F : Fld} (h : F.good = true) (T : List Nat) : 0 ≤ servT F T ∧ servT F T ≤ 693 := by
  have h1 := sum_bound (lens_bound h T)
  rw [lens_length] at h1
  have := good_sizes h
  unfold servT; omega
theorem l2Serve_servT (F : Fld) (t : Row) (T : List Nat) (u : World) (hF : F.At u) (ht : t.At u) (hg : F.good = true) (htl : t.l = up T) (h0 : T ≠ []) (hlt : ∀ m ∈ T, m < F.o.l.length) :
    Calls Try.prog 49 #[F.val, .slice t.a t.l.length t.c] u fun e w' => e = .returned (.int .i64 (servT F T)) ∧ Below u.heap.size u w' :=
  l2Serve_any F t T u hF ht ⟨hg, htl, List.length_pos_iff.2 h0, hlt⟩

/-- The best row so far. -/
structure Best1 (B : Nat) (w : World) (y : Row) (T : List Nat) : Prop where
  l : y.l = up T
  own : y.Own 3 w
  ins : y.In B w.heap.size w
theorem Best1.on {B : Nat} {w w' : World} {y : Row} {T : List Nat} (h : Best1 B w y T) (t : Below w.heap.size w w') : Best1 B w' y T := ⟨h.l, h.own.on t, (h.ins.on t).wide (Nat.le_refl _) t.size⟩

end Go.Proofs.Ytemflcegkebloaa
