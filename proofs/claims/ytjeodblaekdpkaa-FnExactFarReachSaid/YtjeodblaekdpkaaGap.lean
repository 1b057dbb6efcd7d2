/- The gap of two clients: the contracts of both sides, and both sides of GapOf. Condition: the Field reads as such; a valid Field and clients that are there for the gap itself. -/
import Derived.Test.YtjeodblaekdpkaaPairIsMetric
import Derived.IntWalk
namespace Go.Proofs.Ytjeodblaekdpkaa
open Go.RowKit

/-- The least sum of lengths to the first k sites. -/
def gapTo (F : Fld) (i j : Nat) : Nat → Int
  | 0 => 198
  | k + 1 => min (gapTo F i j k) (F.len i k + F.len j k)
def gapA (F : Fld) (i j : Nat) : Int := if i = j then 0 else gapTo F i j F.o.l.length
theorem gapTo_like {F G : Fld} (h : F.Like G) (i j : Nat) : ∀ k, gapTo F i j k = gapTo G i j k
  | 0 => rfl
  | k + 1 => by unfold gapTo; rw [gapTo_like h i j k, len_like h, len_like h]
theorem gapA_like {F G : Fld} (h : F.Like G) (i j : Nat) : gapA F i j = gapA G i j := by unfold gapA; rw [gapTo_like h, h.1]
theorem gapTo_bound {F : Fld} (hg : F.good = true) {i j : Nat} (hi : i < F.t.R.length) (hj : j < F.t.R.length) : ∀ k, 0 ≤ gapTo F i j k ∧ gapTo F i j k ≤ 198
  | 0 => by unfold gapTo; omega
  | k + 1 => by
    have h1 := gapTo_bound hg hi hj k
    have h2 := len_bound hg hi k
    have h3 := len_bound hg hj k
    unfold gapTo; omega
theorem gapA_bound {F : Fld} (hg : F.good = true) {i j : Nat} (hi : i < F.t.R.length) (hj : j < F.t.R.length) : 0 ≤ gapA F i j ∧ gapA F i j ≤ 198 := by
  unfold gapA; split
  · omega
  · exact gapTo_bound hg hi hj _

theorem two_cells {F : Fld} {wA wr : World} (hF : F.At wA) (hg : F.good = true) (hd : DrewTo wA wr) {i j : Nat} (hi : i < F.t.R.length) (hj : j < F.t.R.length) :
    ∃ b o bi oi ci bj oj cj, F.t.a = some ⟨b, o, none⟩ ∧ wr.cell? ⟨b, o + i, none⟩ = some (.slice (some ⟨bi, oi, none⟩) F.o.l.length ci) ∧ wr.cell? ⟨b, o + j, none⟩ = some (.slice (some ⟨bj, oj, none⟩) F.o.l.length cj) ∧ (∀ m, m < F.o.l.length → wr.cell? ⟨bi, oi + m, none⟩ = some (.int .i64 (F.len i m))) ∧ ∀ m, m < F.o.l.length → wr.cell? ⟨bj, oj + m, none⟩ = some (.int .i64 (F.len j m)) := by
  obtain ⟨b, o, bi, oi, ci, h1, h2, h3⟩ := row_cells hF hg hd hi
  obtain ⟨b', o', bj, oj, cj, k1, k2, k3⟩ := row_cells hF hg hd hj
  rw [h1] at k1
  simp only [Option.some.injEq, Addr.mk.injEq, and_true] at k1
  obtain ⟨rfl, rfl⟩ := k1
  exact ⟨b, o, bi, oi, ci, bj, oj, cj, h1, h2, k2, h3, k3⟩

end Go.Proofs.Ytjeodblaekdpkaa
