/- The contracts of the tests whether a site replaces another one, on both sides. Condition: a valid Field and two of its sites. -/
import Derived.Test.YtfiijfgclfoeoaaServe
import Derived.Test.YtfiijfgclfoeoaaPlainNeeded
namespace Go.Proofs.Ytfiijfgclfoeoaa
open Go.RowKit

/-- What a Field's cells hold, in a world that has only drawn since. -/
structure Cells (F : Fld) (wA wr : World) (n : Nat) (g : Nat) : Prop where
  o : ∃ b o, F.o.a = some ⟨b, o, none⟩ ∧ ∀ m, m < n → wr.cell? ⟨b, o + m, none⟩ = some (.int .i64 (F.o.l.getD m 0))
  t : ∀ i (h : i < F.t.R.length), ∃ b o b' o', F.t.a = some ⟨b, o, none⟩ ∧ F.t.R[i].a = some ⟨b', o', none⟩ ∧ wr.cell? ⟨b, o + i, none⟩ = some (.slice (some ⟨b', o', none⟩) F.t.R[i].l.length F.t.R[i].c) ∧ F.t.R[i].l.length = n ∧ ∀ m, m < n → wr.cell? ⟨b', o' + m, none⟩ = some (.int .i64 (F.t.R[i].l.getD m 0))
theorem cells_of {F : Fld} {wA wr : World} {g : Nat} (hF : F.At wA) (hg : F.good = true) (hd : DrewTo wA wr) : Cells F wA wr F.o.l.length g := by
  have h1 := good_sizes hg
  constructor
  · obtain ⟨_, _, h3⟩ := hF.1
    rcases h3 with h3 | ⟨b, o, ha, _, hc⟩
    · have h3' := congrArg List.length (iv_nil h3); rw [List.length_nil] at h3'; omega
    · exact ⟨b, o, ha, fun m hm => by rw [hd.cell, getD_at hm]; exact hc m _ (iv_at hm)⟩
  · intro i hi
    obtain ⟨_, _, h3⟩ := hF.2.1
    rcases h3 with h3 | ⟨b, o, ha, _, hc⟩
    · have h3' := congrArg List.length h3; rw [tv_length, List.length_nil] at h3'; omega
    have hm := List.getElem_mem hi
    obtain ⟨hl, _⟩ := good_row hg hm
    obtain ⟨_, _, g3⟩ := hF.2.2 _ hm
    rcases g3 with g3 | ⟨b', o', ha', _, hc'⟩
    · have g3' := congrArg List.length (iv_nil g3); rw [List.length_nil] at g3'; omega
    refine ⟨b, o, b', o', ha, ha', ?_, hl, fun m hm' => ?_⟩
    · rw [hd.cell, ← ha']; exact hc i _ (tv_at hi)
    · rw [← hl] at hm'; rw [hd.cell, getD_at hm']; exact hc' m _ (iv_at hm')

theorem beq_int (x y : Int) : (x == y) = decide (x = y) := by rw [Bool.eq_iff_iff]; simp
theorem con_all_take (F : Fld) (p : List Int → Bool) {k : Nat} (h : k < F.t.R.length) (ht : (F.t.con.take k).all p = true) (hp : p F.t.R[k].l = true) : (F.t.con.take (k + 1)).all p = true :=
  all_take (by rw [con_length]; exact h) ht (by rw [con_at F.t h]; exact hp)
theorem con_all_out (F : Fld) (p : List Int → Bool) {k : Nat} (h : k < F.t.R.length) (hp : p F.t.R[k].l = false) : F.t.con.all p = false :=
  all_out (k := k) (by rw [con_length]; exact h) (by rw [con_at F.t h]; exact hp)
theorem con_alike_step (F : Fld) {k : Nat} {a b : Nat} {u v : Bool} (h : k < F.t.R.length) (hv : v = (u && (F.t.con.take k).all (alike a b))) : (v && alike a b F.t.R[k].l) = (u && (F.t.con.take (k + 1)).all (alike a b)) := by
  have := alike_step (k := k) (by rw [con_length]; exact h) hv
  rw [con_at F.t h] at this; exact this

end Go.Proofs.Ytfiijfgclfoeoaa
