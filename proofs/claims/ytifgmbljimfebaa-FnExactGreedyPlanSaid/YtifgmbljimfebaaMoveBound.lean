/- Bounds of the cost of a move. Condition: a valid Season, a round of it, sets of its sites, the second of which may be that of the round. -/
import Derived.Test.YtifgmbljimfebaaMoveTools
namespace Go.Proofs.Ytifgmbljimfebaa
open Go.RowKit Go.Shelf

theorem row_cell {r : Row} {w : World} (hr : r.At w) {k : Nat} (hk : k < r.l.length) : ∃ b o, r.a = some ⟨b, o, none⟩ ∧ w.cell? ⟨b, o + k, none⟩ = some (.int .i64 (r.l.getD k 0)) := by
  obtain ⟨_, _, h3⟩ := hr
  rcases h3 with h3 | ⟨b, o, ha, hb, hc⟩
  · have := congrArg List.length (iv_nil h3); rw [List.length_nil] at this; omega
  · exact ⟨b, o, ha, by rw [getD_at hk]; exact hc k _ (iv_at hk)⟩
theorem Moves.parts {S : Sea} {i : Nat} {s t : Row} {B T : List Nat} (h : Moves S i s t B T) :
    S.o.l.all (upTo 99) = true ∧ S.x.l.all (upTo 99) = true ∧ S.k.l.all (upTo 99) = true ∧ S.x.l.length = S.o.l.length ∧ S.k.l.length = S.o.l.length ∧ (S.r.con.getD i []).length ≤ 5 ∧ (S.r.con.getD i []).all (rowB S.o.l.length) = true := by
  obtain ⟨_, ⟨h1, h2, h3⟩, ⟨h4, h5⟩, _, h6⟩ := sea_costs h.good
  have hi : i < S.r.con.length := by rw [Cube.con_length]; exact h.round
  have := h6 (S.r.con.getD i []) (by rw [List.getD_eq_getElem?_getD, List.getElem?_eq_getElem hi]; exact List.getElem_mem hi)
  exact ⟨h1, h2, h3, h4, h5, this.1, this.2⟩
theorem lens_sum_bound {l : List Int} {d : List (List Int)} (h : goodB l d = true) (hd : d.length ≤ 5) (T : List Nat) : 0 ≤ (lens d T).sum ∧ (lens d T).sum ≤ 495 := by
  have h5 := (goodB_iff.1 h).2.2.2.2
  have := sum_bound (l := lens d T) (fun x hx => by
    unfold lens at hx
    obtain ⟨row, hr, rfl⟩ := List.mem_map.1 hx
    have := (rowB_iff.1 (List.all_eq_true.1 h5 row hr)).1
    exact getD99 this _)
  have e : (lens d T).length = d.length := by unfold lens; simp
  rw [e] at this
  omega
theorem pays_sum_bound {l : List Int} (h : l.all (upTo 99) = true) {U : List Nat} (hU : U.length ≤ 5) : 0 ≤ (pays l U).sum ∧ (pays l U).sum ≤ 495 := by
  have := sum_bound (l := pays l U) (fun x hx => by
    unfold pays at hx
    obtain ⟨m, _, rfl⟩ := List.mem_map.1 hx
    exact getD99 h _)
  rw [pays_length] at this
  omega
theorem moveC_bound {S : Sea} {i : Nat} {s t : Row} {B T : List Nat} (h : Moves S i s t B T) : 0 ≤ moveC S.o.l S.x.l S.k.l (S.r.con.getD i []) B T ∧ moveC S.o.l S.x.l S.k.l (S.r.con.getD i []) B T ≤ 1980 := by
  obtain ⟨h1, h2, h3, h4, h5, h6, h7⟩ := h.parts
  obtain ⟨_, _, l1, l2, l3, l4⟩ := h.lens
  have a1 := pays_sum_bound h1 (U := lessT T B) (by have := less_len T B; omega)
  have a2 := pays_sum_bound h2 (U := lessT B T) (by have := less_len B T; omega)
  have a3 := pays_sum_bound h3 (U := T) (by omega)
  have a4 := lens_sum_bound (good_round l3 l4 h1 h6 h7) h6 T
  unfold moveC; omega


end Go.Proofs.Ytifgmbljimfebaa
