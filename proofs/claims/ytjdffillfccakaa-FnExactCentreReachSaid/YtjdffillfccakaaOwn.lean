/- The contracts of the model's copies of lists and Fields. Condition: a valid Field. -/
import Derived.Test.YtjdffillfccakaaMapField
namespace Go.Proofs.Ytjdffillfccakaa
open Go.RowKit

set_option maxHeartbeats 1000000 in
theorem l1Own_any (r : Row) (w : World) (hr : r.At w) (h0 : 0 < r.l.length) (hn : r.l.length ≤ 1048576) :
    Calls Try.prog 43 #[.slice r.a r.l.length r.c] w fun e w' => ∃ t : Row, e = .returned (.slice t.a t.l.length t.c) ∧ t.l = r.l ∧ t.Own 3 w' ∧ t.In w.heap.size w'.heap.size w' ∧ Below w.heap.size w w' := by
  obtain ⟨i0, hi, hz0, hz1, hz2⟩ := info_parts infoInt
  obtain ⟨a, c, l⟩ := r
  obtain ⟨h1, h2, h3⟩ := hr
  simp only at h1 h2 h3 h0 hn ⊢
  rcases h3 with h3 | ⟨b, o, rfl, hb, hcell⟩
  · have h3' := congrArg List.length (iv_nil h3); rw [List.length_nil] at h3'; omega
  have H0 := empty_own w
  have HB0 := below_alloc w (.cells #[] 3)
  have hnews : ∀ j u, (iv l)[j]? = some u → (w.alloc (.cells #[] 3)).cell? ((⟨b, o, none⟩ : Addr).add j) = some u := fun j u hj => by
    rw [show (⟨b, o, none⟩ : Addr).add j = ⟨b, o + j, none⟩ by unfold Addr.add; split <;> simp_all]
    exact (HB0.cell (p := ⟨b, o + j, none⟩) hb).trans (hcell j u hj)
  have hone : ∀ u ∈ iv l, u.oneCell' = true := fun u hu => by unfold iv at hu; obtain ⟨y, _, rfl⟩ := List.mem_map.1 hu; rfl
  have HN := Lib.hid hnews
  have HO := Lib.hid hone
  have HZ := Lib.hid H0
  have HBB := Lib.hid HB0
  clear hnews hone hcell H0 HB0
  go_enter Try.func43, Try.ntmps43
  go_wp2_with (at_builtin; refine wpList_append_own _ rfl _ _ 22 rfl w.heap.size 3 i0 (.int .i64 0) 1 8 Try.underlying22 hi hz0 hz1 hz2 rfl (by decide) _ 0 (iv []) rfl HZ.out ⟨b, o, none⟩ l.length c (iv l) rfl (by rw [iv_length]; omega) HN.out HO.out (by unfold maxLen; omega) (by omega) (by rw [size_alloc]; omega) ?_; intro v' w1 hown' hgrow _)
  have R1 : w1.ownsRow w.heap.size 3 1 v' l.length (iv l) := by simpa [iv] using hown'
  have R2 : Below w.heap.size w w1 := HBB.out.grown hgrow (by rw [size_alloc]; omega) (fun j hj => (HZ.out.lt j hj).1)
  clear hown' hgrow
  go_wp2
  go_ret
  obtain ⟨t, ht, htl, hto, hti⟩ := row_of_own R1
  exact ⟨t, congrArg Ending.returned ht, htl, hto, hti, R2⟩

end Go.Proofs.Ytjdffillfccakaa
