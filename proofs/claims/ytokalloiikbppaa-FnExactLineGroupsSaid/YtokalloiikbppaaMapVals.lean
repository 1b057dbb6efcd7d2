/- The contracts of the mapping of a list of numbers by a function of the program, one for each such function. Condition: the list reads as such, the function has its contract. -/
import Derived.Test.YtokalloiikbppaaGrow
import Derived.Test.YtokalloiikbppaaClaims
namespace Go.Proofs.Ytokalloiikbppaa
open Go.RowKit

set_option maxRecDepth 8000 in
set_option maxHeartbeats 1000000 in
theorem mapVals_copy (r : Row) (gb : Nat) (φ : Int → Int) (w : World) (hr : r.At w) (hs : r.l.length ≤ 7) (hgb : w.cell? ⟨gb, 0, none⟩ = some (.func (.func 107) #[] #[]))
    (hP : ∀ x ∈ r.l, ∀ u, Below w.heap.size w u → Calls Try.prog 107 #[.int .i64 x] u fun e w' => e = .returned (.int .i64 (φ x)) ∧ Below u.heap.size u w') :
    Calls Try.prog 121 #[.slice r.a r.l.length r.c, .pointer (some ⟨gb, 0, none⟩)] w fun e w' => ∃ t : Row, e = .returned (.slice t.a t.l.length t.c) ∧ t.l = r.l.map φ ∧ t.Own 3 w' ∧ t.In w.heap.size w'.heap.size w' ∧ Below w.heap.size w w' := by
  obtain ⟨i0, hi, hz0, hz1, hz2⟩ := info_parts infoInt
  obtain ⟨a, c, l⟩ := r
  obtain ⟨h1, h2, h3⟩ := hr
  simp only at h1 h2 h3 hP hs ⊢
  have hni : (l.length : Int) ≤ 7 := by omega
  have HR := Lib.hid h3
  have HP := Lib.hid hP
  have H0 := Lib.hid (empty_own w)
  have HB0 := Lib.hid (below_alloc w (.cells #[] 3))
  have hgl := World.block_lt_of_cell? _ _ hgb
  have HGB := Lib.hid hgb
  clear h3 hP hgb
  go_enter Try.func121, Try.ntmps121
  go_wp2
  go_loopw [4, 6, 10] (fun out _ i wr => ∃ k : Nat, k ≤ l.length ∧ i = .int .i64 k ∧ wr.ownsRow w.heap.size 3 1 out k (iv ((l.map φ).take k)) ∧ Below w.heap.size w wr) (fun _ _ i _ => l.length - (intOf i).toNat)
  case atStart => exact ⟨0, Nat.zero_le _, rfl, by rw [List.take_zero]; exact H0.out, HB0.out⟩
  case round =>
    obtain ⟨k, hk, rfl, hown0, hnx⟩ := hrel
    by_cases hlt : k < l.length
    · have hlti : (k : Int) < (l.length : Int) := by omega
      rcases HR.out with h3 | ⟨b, o, rfl, hb, hcell⟩
      · have h3' := congrArg List.length (iv_nil h3); rw [List.length_nil] at h3'; omega
      obtain ⟨x, hx⟩ : ∃ x, x = l[k] := ⟨_, rfl⟩
      have hcl : wr.cell? ⟨b, o + k, none⟩ = some (.int .i64 x) := (hnx.cell (p := ⟨b, o + k, none⟩) hb).trans (by rw [hx]; exact hcell k _ (iv_at hlt))
      have hcf : wr.cell? ⟨gb, 0, none⟩ = some (.func (.func 107) #[] #[]) := (hnx.cell (p := ⟨gb, 0, none⟩) hgl).trans HGB.out
      obtain ⟨v, hv⟩ : ∃ v, v = φ x := ⟨_, rfl⟩
      have CP := Lib.hid (by have := HP.out x (by rw [hx]; exact List.getElem_mem hlt) wr hnx; rw [← hv] at this; exact this : Calls Try.prog 107 #[.int .i64 x] wr fun e w' => e = .returned (.int .i64 v) ∧ Below wr.heap.size wr w')
      have HL : Hid ((l.map φ).take (k + 1) = (l.map φ).take k ++ [v]) := Lib.hid (by
        rw [List.take_succ_eq_append_getElem (by simpa using hlt)]; simp [hv, hx])
      have HKL : Hid (((l.map φ).take k).length = k) := Lib.hid (by simp; omega)
      have HO := Lib.hid hown0
      have HN := Lib.hid hnx
      have hszr := hnx.size
      clear hx hcell hv hown0 hnx
      go_wp2_with fail
      refine (show Calls _ _ _ _ _ from CP.out).mono ?_
      rintro e W1 ⟨rfl, hb1⟩
      have hnx1 := HN.out.trans (hb1.mono hszr)
      have hown := owns_below HO.out hb1
      have hsz1 := hb1.size
      clear hb1 hcl hcf
      go_wp2_with (at_builtin; refine wpList_append_own _ rfl _ _ 22 rfl w.heap.size 3 i0 (.int .i64 0) 1 8 Try.underlying22 hi hz0 hz1 hz2 rfl (by decide) _ _ _ rfl (hown.alloc _) ⟨W1.heap.size, 0, none⟩ 1 1 [.int .i64 v] rfl rfl (one_cell _ _ _) (by simp [Value.oneCell']) (by unfold maxLen; omega) (by omega) (by simp; omega) ?_; intro v' w1 hown' hgrow _)
      have R1 : w1.ownsRow w.heap.size 3 1 v' (k + 1) (iv ((l.map φ).take (k + 1))) := by rw [HL.out]; simpa [iv] using hown'
      have R2 : Below w.heap.size w w1 := (hnx1.alloc (by omega) _).grown hgrow (by simp; omega) (fun j hj => (hown.lt j hj).1)
      clear hown' hgrow hown hnx1
      go_wp2
      go_roundw
      case rel => exact ⟨k + 1, by omega, by go_num, R1, R2⟩
      case measure => simp [intOf]; omega
    · obtain rfl : k = l.length := by omega
      have HT : Hid ((l.map φ).take l.length = l.map φ) := Lib.hid (List.take_of_length_le (by simp))
      rw [HT.out] at hown0
      go_wp2
      go_ret
      obtain ⟨t, ht, htl, hto, hti⟩ := row_of_ownN (by simp) hown0
      exact ⟨t, congrArg Ending.returned ht, htl, hto, hti, hnx⟩

theorem copy1_any (x : Int) (w : World) : Calls Try.prog 107 #[.int .i64 x] w fun e w' => e = .returned (.int .i64 (id x)) ∧ Below w.heap.size w w' := by
  go_enter Try.func107, Try.ntmps107
  go_wp2
  go_ret
  exact ⟨rfl, Below.refl _ _⟩
end Go.Proofs.Ytokalloiikbppaa
