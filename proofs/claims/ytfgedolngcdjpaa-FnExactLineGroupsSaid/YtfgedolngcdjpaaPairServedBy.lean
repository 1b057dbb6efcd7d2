/- Both sides of ServedBy answer alike. Condition: Field and set read as such. -/
import Derived.Test.YtfgedolngcdjpaaPairServiceOf
namespace Go.Proofs.Ytfgedolngcdjpaa
open Go.RowKit

/-- What ServedBy answers. -/
def Serveds (F : Fld) (s : Row) (l : List Int) (b : Bool) : Prop :=
  (twoB F s = false ∧ l = [] ∧ b = false) ∨ (∃ T, Fine F s T ∧ twoB F s = true ∧ l = served F.t.con T ∧ b = true)

set_option maxHeartbeats 1000000 in
theorem implServed_any (F : Fld) (s : Row) (w : World) (hF : F.At w) (hs : s.At w) (l : List Int) (b : Bool) (hv : Serveds F s l b) :
    Calls Try.prog 49 #[F.val, .slice s.a s.l.length s.c] w (PInts l b w) := by
  obtain ⟨i0, hi, hz0, hz1, hz2⟩ := info_parts infoInt
  obtain ⟨wA, hA, hbA, bx, hFA, hszA⟩ := laid_fld F w 37 hF
  have HSA := Lib.hid (hs.on hbA)
  have HFA := Lib.hid hFA
  have HBX := Lib.hid bx
  have HA := Lib.hid hA
  have CT := Lib.hid (canServe_any F s wA hFA HSA.out)
  clear hF hs hA hFA bx
  show Calls _ _ #[.agg #[F.o.val, F.t.val], _] w _
  go_enter Try.func49, Try.ntmps49
  go_wp2_with fail
  rw [show w.alloc (Obj.cells #[F.o.val, F.t.val] 37) = wA from HA.out.symm]
  refine (show Calls _ _ _ _ _ from CT.out).mono ?_
  rintro e W1 ⟨rfl, hb1⟩
  have hown0 := empty_own W1
  have hb0 := below_alloc W1 (.cells #[] 3)
  have HO1 := Lib.hid hown0
  have hbw := hbA.trans (hb1.mono hbA.size)
  rcases hv with ⟨hv, rfl, rfl⟩ | ⟨T, hf, hv, rfl, rfl⟩
  · rw [hv]
    clear hv hown0
    go_wp2
    go_ret2
    exact ints_end rfl HO1.out hbw.size (hbw.trans (hb0.mono hbw.size))
  · rw [hv]
    have hsz := good_sizes hf.good
    have hRi : (F.t.R.length : Int) ≤ 7 := by omega
    have HFI := Lib.hid hf
    have y1 : (W1.alloc (.cells #[] 3)).cell? ⟨w.heap.size, 1, none⟩ = some (.slice F.t.a F.t.R.length F.t.c) := ((HBX.out.on hb1).on hb0).c1
    have HW := Lib.hid ((HFA.out.on hb1).2)
    have HS1 := Lib.hid (HSA.out.on hb1)
    obtain ⟨wB, hwB⟩ : ∃ u, u = W1 := ⟨_, rfl⟩
    have hszb := hbw.size
    clear hv hf hown0
    go_wp2
    go_loopw [6, 18] (fun out i wr => ∃ k : Nat, k ≤ F.t.R.length ∧ i = .int .i64 k ∧ wr.ownsRow W1.heap.size 3 1 out k (iv ((served F.t.con T).take k)) ∧ Below W1.heap.size W1 wr) (fun _ i _ => F.t.R.length - (intOf i).toNat)
    case atStart => exact ⟨0, Nat.zero_le _, rfl, by rw [List.take_zero]; exact HO1.out, hb0⟩
    case round =>
      obtain ⟨k, hk, rfl, hown0, hnx⟩ := hrel
      clear y1
      by_cases hlt : k < F.t.R.length
      · have hlti : (k : Int) < (F.t.R.length : Int) := by omega
        rcases HW.out.1.2.2 with h3 | ⟨b, o, hta, hbb, hcell⟩
        · have h3' := congrArg List.length h3; rw [tv_length, List.length_nil] at h3'; omega
        rw [hta]
        obtain ⟨r, hr⟩ : ∃ r, r = F.t.R[k] := ⟨_, rfl⟩
        have hrm : r ∈ F.t.R := by rw [hr]; exact List.getElem_mem hlt
        have hcl : wr.cell? ⟨b, o + k, none⟩ = some (.slice r.a r.l.length r.c) := (hnx.cell (p := ⟨b, o + k, none⟩) hbb).trans (by rw [hr]; exact hcell k _ (tv_at hlt))
        have hgr := good_row HFI.out.good hrm
        obtain ⟨q, hq⟩ : ∃ q, q = near r.l T := ⟨_, rfl⟩
        have cn := nearest_law r s T wr ((HW.out.2 r hrm).on hnx) (HS1.out.on hnx) HFI.out.set HFI.out.some (fun m hm => by rw [hgr.1]; exact HFI.out.lt m hm)
        rw [← hq] at cn
        have CN := Lib.hid cn
        have HL : Hid ((served F.t.con T).take (k + 1) = (served F.t.con T).take k ++ [((q : Nat) : Int)]) := Lib.hid (by
          rw [List.take_succ_eq_append_getElem (by rw [served_length]; exact hlt), served_at F T hlt, hq, hr])
        have HO := Lib.hid hown0
        have HN := Lib.hid hnx
        have hszr := hnx.size
        clear hq cn hown0 hnx hr hrm hgr hcell hta
        go_wp2_with fail
        refine CN.out.mono ?_
        rintro e W2 ⟨rfl, hb2⟩
        have hown := owns_below HO.out hb2
        have hnx1 := HN.out.trans (hb2.mono hszr)
        have hsz1 := hb2.size
        go_wp2_with (at_builtin; refine wpList_append_own _ rfl _ _ 22 rfl W1.heap.size 3 i0 (.int .i64 0) 1 8 Try.underlying22 hi hz0 hz1 hz2 rfl (by decide) _ _ _ rfl (hown.alloc _) ⟨W2.heap.size, 0, none⟩ 1 1 [.int .i64 ((q : Nat) : Int)] rfl rfl (one_cell _ _ _) (by simp [Value.oneCell']) (by unfold maxLen; omega) (by omega) (by simp; omega) ?_; intro v' w1 hown' hgrow _)
        have R1 : w1.ownsRow W1.heap.size 3 1 v' (k + 1) (iv ((served F.t.con T).take (k + 1))) := by rw [HL.out]; simpa [iv] using hown'
        have R2 : Below W1.heap.size W1 w1 := (hnx1.alloc (by omega) _).grown hgrow (by simp; omega) (fun j hj => (hown.lt j hj).1)
        clear hown' hgrow hown hnx1
        go_wp2
        go_roundw
        case rel => exact ⟨k + 1, by omega, by go_num, R1, R2⟩
        case measure => simp [intOf]; omega
      · obtain rfl : k = F.t.R.length := by omega
        go_wp2
        go_ret2
        rw [List.take_of_length_le (by rw [served_length]; exact Nat.le_refl _)] at hown0
        exact ints_end (by rw [served_length]) hown0 hszb (hbw.trans (hnx.mono hszb))

theorem serveds_like {F G : Fld} {s t : Row} {l : List Int} {b : Bool} (h : Serveds F s l b) (hl : G.Like F) (hs : t.l = s.l) : Serveds G t l b := by
  rcases h with ⟨h1, h2, h3⟩ | ⟨T, h1, h3, h4, h5⟩
  · exact .inl ⟨by rw [twoB_like hl hs, h1], h2, h3⟩
  · exact .inr ⟨T, fine_like h1 hl hs, by rw [twoB_like hl hs, h3], by rw [hl.2]; exact h4, h5⟩
theorem serveds_some (F : Fld) (s : Row) : ∃ (l : List Int) (b : Bool), Serveds F s l b ∧ l.length ≤ 1048576 := by
  by_cases h : twoB F s = true
  · obtain ⟨T, hf⟩ := fine_of h
    exact ⟨_, _, .inr ⟨T, hf, h, rfl, rfl⟩, by rw [served_length]; have := good_sizes hf.good; omega⟩
  · exact ⟨_, _, .inl ⟨by simpa using h, rfl, rfl⟩, by simp⟩
end Go.Proofs.Ytfgedolngcdjpaa
