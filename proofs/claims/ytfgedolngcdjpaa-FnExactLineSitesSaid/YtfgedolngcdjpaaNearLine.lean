/- The sites near a place of a line. Condition: the list reads as such, its places lie from 0 to 99. -/
import Derived.Test.YtfgedolngcdjpaaLineMade
import Derived.Test.YtfgedolngcdjpaaPlainPick
import Derived.BigQuiet
namespace Go.Proofs.Ytfgedolngcdjpaa
open Go.RowKit
/-- The sites with a length of at most r to a place. -/
def nearL (s : List Int) (r x : Int) : List Int := places (fun y => decide (max (x - y) (y - x) ≤ r)) s s.length

set_option maxRecDepth 8000 in
set_option maxHeartbeats 2000000 in
theorem placesWhere_near (r : Row) (g g' : Nat) (P : Int → Bool) (w : World) (hr : r.At w) (hs : r.l.length ≤ 1048576)
    (hP : ∀ x ∈ r.l, ∀ u, Below w.heap.size w u → Calls Try.prog 54 #[.int .i64 x, .pointer (some ⟨g, 0, none⟩), .pointer (some ⟨g', 0, none⟩)] u fun e w' => e = .returned (.bool (P x)) ∧ Below u.heap.size u w') :
    Calls Try.prog 53 #[.slice r.a r.l.length r.c, .func (.func 54) #[] #[.pointer (some ⟨g, 0, none⟩), .pointer (some ⟨g', 0, none⟩)]] w fun e w' => ∃ t : Row, e = .returned (.slice t.a t.l.length t.c) ∧ t.l = places P r.l r.l.length ∧ t.Own 3 w' ∧ t.In w.heap.size w'.heap.size w' ∧ Below w.heap.size w w' := by
  obtain ⟨i0, hi, hz0, hz1, hz2⟩ := info_parts infoInt
  obtain ⟨a, c, l⟩ := r
  obtain ⟨h1, h2, h3⟩ := hr
  simp only at h1 h2 h3 hP hs ⊢
  have hni : (l.length : Int) ≤ 1048576 := by omega
  have HR := Lib.hid h3
  have HP := Lib.hid hP
  have hown0 := empty_own w
  have hb0 := below_alloc w (.cells #[] 3)
  have H0 := Lib.hid hown0
  have HB0 := Lib.hid hb0
  clear h3 hP hown0 hb0
  go_enter Try.func53, Try.ntmps53
  go_wp2
  go_loopw [5, 6, 7, 11] (fun out _ _ i wr => ∃ k : Nat, k ≤ l.length ∧ i = .int .i64 k ∧ wr.ownsRow w.heap.size 3 1 out (places P l k).length (iv (places P l k)) ∧ Below w.heap.size w wr) (fun _ _ _ i _ => l.length - (intOf i).toNat)
  case atStart => exact ⟨0, Nat.zero_le _, rfl, H0.out, HB0.out⟩
  case round =>
    obtain ⟨k, hk, rfl, hown0, hnx⟩ := hrel
    by_cases hlt : k < l.length
    · have hlti : (k : Int) < (l.length : Int) := by omega
      rcases HR.out with h3 | ⟨b, o, rfl, hb, hcell⟩
      · have h3' := congrArg List.length (iv_nil h3); rw [List.length_nil] at h3'; omega
      obtain ⟨x, hx⟩ : ∃ x, x = l[k] := ⟨_, rfl⟩
      have hcl : wr.cell? ⟨b, o + k, none⟩ = some (.int .i64 x) := (hnx.cell (p := ⟨b, o + k, none⟩) hb).trans (by rw [hx]; exact hcell k _ (iv_at hlt))
      have HX : Hid (l.getD k 0 = x) := Lib.hid (by rw [getD_at hlt, hx])
      have cp := HP.out x (by rw [hx]; exact List.getElem_mem hlt) wr hnx
      obtain ⟨v, hv⟩ : ∃ v, v = P x := ⟨_, rfl⟩
      rw [← hv] at cp
      have CP := Lib.hid cp
      have HV := Lib.hid hv
      have HO := Lib.hid hown0
      have HN := Lib.hid hnx
      have hszr := hnx.size
      have hpl := places_len P l k
      clear hx hcell cp hv hown0 hnx
      go_wp2_with fail
      refine (show Calls _ _ _ _ _ from CP.out).mono ?_
      rintro e W1 ⟨rfl, hb1⟩
      have hnx1 := HN.out.trans (hb1.mono hszr)
      have hown := owns_below HO.out hb1
      have hsz1 := hb1.size
      clear hb1 hcl
      cases v with
      | false =>
        have HE : Hid (places P l (k + 1) = places P l k) := Lib.hid (places_no (by rw [HX.out, ← HV.out]))
        have HOW := Lib.hid hown
        clear hown
        go_wp2
        go_roundw
        case rel => exact ⟨k + 1, by omega, by go_num, by rw [HE.out]; exact HOW.out, hnx1⟩
        case measure => simp [intOf]; omega
      | true =>
        have HE : Hid (places P l (k + 1) = places P l k ++ [(k : Int)]) := Lib.hid (places_yes (by rw [HX.out, ← HV.out]))
        have HX2 := Lib.hid hnx1
        clear hnx1
        go_wp2_with (at_builtin; refine wpList_append_own _ rfl _ _ 22 rfl w.heap.size 3 i0 (.int .i64 0) 1 8 Try.underlying22 hi hz0 hz1 hz2 rfl (by decide) _ _ _ rfl (hown.alloc _) ⟨W1.heap.size, 0, none⟩ 1 1 [.int .i64 (k : Int)] rfl rfl (one_cell _ _ _) (by simp [Value.oneCell']) (by unfold maxLen; omega) (by omega) (by simp; omega) ?_; intro v' w1 hown' hgrow _)
        have R1 : w1.ownsRow w.heap.size 3 1 v' (places P l (k + 1)).length (iv (places P l (k + 1))) := by rw [HE.out]; exact own_snoc rfl hown'
        have R2 : Below w.heap.size w w1 := (HX2.out.alloc (by omega) _).grown hgrow (by simp; omega) (fun j hj => (hown.lt j hj).1)
        clear hown' hgrow hown
        go_wp2
        go_roundw
        case rel => exact ⟨k + 1, by omega, by go_num, R1, R2⟩
        case measure => simp [intOf]; omega
    · obtain rfl : k = l.length := by omega
      go_wp2
      go_ret
      obtain ⟨t, ht, htl, hto, hti⟩ := row_of_own hown0
      exact ⟨t, congrArg Ending.returned ht, htl, hto, hti, hnx⟩


set_option maxHeartbeats 1000000 in
theorem nearP_any (g g' : Nat) (x y r : Int) (w : World) (h1 : w.cell? ⟨g, 0, none⟩ = some (.int .i64 x)) (h2 : w.cell? ⟨g', 0, none⟩ = some (.int .i64 r)) (hx : 0 ≤ x ∧ x ≤ 99) (hy : 0 ≤ y ∧ y ≤ 99) :
    Calls Try.prog 54 #[.int .i64 y, .pointer (some ⟨g, 0, none⟩), .pointer (some ⟨g', 0, none⟩)] w fun e w' => e = .returned (.bool (decide (max (x - y) (y - x) ≤ r))) ∧ Below w.heap.size w w' := by
  obtain ⟨v, hv⟩ : ∃ v, v = max (x - y) (y - x) := ⟨_, rfl⟩
  have CP := Lib.hid (fun d => by have := lengthBetween_any x y (w.drewN d) hx hy; rw [← hv] at this; exact this : ∀ d, Calls Try.prog 55 #[.int .i64 x, .int .i64 y] (w.drewN d) fun e w' => e = .returned (.int .i64 v) ∧ w' = w.drewN d)
  rw [← hv]
  clear hv hx hy
  by_cases hle : v ≤ r
  · have hd : decide (v ≤ r) = true := decide_eq_true hle
    rw [hd]; clear hd
    go_enter Try.func54, Try.ntmps54
    go_wp2
    go_quiet ((go_at_call 55; exact Calls.quiet_of_same (CP.out _)))
    go_wp2
    go_ret
    exact ⟨by simp, below_draws _ _⟩
  · have hd : decide (v ≤ r) = false := decide_eq_false hle
    rw [hd]; clear hd
    go_enter Try.func54, Try.ntmps54
    go_wp2
    go_quiet ((go_at_call 55; exact Calls.quiet_of_same (CP.out _)))
    go_wp2
    go_ret
    exact ⟨by simp; exact hle, below_draws _ _⟩

set_option maxRecDepth 8000 in
set_option maxHeartbeats 2000000 in
theorem sitesNear_any (s c : Row) (x r : Int) (w : World) (hs : s.At w) (hsm : s.l.length ≤ 1048576) (hy : ∀ y ∈ s.l, 0 ≤ y ∧ y ≤ 99) (hx : 0 ≤ x ∧ x ≤ 99) :
    Calls Try.prog 34 #[.agg #[.slice s.a s.l.length s.c, .slice c.a c.l.length c.c], .int .i64 x, .int .i64 r] w fun e w' => ∃ t : Row, e = .returned (.slice t.a t.l.length t.c) ∧ t.l = nearL s.l r x ∧ t.Own 3 w' ∧ t.In w.heap.size w'.heap.size w' ∧ Below w.heap.size w w' := by
  obtain ⟨wA, hA⟩ : ∃ u, u = w.alloc (Obj.cells #[.slice s.a s.l.length s.c, .slice c.a c.l.length c.c] 49) := ⟨_, rfl⟩
  have hbA : Below w.heap.size w wA := by rw [hA]; exact below_alloc _ _
  have hszA : wA.heap.size = w.heap.size + 1 := by rw [hA]; exact size_alloc _ _
  have hbB := below_alloc wA (.cells #[.int .i64 x] 3)
  obtain ⟨wB, hB⟩ : ∃ u, u = wA.alloc (.cells #[.int .i64 x] 3) := ⟨_, rfl⟩
  rw [← hB] at hbB
  have hszB : wB.heap.size = w.heap.size + 2 := by rw [hB, size_alloc, hszA]
  have hbC := below_alloc wB (.cells #[.int .i64 r] 3)
  obtain ⟨wC, hC⟩ : ∃ u, u = wB.alloc (.cells #[.int .i64 r] 3) := ⟨_, rfl⟩
  rw [← hC] at hbC
  have hszC : wC.heap.size = w.heap.size + 3 := by rw [hC, size_alloc, hszB]
  have hc0 : wA.cell? ⟨w.heap.size, 0, none⟩ = some (.slice s.a s.l.length s.c) := by rw [hA]; exact (Box2.made w _ _ _).c0
  have hbAC := hbB.trans (hbC.mono hbB.size)
  have hx0 : wC.cell? ⟨w.heap.size, 0, none⟩ = some (.slice s.a s.l.length s.c) := (hbAC.cell (p := ⟨w.heap.size, 0, none⟩) (by show w.heap.size < _; omega)).trans hc0
  have hcB : wB.cell? ⟨w.heap.size + 1, 0, none⟩ = some (.int .i64 x) := by rw [hB, ← hszA]; simp
  have hx1 : wC.cell? ⟨w.heap.size + 1, 0, none⟩ = some (.int .i64 x) := (hbC.cell (p := ⟨w.heap.size + 1, 0, none⟩) (by show w.heap.size + 1 < _; omega)).trans hcB
  have hx2 : wC.cell? ⟨w.heap.size + 1 + 1, 0, none⟩ = some (.int .i64 r) := by rw [hC, show w.heap.size + 1 + 1 = wB.heap.size from by omega]; simp
  have hbw := hbA.trans (hbAC.mono hbA.size)
  have HW : Hid (wC = ((w.alloc (Obj.cells #[.slice s.a s.l.length s.c, .slice c.a c.l.length c.c] 49)).alloc (.cells #[.int .i64 x] 3)).alloc (.cells #[.int .i64 r] 3)) := Lib.hid (by rw [hC, hB, hA])
  have CP := Lib.hid (placesWhere_near s (w.heap.size + 1) (w.heap.size + 1 + 1) (fun y => decide (max (x - y) (y - x) ≤ r)) wC (hs.on hbw) hsm (fun y hym u hu => nearP_any _ _ x y r u ((hu.cell (p := ⟨w.heap.size + 1, 0, none⟩) (by show w.heap.size + 1 < _; omega)).trans hx1) ((hu.cell (p := ⟨w.heap.size + 1 + 1, 0, none⟩) (by show w.heap.size + 1 + 1 < _; omega)).trans hx2) hx (hy y hym)))
  have HBW := Lib.hid hbw
  have hx0' := hx0
  rw [HW.out] at hx0'
  clear hA hB hC hbA hbB hbC hszA hszB hc0 hbAC hx0 hcB hx1 hx2 hbw
  go_enter Try.func34, Try.ntmps34
  go_wp2_with fail
  rw [← HW.out]
  refine (show Calls _ _ _ _ _ from CP.out).mono ?_
  rintro e W1 ⟨t, rfl, htl, hto, hti, hb1⟩
  have HTO := Lib.hid hto
  have HTI := Lib.hid (hti.wide (by omega) (Nat.le_refl _) : t.In w.heap.size W1.heap.size W1)
  have HTL := Lib.hid htl
  have HB := Lib.hid (HBW.out.trans (hb1.mono HBW.out.size))
  clear hto hti htl hb1 hx0'
  go_wp2
  go_ret
  exact ⟨t, rfl, HTL.out, HTO.out, HTI.out, HB.out⟩
end Go.Proofs.Ytfgedolngcdjpaa
