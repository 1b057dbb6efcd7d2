/- The contracts of the price bounds of given values, on both sides. Condition: at most seven values, and a price in its limits. -/
import Derived.Test.YtcameijabkpcaaaPairMedianSteps
namespace Go.Proofs.Ytcameijabkpcaaa
open Go.RowKit

theorem minOf_one (x : Int) : Lib.minOf [x] = x := by simp [Lib.minOf]
theorem minOf_snoc {l : List Int} (h : l ≠ []) (x : Int) : Lib.minOf (l ++ [x]) = min (Lib.minOf l) x := by
  cases l with
  | nil => exact absurd rfl h
  | cons a r => unfold Lib.minOf; simp
/-- The values with the price of as many sites. -/
def qL (vals : List Int) (p : Int) (j : Nat) : List Int := (List.range j).map fun (i : Nat) => vals.getD i 0 + p * ((i : Int) + 1)
def prL (vals : List Int) (k p : Int) (j : Nat) : List Int := (List.range j).map fun (i : Nat) => vals.getD i 0 + p * ((i : Int) + 1 - k)
theorem qL_step (vals : List Int) (p : Int) (j : Nat) : qL vals p (j + 1) = qL vals p j ++ [vals.getD j 0 + p * ((j : Int) + 1)] := by unfold qL; rw [List.range_succ, List.map_append]; rfl
theorem prL_step (vals : List Int) (k p : Int) (j : Nat) : prL vals k p (j + 1) = prL vals k p j ++ [vals.getD j 0 + p * ((j : Int) + 1 - k)] := by unfold prL; rw [List.range_succ, List.map_append]; rfl
theorem qL_len (vals : List Int) (p : Int) (j : Nat) : (qL vals p j).length = j := by simp [qL]
theorem prL_len (vals : List Int) (k p : Int) (j : Nat) : (prL vals k p j).length = j := by simp [prL]
/-- The price bound. -/
def boundP (vals : List Int) (k p : Int) : Int := Lib.minOf (prL vals k p vals.length)
theorem bound_q (vals : List Int) (k p : Int) : ∀ j, 0 < j → Lib.minOf (prL vals k p j) = Lib.minOf (qL vals p j) - p * k
  | 0, h => absurd h (Nat.lt_irrefl 0)
  | 1, _ => by
    rw [show prL vals k p 1 = [vals.getD 0 0 + p * (((0 : Nat) : Int) + 1 - k)] from rfl, show qL vals p 1 = [vals.getD 0 0 + p * (((0 : Nat) : Int) + 1)] from rfl, minOf_one, minOf_one]
    rw [Int.mul_sub]; omega
  | j + 2, _ => by
    rw [prL_step, qL_step, minOf_snoc (fun e => by have := congrArg List.length e; rw [prL_len] at this; simp at this), minOf_snoc (fun e => by have := congrArg List.length e; rw [qL_len] at this; simp at this), bound_q vals k p (j + 1) (Nat.succ_pos _)]
    rw [Int.mul_sub]; omega
theorem mul_bound {p d : Int} (h0 : 0 ≤ p) (h1 : p ≤ 999) (h2 : -7 ≤ d) (h3 : d ≤ 7) : -6993 ≤ p * d ∧ p * d ≤ 6993 := by
  have : d = -7 ∨ d = -6 ∨ d = -5 ∨ d = -4 ∨ d = -3 ∨ d = -2 ∨ d = -1 ∨ d = 0 ∨ d = 1 ∨ d = 2 ∨ d = 3 ∨ d = 4 ∨ d = 5 ∨ d = 6 ∨ d = 7 := by omega
  rcases this with rfl | rfl | rfl | rfl | rfl | rfl | rfl | rfl | rfl | rfl | rfl | rfl | rfl | rfl | rfl <;> omega
theorem minOf_bound {l : List Int} (h : ∀ x ∈ l, -20000 ≤ x ∧ x ≤ 20000) : -20000 ≤ Lib.minOf l ∧ Lib.minOf l ≤ 20000 := by
  have gen : ∀ (l : List Int) (a : Int), (-20000 ≤ a ∧ a ≤ 20000) → (∀ x ∈ l, -20000 ≤ x ∧ x ≤ 20000) → -20000 ≤ l.foldl min a ∧ l.foldl min a ≤ 20000 := by
    intro l
    induction l with
    | nil => intro a ha _; exact ha
    | cons x r ih =>
      intro a ha hl
      rw [List.foldl_cons]
      refine ih _ ?_ fun y hy => hl y (List.mem_cons_of_mem _ hy)
      have := hl x List.mem_cons_self
      omega
  unfold Lib.minOf
  refine gen l _ ?_ h
  cases l with
  | nil => simp
  | cons a r => exact h a List.mem_cons_self
theorem qL_bound {vals : List Int} {p : Int} {j : Nat} (hv : ∀ x ∈ vals, 0 ≤ x ∧ x ≤ 693) (h0 : 0 ≤ p) (h1 : p ≤ 999) (hj : j ≤ 7) : ∀ x ∈ qL vals p j, -20000 ≤ x ∧ x ≤ 20000 := fun x hx => by
  obtain ⟨i, hi, rfl⟩ := List.mem_map.1 hx
  have hij := List.mem_range.1 hi
  have hm := mul_bound h0 h1 (d := (i : Int) + 1) (by omega) (by omega)
  have hvi : 0 ≤ vals.getD i 0 ∧ vals.getD i 0 ≤ 693 := by
    rw [List.getD_eq_getElem?_getD]
    by_cases h : i < vals.length
    · rw [List.getElem?_eq_getElem h]; exact hv _ (List.getElem_mem h)
    · rw [List.getElem?_eq_none (by omega)]; simp
  omega

set_option maxHeartbeats 1000000 in
theorem least_any (a b : Int) (w : World) :
    Calls Try.prog 73 #[.int .i64 a, .int .i64 b] w fun e w' => e = .returned (.int .i64 (min a b)) ∧ w' = w := by
  by_cases h : a < b
  · have hm : Hid (min a b = a) := Lib.hid (by omega)
    go_enter Try.func73, Try.ntmps73
    go_wp2
    go_ret
    exact ⟨by rw [hm.out]; rfl, rfl⟩
  · have hm : Hid (min a b = b) := Lib.hid (by omega)
    go_enter Try.func73, Try.ntmps73
    go_wp2
    go_ret
    exact ⟨by rw [hm.out]; rfl, rfl⟩

set_option maxRecDepth 32000 in
set_option maxHeartbeats 2000000 in
theorem l4Priced_any (t : Row) (k : Nat) (p : Int) (w : World) (ht : t.At w) (h1 : 1 ≤ t.l.length) (h7 : t.l.length ≤ 7) (hv : ∀ x ∈ t.l, 0 ≤ x ∧ x ≤ 693) (hk : k ≤ 7) (h0 : 0 ≤ p) (hp : p ≤ 999) :
    Calls Try.prog 54 #[.slice t.a t.l.length t.c, .int .i64 k, .int .i64 p] w fun e w' => e = .returned (.int .i64 (boundP t.l k p)) ∧ w' = w := by
  obtain ⟨a, c, vals⟩ := t
  obtain ⟨_, _, q3⟩ := ht
  simp only at h1 h7 hv q3 ⊢
  have hni : (vals.length : Int) ≤ 7 := by omega
  have hn1 : (0 : Int) < (vals.length : Int) := by omega
  rcases q3 with q3 | ⟨b, o, rfl, hbb, hcell⟩
  · have h3' := congrArg List.length (iv_nil q3); rw [List.length_nil] at h3'; omega
  have HCE : Hid (∀ j, j < vals.length → w.cell? ⟨b, o + j, none⟩ = some (.int .i64 (vals.getD j 0))) := Lib.hid fun j hj => by
    rw [hcell j _ (iv_at hj), List.getD_eq_getElem?_getD, List.getElem?_eq_getElem hj]; rfl
  have HVB : Hid (∀ j, j < vals.length → 0 ≤ vals.getD j 0 ∧ vals.getD j 0 ≤ 693) := Lib.hid fun j hj => by
    rw [List.getD_eq_getElem?_getD, List.getElem?_eq_getElem hj]; exact hv _ (List.getElem_mem hj)
  have HQB := Lib.hid (fun j (hj : j ≤ vals.length) => minOf_bound (qL_bound (vals := vals) (p := p) (j := j) hv h0 hp (by omega)))
  have HBP : Hid (boundP vals k p = Lib.minOf (qL vals p vals.length) - p * (k : Int)) := Lib.hid (bound_q vals k p vals.length (by omega))
  obtain ⟨x0, hx0⟩ : ∃ x, x = vals.getD 0 0 := ⟨_, rfl⟩
  have hb0 := HVB.out 0 (by omega)
  have c0 : w.cell? ⟨b, o, none⟩ = some (.int .i64 x0) := by have := HCE.out 0 (by omega); rw [Nat.add_zero] at this; rw [hx0]; exact this
  rw [← hx0] at hb0
  have HQ1 : Hid (Lib.minOf (qL vals p 1) = x0 + p) := Lib.hid (by rw [hx0, show qL vals p 1 = [vals.getD 0 0 + p * (((0 : Nat) : Int) + 1)] from rfl, minOf_one]; simp)
  have e0 : IntKind.i64.wrap (x0 + p) = x0 + p := IntWalk.i64_in _ (by omega)
  have hpk := mul_bound h0 hp (d := (k : Int)) (by omega) (by omega)
  obtain ⟨pk, hpk'⟩ : ∃ z, z = p * (k : Int) := ⟨_, rfl⟩
  have HPK := Lib.hid hpk'
  rw [← hpk'] at hpk
  have epk : IntKind.i64.wrap (p * (k : Int)) = pk := by rw [← hpk']; exact IntWalk.i64_in _ (by omega)
  clear hcell hv hx0 hbb hpk'
  go_enter Try.func54, Try.ntmps54
  go_wp2
  go_loopw [7, 8] (fun bv i wr => ∃ j : Nat, 1 ≤ j ∧ j ≤ vals.length ∧ i = .int .i64 j ∧ bv = .int .i64 (Lib.minOf (qL vals p j)) ∧ wr = w) (fun _ i _ => vals.length - (intOf i).toNat)
  case atStart => exact ⟨1, Nat.le_refl _, h1, rfl, by rw [HQ1.out], rfl⟩
  case round =>
    obtain ⟨j, hj1, hj, rfl, rfl, rfl⟩ := hrel
    obtain ⟨m, hm⟩ : ∃ m, m = Lib.minOf (qL vals p j) := ⟨_, rfl⟩
    have hmb := HQB.out j hj
    rw [← hm] at hmb ⊢
    by_cases hlt : j < vals.length
    · have hlti : (j : Int) < (vals.length : Int) := by omega
      obtain ⟨x, hx⟩ : ∃ x, x = vals.getD j 0 := ⟨_, rfl⟩
      have hcl : wr.cell? ⟨b, o + j, none⟩ = some (.int .i64 x) := by rw [hx]; exact HCE.out j hlt
      have hxb := HVB.out j hlt
      rw [← hx] at hxb
      obtain ⟨z, hz⟩ : ∃ z, z = p * ((j : Int) + 1) := ⟨_, rfl⟩
      have hzb := mul_bound h0 hp (d := (j : Int) + 1) (by omega) (by omega)
      rw [← hz] at hzb
      have e1 : IntKind.i64.wrap ((j : Int) + 1) = (j : Int) + 1 := IntWalk.i64_in _ (by omega)
      have e2 : IntKind.i64.wrap (p * ((j : Int) + 1)) = z := by rw [← hz]; exact IntWalk.i64_in _ (by omega)
      have e3 : IntKind.i64.wrap (x + z) = x + z := IntWalk.i64_in _ (by omega)
      have HS : Hid (Lib.minOf (qL vals p (j + 1)) = min m (x + z)) := Lib.hid (by
        rw [qL_step, minOf_snoc (fun e => by have := congrArg List.length e; rw [qL_len, List.length_nil] at this; omega), hm, hx, hz])
      have CL := Lib.hid (least_any m (x + z) wr)
      clear hx hz hm
      go_wp2_with fail
      refine CL.out.mono ?_
      rintro e wr ⟨rfl, rfl⟩
      go_wp2
      go_roundw
      case rel => exact ⟨j + 1, by omega, by omega, by go_num, by rw [HS.out], by first | rfl | trivial⟩
      case measure => simp [intOf]; omega
    · obtain rfl : j = vals.length := by omega
      have e4 : IntKind.i64.wrap (m - pk) = m - pk := IntWalk.i64_in _ (by omega)
      have HE : Hid (boundP vals k p = m - pk) := Lib.hid (by rw [HBP.out, hm, HPK.out])
      clear hm
      go_wp2
      go_ret
      exact ⟨by rw [HE.out]; rfl, by first | rfl | trivial⟩

set_option maxRecDepth 32000 in
set_option maxHeartbeats 2000000 in
theorem boundFor_any (t : Row) (k : Nat) (p : Int) (w : World) (ht : t.At w) (h1 : 1 ≤ t.l.length) (h7 : t.l.length ≤ 7) (hv : ∀ x ∈ t.l, 0 ≤ x ∧ x ≤ 693) (hk : k ≤ 7) (h0 : 0 ≤ p) (hp : p ≤ 999) :
    Calls Try.prog 55 #[.slice t.a t.l.length t.c, .int .i64 k, .int .i64 p] w fun e w' => e = .returned (.int .i64 (boundP t.l k p)) ∧ Below w.heap.size w w' := by
  obtain ⟨i0, hi, hz0, hz1, hz2⟩ := info_parts infoInt
  obtain ⟨a, c, vals⟩ := t
  obtain ⟨_, _, q3⟩ := ht
  simp only at h1 h7 hv q3 ⊢
  have hni : (vals.length : Int) ≤ 7 := by omega
  rcases q3 with q3 | ⟨b, o, rfl, hbb, hcell⟩
  · have h3' := congrArg List.length (iv_nil q3); rw [List.length_nil] at h3'; omega
  have HCE : Hid (∀ u, Below w.heap.size w u → ∀ j, j < vals.length → u.cell? ⟨b, o + j, none⟩ = some (.int .i64 (vals.getD j 0))) := Lib.hid fun u hu j hj => by
    refine (hu.cell (p := ⟨b, o + j, none⟩) hbb).trans ?_
    rw [hcell j _ (iv_at hj), List.getD_eq_getElem?_getD, List.getElem?_eq_getElem hj]; rfl
  have HVB : Hid (∀ j, j < vals.length → 0 ≤ vals.getD j 0 ∧ vals.getD j 0 ≤ 693) := Lib.hid fun j hj => by
    rw [List.getD_eq_getElem?_getD, List.getElem?_eq_getElem hj]; exact hv _ (List.getElem_mem hj)
  have H0 := Lib.hid (empty_own w)
  have HB0 := Lib.hid (below_alloc w (.cells #[] 3))
  clear hcell hv hbb
  go_enter Try.func55, Try.ntmps55
  go_wp2
  go_loopw [7, 8, 9, 13] (fun out _ _ i wr => ∃ j : Nat, j ≤ vals.length ∧ i = .int .i64 j ∧ wr.ownsRow w.heap.size 3 1 out j (iv (prL vals k p j)) ∧ Below w.heap.size w wr) (fun _ _ _ i _ => vals.length - (intOf i).toNat)
  case atStart => exact ⟨0, Nat.zero_le _, rfl, H0.out, HB0.out⟩
  case round =>
    obtain ⟨j, hj, rfl, hown, hnx⟩ := hrel
    by_cases hlt : j < vals.length
    · have hlti : (j : Int) < (vals.length : Int) := by omega
      obtain ⟨x, hx⟩ : ∃ x, x = vals.getD j 0 := ⟨_, rfl⟩
      have hcl : wr.cell? ⟨b, o + j, none⟩ = some (.int .i64 x) := by rw [hx]; exact HCE.out wr hnx j hlt
      have hxb := HVB.out j hlt
      rw [← hx] at hxb
      obtain ⟨z, hz⟩ : ∃ z, z = p * ((j : Int) + 1 - (k : Int)) := ⟨_, rfl⟩
      have hzb := mul_bound h0 hp (d := (j : Int) + 1 - (k : Int)) (by omega) (by omega)
      rw [← hz] at hzb
      have e1 : IntKind.i64.wrap ((j : Int) + 1) = (j : Int) + 1 := IntWalk.i64_in _ (by omega)
      have e2 : IntKind.i64.wrap ((j : Int) + 1 - (k : Int)) = (j : Int) + 1 - (k : Int) := IntWalk.i64_in _ (by omega)
      have e3 : IntKind.i64.wrap (p * ((j : Int) + 1 - (k : Int))) = z := by rw [← hz]; exact IntWalk.i64_in _ (by omega)
      have e4 : IntKind.i64.wrap (x + z) = x + z := IntWalk.i64_in _ (by omega)
      have HL : Hid (prL vals k p (j + 1) = prL vals k p j ++ [x + z]) := Lib.hid (by rw [prL_step, hx, hz])
      have hszr := hnx.size
      clear hx hz
      go_wp2_with (at_builtin; refine wpList_append_own _ rfl _ _ 22 rfl w.heap.size 3 i0 (.int .i64 0) 1 8 Try.underlying22 hi hz0 hz1 hz2 rfl (by decide) _ _ _ rfl (hown.alloc _) ⟨wr.heap.size, 0, none⟩ 1 1 [.int .i64 (x + z)] rfl rfl (one_cell _ _ _) (by simp [Value.oneCell']) (by unfold maxLen; omega) (by omega) (by simp; omega) ?_; intro v' w1 hown' hgrow _)
      have R1 : w1.ownsRow w.heap.size 3 1 v' (j + 1) (iv (prL vals k p (j + 1))) := by rw [HL.out]; simpa [iv] using hown'
      have R2 : Below w.heap.size w w1 := (hnx.alloc (by omega) _).grown hgrow (by simp; omega) (fun j hj => (hown.lt j hj).1)
      clear hown' hgrow hown hnx hcl
      go_wp2
      go_roundw
      case rel => exact ⟨j + 1, by omega, by go_num, R1, R2⟩
      case measure => simp [intOf]; omega
    · obtain rfl : j = vals.length := by omega
      obtain ⟨s, hs, hsl, hso, hsi⟩ := row_of_own (l := prL vals k p vals.length) (by rw [prL_len]; exact hown)
      subst hs
      have hsn : s.l.length = vals.length := by rw [hsl, prL_len]
      have CM : Hid (Calls Try.prog 74 #[.slice s.a s.l.length s.c] wr fun e w' => e = .returned (.int .i64 (Lib.minOf s.l)) ∧ w' = wr) := Lib.hid (by
        obtain ⟨_, _, s3⟩ := hsi.at
        rcases s3 with s3 | ⟨b2, o2, sa, sb, sc⟩
        · have h3' := congrArg List.length (iv_nil s3); rw [hsn, List.length_nil] at h3'; omega
        · have := Try.slices_Min_int b2 o2 s.l.length s.c s.l wr (by omega) (Nat.le_refl _) (by omega) (fun i hi => by rw [sc i _ (iv_at hi), List.getD_eq_getElem?_getD, List.getElem?_eq_getElem hi]; rfl)
          rw [List.take_length, ← sa] at this; exact this)
      have HSL := Lib.hid hsl
      clear hsl hsn hown
      go_wp2_with fail
      refine (show Calls _ _ _ _ _ from CM.out).mono ?_
      rintro e W ⟨rfl, rfl⟩
      go_wp2
      go_ret
      exact ⟨by rw [HSL.out]; rfl, hnx⟩
end Go.Proofs.Ytcameijabkpcaaa
