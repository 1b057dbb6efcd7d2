/- The contracts of serving: the sites that serve, their lengths, sums and payments, on both sides. Condition: a valid Field and a valid set with at least one site. -/
import Derived.Test.YtemflcegkebloaaNear
import Derived.Test.YtemflcegkebloaaPost
import Derived.WalkKit
import Derived.WalkSpells
namespace Go.Proofs.Ytemflcegkebloaa
open Go.RowKit

theorem one_cell (w : World) (x : Value) (e : TypeId) : ∀ j u, [x][j]? = some u → (w.alloc (.cells #[x] e)).cell? ((⟨w.heap.size, 0, none⟩ : Addr).add j) = some u := by
  intro j u hj
  match j, hj with
  | 0, hj => simp at hj; subst hj; simp [Addr.add]
theorem own_snoc {w1 : World} {B n : Nat} {v : Value} {l : List Int} {x : Int} (hn : n = l.length) (h : w1.ownsRow B 3 1 v (n + 1) (iv l ++ [Value.int .i64 x])) : w1.ownsRow B 3 1 v (l ++ [x]).length (iv (l ++ [x])) := by
  subst hn; simpa [iv] using h
theorem row_of_own {w : World} {B : Nat} {e : TypeId} {v : Value} {l : List Int} (h : w.ownsRow B e 1 v l.length (iv l)) : ∃ t : Row, v = .slice t.a t.l.length t.c ∧ t.l = l ∧ t.Own e w ∧ t.In B w.heap.size w := by
  rcases id h.2 with ⟨rfl, h0⟩ | ⟨g, cap, cur, rfl, hB, _⟩
  · have hl : l = [] := List.eq_nil_of_length_eq_zero h0
    subst hl
    exact ⟨⟨none, 0, []⟩, rfl, rfl, .inl rfl, ⟨by simp [iv], by decide, .inl rfl⟩⟩
  · refine ⟨⟨some ⟨g, 0, none⟩, cap, l⟩, rfl, rfl, .inr ⟨g, rfl, owns_base h⟩, ?_⟩
    obtain ⟨q1, q2, q3⟩ := row_of_owns h
    refine ⟨q1, q2, ?_⟩
    rcases q3 with q3 | ⟨b, o, e0, hb, hc⟩
    · exact .inl q3
    · simp only [Option.some.injEq, Addr.mk.injEq] at e0
      obtain ⟨rfl, rfl, _⟩ := e0
      exact .inr ⟨_, _, rfl, hB, hb, hb, hc⟩
theorem ints_end {w w' : World} {B n : Nat} {v : Value} {l : List Int} {b : Bool} (hn : n = l.length) (h : w'.ownsRow B 3 1 v n (iv l)) (hB : w.heap.size ≤ B) (hb : Below w.heap.size w w') :
    PInts l b w (.returned (.tuple #[v, .bool b])) w' := by
  subst hn
  obtain ⟨t, rfl, htl, hto, hti⟩ := row_of_own h
  exact ⟨t, rfl, htl, hto, hti.wide hB (Nat.le_refl _), hb⟩
theorem empty_own (w : World) : (w.alloc (.cells #[] 3)).ownsRow w.heap.size 3 1 (.slice (some ⟨w.heap.size, 0, none⟩) 0 0) 0 (iv []) := World.ownsRow_made w #[] 0 (Nat.le_refl _) (by decide) rfl

/-- What is asked of a Field and a set. -/
structure Fine (F : Fld) (s : Row) (T : List Nat) : Prop where
  good : F.good = true
  set : s.l = up T
  some : 0 < T.length
  lt : ∀ m ∈ T, m < F.o.l.length
theorem fine_of {F : Fld} {s : Row} (h : twoB F s = true) : ∃ T, Fine F s T := by
  obtain ⟨h1, h2, h3⟩ := twoB_iff.1 h
  obtain ⟨T, hT, hl⟩ := set_nat h2
  exact ⟨T, h1, hT, by rw [hT, up_length] at h3; exact h3, hl⟩

theorem lens_length (F : Fld) (T : List Nat) : (lens F.t.con T).length = F.t.R.length := by unfold lens Tab.con; simp
theorem lens_at (F : Fld) (T : List Nat) {i : Nat} (h : i < F.t.R.length) : (lens F.t.con T)[i]'(by rw [lens_length]; exact h) = F.t.R[i].l.getD (near F.t.R[i].l T) 0 := by simp [lens, Tab.con]
theorem served_length (F : Fld) (T : List Nat) : (served F.t.con T).length = F.t.R.length := by unfold served Tab.con; simp
theorem served_at (F : Fld) (T : List Nat) {i : Nat} (h : i < F.t.R.length) : (served F.t.con T)[i]'(by rw [served_length]; exact h) = ((near F.t.R[i].l T : Nat) : Int) := by simp [served, Tab.con]
theorem lens_bound {F : Fld} (h : F.good = true) (T : List Nat) : ∀ x ∈ lens F.t.con T, 0 ≤ x ∧ x ≤ 99 := by
  intro x hx
  unfold lens at hx
  obtain ⟨row, hr, rfl⟩ := List.mem_map.1 hx
  obtain ⟨r, hr', rfl⟩ := List.mem_map.1 hr
  exact getD_bound (good_row h hr').2 _
theorem pays_bound {F : Fld} (h : F.good = true) (T : List Nat) : ∀ x ∈ pays F.o.l T, 0 ≤ x ∧ x ≤ 99 := by
  intro x hx
  unfold pays at hx
  obtain ⟨m, _, rfl⟩ := List.mem_map.1 hx
  exact getD_bound (good_open h) _
theorem take_bound {l : List Int} (h : ∀ x ∈ l, 0 ≤ x ∧ x ≤ 99) (k : Nat) : 0 ≤ (l.take k).sum ∧ (l.take k).sum ≤ 99 * k := by
  have := sum_bound (l := l.take k) fun x hx => h x (List.mem_of_mem_take hx)
  rw [List.length_take] at this
  omega

theorem nearest_law (r s : Row) (T : List Nat) (w : World) (hr : r.At w) (hs : s.At w) (hT : s.l = up T) (h0 : 0 < T.length) (hb : ∀ m ∈ T, m < r.l.length) :
    Calls Try.prog 91 #[.slice r.a r.l.length r.c, .slice s.a s.l.length s.c] w fun e w' => e = .returned (.int .i64 ((near r.l T : Nat) : Int)) ∧ Below w.heap.size w w' :=
  (nearest_any r s T w hr hs hT h0 hb).mono fun _ _ ⟨h1, h2⟩ => ⟨h1, h2.below⟩

set_option maxHeartbeats 600000 in
theorem sumOf_any (r : Row) (w : World) (hr : r.At w) (hb : ∀ x ∈ r.l, 0 ≤ x ∧ x ≤ 99) (hn : r.l.length ≤ 1048576) :
    Calls Try.prog 80 #[.slice r.a r.l.length r.c] w fun e w' => e = .returned (.int .i64 r.l.sum) ∧ w' = w := by
  obtain ⟨a, c, l⟩ := r
  obtain ⟨h1, h2, h3⟩ := hr
  simp only at h1 h2 h3 hb hn ⊢
  have hni : (l.length : Int) ≤ 1048576 := by omega
  have HR := Lib.hid h3
  have HB := Lib.hid hb
  clear h3 hb
  go_enter Try.func80, Try.ntmps80
  go_wp2
  go_loopw [3, 8] (fun sv i wr => ∃ k : Nat, k ≤ l.length ∧ i = .int .i64 k ∧ sv = .int .i64 (l.take k).sum ∧ w = wr) (fun _ i _ => l.length - (intOf i).toNat)
  case atStart => exact ⟨0, Nat.zero_le _, rfl, by simp, rfl⟩
  case round =>
    obtain ⟨k, hk, rfl, rfl, rfl⟩ := hrel
    by_cases hlt : k < l.length
    · have hlti : (k : Int) < (l.length : Int) := by omega
      rcases HR.out with h3 | ⟨b, o, rfl, hbb, hcell⟩
      · have h3' := congrArg List.length (iv_nil h3); rw [List.length_nil] at h3'; omega
      obtain ⟨x, hx⟩ : ∃ x, x = l[k] := ⟨_, rfl⟩
      have hcl : w.cell? ⟨b, o + k, none⟩ = some (.int .i64 x) := by rw [hx]; exact hcell k _ (iv_at hlt)
      have hx2 := HB.out x (by rw [hx]; exact List.getElem_mem hlt)
      obtain ⟨y, hy⟩ : ∃ y, y = (l.take k).sum := ⟨_, rfl⟩
      have hy2 := take_bound HB.out k
      rw [← hy] at hy2 ⊢
      have HS : Hid ((l.take (k + 1)).sum = y + x) := Lib.hid (by rw [sum_step hlt, hy, hx])
      have e1 : (0 : Int) ≤ y + x := by omega
      have e2 : y + x ≤ 9223372036854775807 := by omega
      clear hx hcell hy
      go_wp2
      go_roundw
      case rel => exact ⟨k + 1, by omega, by go_num, by rw [HS.out], by first | rfl | trivial⟩
      case measure => simp [intOf]; omega
    · obtain rfl : k = l.length := by omega
      go_wp2
      go_ret
      exact ⟨by rw [List.take_length]; rfl, rfl⟩

set_option maxHeartbeats 1000000 in
theorem servedLengths_any (F : Fld) (s : Row) (T : List Nat) (w : World) (hF : F.At w) (hs : s.At w) (hf : Fine F s T) :
    Calls Try.prog 81 #[F.val, .slice s.a s.l.length s.c] w fun e w' => ∃ t : Row, e = .returned (.slice t.a t.l.length t.c) ∧ t.l = lens F.t.con T ∧ t.Own 3 w' ∧ t.In w.heap.size w'.heap.size w' ∧ Below w.heap.size w w' := by
  obtain ⟨i0, hi, hz0, hz1, hz2⟩ := info_parts infoInt
  obtain ⟨wA, hA, hbA, bx, hFA, hszA⟩ := laid_fld F w 29 hF
  have HSA := Lib.hid (hs.on hbA)
  have HFA := Lib.hid hFA
  obtain ⟨hr1, hr2, hr3⟩ := hFA.2.1
  rw [tv_length] at hr1
  have hsz := good_sizes hf.good
  have hRi : (F.t.R.length : Int) ≤ 7 := by omega
  have HR := Lib.hid hr3
  have HFI := Lib.hid hf
  have HA := Lib.hid hA
  have hown0 := empty_own wA
  have hb0 := below_alloc wA (.cells #[] 3)
  have x1 : (wA.alloc (.cells #[] 3)).cell? ⟨w.heap.size, 1, none⟩ = some (.slice F.t.a F.t.R.length F.t.c) := ((Box2.later bx _)).c1
  have H0 := Lib.hid hown0
  have HB0 := Lib.hid hb0
  clear hF hs hA hFA hr1 hr2 hr3 bx hown0 hb0 hf
  show Calls _ _ #[.agg #[.slice F.o.a F.o.l.length F.o.c, .slice F.t.a F.t.R.length F.t.c], _] w _
  rw [HA.out] at x1
  go_enter Try.func81, Try.ntmps81
  go_wp2
  go_loopw [5, 12] (fun out i wr => ∃ k : Nat, k ≤ F.t.R.length ∧ i = .int .i64 k ∧ wr.ownsRow wA.heap.size 3 1 out k (iv ((lens F.t.con T).take k)) ∧ Below wA.heap.size wA wr) (fun _ i _ => F.t.R.length - (intOf i).toNat)
  case atStart =>
    have e := HA.out
    have h0 := H0.out
    have h1 := HB0.out
    clear HA H0 HB0 HSA HFA HR
    subst e
    have hsz : (w.alloc (Obj.cells #[F.o.val, F.t.val] 29)).heap.size = w.heap.size + 1 := size_alloc _ _
    rw [hsz] at h0
    exact ⟨0, Nat.zero_le _, rfl, by rw [List.take_zero, hsz]; exact h0, h1⟩
  case round =>
    obtain ⟨k, hk, rfl, hown, hnx⟩ := hrel
    clear x1
    by_cases hlt : k < F.t.R.length
    · have hlti : (k : Int) < (F.t.R.length : Int) := by omega
      rcases HR.out with h3 | ⟨b, o, hta, hbb, hcell⟩
      · have h3' := congrArg List.length h3; rw [tv_length, List.length_nil] at h3'; omega
      rw [hta]
      obtain ⟨r, hr⟩ : ∃ r, r = F.t.R[k] := ⟨_, rfl⟩
      have hrm : r ∈ F.t.R := by rw [hr]; exact List.getElem_mem hlt
      have hcl : wr.cell? ⟨b, o + k, none⟩ = some (.slice r.a r.l.length r.c) := (hnx.cell (p := ⟨b, o + k, none⟩) hbb).trans (by rw [hr]; exact hcell k _ (tv_at hlt))
      have hgr := good_row HFI.out.good hrm
      have hra := (HFA.out.2.2 r hrm).on hnx
      have hlb : ∀ m ∈ T, m < r.l.length := fun m hm => by rw [hgr.1]; exact HFI.out.lt m hm
      obtain ⟨q, hq⟩ : ∃ q, q = near r.l T := ⟨_, rfl⟩
      have hqb : q < r.l.length := hlb q (by rw [hq]; exact near_mem HFI.out.some _ (Nat.le_refl _))
      have cn := nearest_law r s T wr hra (HSA.out.on hnx) HFI.out.set HFI.out.some hlb
      rw [← hq] at cn
      have CN := Lib.hid cn
      obtain ⟨x, hx⟩ : ∃ x, x = r.l.getD q 0 := ⟨_, rfl⟩
      have HL : Hid ((lens F.t.con T).take (k + 1) = (lens F.t.con T).take k ++ [x]) := Lib.hid (by
        rw [List.take_succ_eq_append_getElem (by rw [lens_length]; exact hlt), lens_at F T hlt, hx, hq, hr])
      obtain ⟨g1, g2, g3⟩ := hra
      rw [iv_length] at g1
      have hri : (r.l.length : Int) ≤ 9223372036854775807 := by unfold maxLen at g2; omega
      rcases g3 with g3 | ⟨b', o', ha, hbb', hcell'⟩
      · have g3' := congrArg List.length (iv_nil g3); rw [List.length_nil] at g3'; omega
      have hcq : wr.cell? ⟨b', o' + q, none⟩ = some (.int .i64 x) := by rw [hx, getD_at hqb]; exact hcell' q _ (iv_at hqb)
      have hqi : (q : Int) < (r.l.length : Int) := by omega
      have hlk : ((lens F.t.con T).take k).length = k := by rw [List.length_take, lens_length]; omega
      rw [ha] at hcl CN
      have HO := Lib.hid hown
      have HN := Lib.hid hnx
      have hszr := hnx.size
      clear hr hrm hcell hgr hlb hq cn hx g1 g2 hcell' ha hta hown hnx
      go_wp2_with fail
      refine CN.out.mono ?_
      rintro e W1 ⟨rfl, hb1⟩
      have hcq1 : W1.cell? ⟨b', o' + q, none⟩ = some (.int .i64 x) := (hb1.cell (p := ⟨b', o' + q, none⟩) hbb').trans hcq
      have hown := owns_below HO.out hb1
      have hnx1 := HN.out.trans (hb1.mono hszr)
      have hsz1 := hb1.size
      go_wp2_with (at_builtin; refine wpList_append_own _ rfl _ _ 22 rfl wA.heap.size 3 i0 (.int .i64 0) 1 8 Try.underlying22 hi hz0 hz1 hz2 rfl (by decide) _ _ _ rfl (hown.alloc _) ⟨W1.heap.size, 0, none⟩ 1 1 [.int .i64 x] rfl rfl (one_cell _ _ _) (by simp [Value.oneCell']) (by unfold maxLen; omega) (by omega) (by simp; omega) ?_; intro v' w1 hown' hgrow _)
      have R1 : w1.ownsRow wA.heap.size 3 1 v' (k + 1) (iv ((lens F.t.con T).take (k + 1))) := by rw [HL.out]; simpa [iv] using hown'
      have R2 : Below wA.heap.size wA w1 := (hnx1.alloc (by omega) _).grown hgrow (by simp; omega) (fun j hj => (hown.lt j hj).1)
      clear hown' hgrow hown hnx1 hcq1 hcq
      go_wp2
      go_roundw
      case rel => exact ⟨k + 1, by omega, by go_num, R1, R2⟩
      case measure => simp [intOf]; omega
    · obtain rfl : k = F.t.R.length := by omega
      go_wp2
      go_ret
      rw [List.take_of_length_le (by rw [lens_length]; exact Nat.le_refl _)] at hown
      rw [← lens_length F T] at hown
      obtain ⟨t, ht, htl, hto, hti⟩ := row_of_own hown
      exact ⟨t, congrArg Ending.returned ht, htl, hto, hti.wide hbA.size (Nat.le_refl _), hbA.trans (hnx.mono hbA.size)⟩
set_option maxHeartbeats 1000000 in
theorem l2Serve_any (F : Fld) (s : Row) (T : List Nat) (w : World) (hF : F.At w) (hs : s.At w) (hf : Fine F s T) :
    Calls Try.prog 49 #[F.val, .slice s.a s.l.length s.c] w fun e w' => e = .returned (.int .i64 (lens F.t.con T).sum) ∧ Below w.heap.size w w' := by
  obtain ⟨wA, hA, hbA, bx, hFA, hszA⟩ := laid_fld F w 29 hF
  have HSA := Lib.hid (hs.on hbA)
  have HFA := Lib.hid hFA
  have HBX := Lib.hid bx
  have HA := Lib.hid hA
  have hsz := good_sizes hf.good
  have hRi : (F.t.R.length : Int) ≤ 7 := by omega
  have HFI := Lib.hid hf
  have HLB := Lib.hid (lens_bound hf.good T)
  clear hF hs hA hFA bx hf
  show Calls _ _ #[.agg #[F.o.val, .slice F.t.a F.t.R.length F.t.c], _] w _
  go_enter Try.func49, Try.ntmps49
  go_wp2
  go_loopw [5, 6] (fun sv i wr => ∃ k : Nat, k ≤ F.t.R.length ∧ i = .int .i64 k ∧ sv = .int .i64 ((lens F.t.con T).take k).sum ∧ Below wA.heap.size wA wr) (fun _ i _ => F.t.R.length - (intOf i).toNat)
  case atStart => exact ⟨0, Nat.zero_le _, rfl, by simp, by rw [HA.out]; exact Below.refl _ _⟩
  case round =>
    obtain ⟨k, hk, rfl, rfl, hnx⟩ := hrel
    have y0 := (HBX.out.on hnx).c0
    have y1 : wr.cell? ⟨w.heap.size, 1, none⟩ = some (.slice F.t.a F.t.R.length F.t.c) := (HBX.out.on hnx).c1
    by_cases hlt : k < F.t.R.length
    · have hlti : (k : Int) < (F.t.R.length : Int) := by omega
      obtain ⟨x, hx⟩ : ∃ x, x = F.t.R[k].l.getD (near F.t.R[k].l T) 0 := ⟨_, rfl⟩
      have cn := l2Nearest_any F s T k wr (HFA.out.on hnx) (HSA.out.on hnx) HFI.out.good HFI.out.set HFI.out.some HFI.out.lt hlt
      rw [← hx] at cn
      have CN := Lib.hid cn
      have hx2 : (lens F.t.con T)[k]'(by rw [lens_length]; exact hlt) = x := by rw [lens_at F T hlt, hx]
      have hxb := HLB.out x (by rw [← hx2]; exact List.getElem_mem _)
      obtain ⟨y, hy⟩ : ∃ y, y = ((lens F.t.con T).take k).sum := ⟨_, rfl⟩
      have hyb := take_bound HLB.out k
      rw [← hy] at hyb ⊢
      have HS : Hid (((lens F.t.con T).take (k + 1)).sum = y + x) := Lib.hid (by rw [sum_step (by rw [lens_length]; exact hlt), hx2, hy])
      have e1 : (0 : Int) ≤ y + x := by omega
      have e2 : y + x ≤ 9223372036854775807 := by omega
      clear hx cn hx2 hy
      go_wp2_with fail
      refine (show Calls _ _ _ _ _ from CN.out).mono ?_
      rintro e W1 ⟨rfl, hb1⟩
      have R2 := hnx.trans (hb1.mono hnx.size)
      clear hb1 hnx y0 y1
      go_wp2
      go_roundw
      case rel => exact ⟨k + 1, by omega, by go_num, by rw [HS.out], R2⟩
      case measure => simp [intOf]; omega
    · obtain rfl : k = F.t.R.length := by omega
      have HT : Hid ((lens F.t.con T).take F.t.R.length = lens F.t.con T) := Lib.hid (List.take_of_length_le (by rw [lens_length]; exact Nat.le_refl _))
      go_wp2
      go_ret
      exact ⟨by rw [HT.out]; rfl, hbA.trans (hnx.mono hbA.size)⟩

set_option maxHeartbeats 1000000 in
theorem serviceFor_any (F : Fld) (s : Row) (T : List Nat) (w : World) (hF : F.At w) (hs : s.At w) (hf : Fine F s T) :
    Calls Try.prog 66 #[F.val, .slice s.a s.l.length s.c] w fun e w' => e = .returned (.int .i64 (lens F.t.con T).sum) ∧ Below w.heap.size w w' := by
  obtain ⟨wA, hA, hbA, bx, hFA, hszA⟩ := laid_fld F w 29 hF
  have HSA := Lib.hid (hs.on hbA)
  have HFA := Lib.hid hFA
  have HA := Lib.hid hA
  have y0 := bx.c0
  have y1 := bx.c1
  rw [hA] at y0 y1
  have CT := Lib.hid (servedLengths_any F s T wA hFA HSA.out hf)
  have HLB := Lib.hid (lens_bound hf.good T)
  have hsz := good_sizes hf.good
  clear hF hs hA hFA bx hf
  show Calls _ _ #[.agg #[F.o.val, F.t.val], _] w _
  go_enter Try.func66, Try.ntmps66
  go_wp2_with fail
  rw [show w.alloc (Obj.cells #[F.o.val, F.t.val] 29) = wA from HA.out.symm]
  refine (show Calls _ _ _ _ _ from CT.out).mono ?_
  rintro e W2 ⟨t, rfl, htl, _, hti, hb2⟩
  have c3 := Lib.hid (sumOf_any t W2 hti.at (by rw [htl]; exact HLB.out) (by rw [htl, lens_length]; omega))
  have HTL := Lib.hid htl
  clear htl hti y0 y1
  go_wp2_with fail
  refine c3.out.mono ?_
  rintro e W3 ⟨rfl, rfl⟩
  go_wp2
  go_ret
  exact ⟨by rw [← HTL.out]; rfl, hbA.trans (hb2.mono hbA.size)⟩

end Go.Proofs.Ytemflcegkebloaa
