/- The moves of a plan and their costs, on both sides. Condition: Season and table read as such. -/
import Derived.Test.YtifgmbljimfebaaPairMoveCost
import Derived.Deep.AppendLies
namespace Go.Proofs.Ytifgmbljimfebaa
open Go.RowKit Go.Shelf

/-- The sets of a plan, and the set before each of its rounds. -/
def planT (p : List (List Int)) (i : Nat) : List Nat := (p.getD i []).map Int.toNat
def beforeN (p : List (List Int)) : Nat → List Nat
  | 0 => []
  | i + 1 => planT p i
def movesTo (o x k : List Int) (r : List (List (List Int))) (p : List (List Int)) (m : Nat) : List Int := (List.range m).map fun i => moveC o x k (r.getD i []) (beforeN p i) (planT p i)
def movesL (o x k : List Int) (r : List (List (List Int))) (p : List (List Int)) : List Int := movesTo o x k r p p.length
theorem movesTo_step (o x k : List Int) (r : List (List (List Int))) (p : List (List Int)) (m : Nat) : movesTo o x k r p (m + 1) = movesTo o x k r p m ++ [moveC o x k (r.getD m []) (beforeN p m) (planT p m)] := by unfold movesTo; rw [List.range_succ, List.map_append]; rfl
theorem movesTo_len (o x k : List Int) (r : List (List (List Int))) (p : List (List Int)) (m : Nat) : (movesTo o x k r p m).length = m := by simp [movesTo]
theorem plan_set {n : Nat} {r : List (List (List Int))} {p : List (List Int)} (h : planB n r p = true) {i : Nat} (hi : i < p.length) : p.getD i [] = up (planT p i) ∧ (∀ m ∈ planT p i, m < n) ∧ (planT p i).Nodup ∧ (0 < (planT p i).length ∨ (r.getD i []).length = 0) ∧ i < r.length := by
  unfold planB at h
  simp only [Bool.and_eq_true, decide_eq_true_eq, List.all_eq_true] at h
  have hc := h.2 i (List.mem_range.2 hi)
  unfold canB at hc
  simp only [Bool.and_eq_true, Bool.or_eq_true, decide_eq_true_eq] at hc
  have hb := rise_bounds n (p.getD i []) (-1) hc.1
  have e : p.getD i [] = up (planT p i) := by
    unfold planT up
    rw [List.map_map]
    refine (List.map_id _).symm.trans (List.map_congr_left fun x hx => ?_)
    have := hb x hx
    simp only [id, Function.comp]; omega
  refine ⟨e, fun m hm => ?_, set_nodup (n := n) (by rw [← e]; exact hc.1), ?_, by omega⟩
  · unfold planT at hm
    obtain ⟨x, hx, rfl⟩ := List.mem_map.1 hm
    have := hb x hx
    omega
  · have := hc.2
    rw [e, up_length] at this
    exact this
theorem plan_moves {S : Sea} {p : List (List Int)} (hg : S.good = true) (h : planB S.o.l.length S.r.con p = true) {i : Nat} (hi : i < p.length) {s t : Row} (hs : s.l = up (beforeN p i)) (ht : t.l = p.getD i []) : Moves S i s t (beforeN p i) (planT p i) := by
  obtain ⟨h1, h2, h3, h4, h5⟩ := plan_set h hi
  have hb : (∀ m ∈ beforeN p i, m < S.o.l.length) ∧ (beforeN p i).Nodup := by
    cases i with
    | zero => exact ⟨fun m hm => (by cases hm), List.nodup_nil⟩
    | succ j =>
      obtain ⟨_, g2, g3, _, _⟩ := plan_set h (i := j) (by omega)
      exact ⟨g2, g3⟩
  exact ⟨hg, by rw [← Cube.con_length]; exact h5, hs, ht.trans h1, hb.1, h2, hb.2, h3, h4⟩
theorem movesTo_bound {S : Sea} {p : List (List Int)} (hg : S.good = true) (h : planB S.o.l.length S.r.con p = true) {m : Nat} (hm : m ≤ p.length) : ∀ y ∈ movesTo S.o.l S.x.l S.k.l S.r.con p m, 0 ≤ y ∧ y ≤ 1980 := by
  intro y hy
  unfold movesTo at hy
  obtain ⟨i, hi, rfl⟩ := List.mem_map.1 hy
  have := List.mem_range.1 hi
  exact moveC_bound (plan_moves hg h (i := i) (by omega) (s := ⟨none, 0, up (beforeN p i)⟩) (t := ⟨none, 0, p.getD i []⟩) rfl rfl)
theorem plan_len {S : Sea} {p : List (List Int)} (hg : S.good = true) (h : planB S.o.l.length S.r.con p = true) : p.length ≤ 5 := by
  have h1 := (sea_costs hg).2.2.2.1
  unfold planB at h
  simp only [Bool.and_eq_true, decide_eq_true_eq] at h
  omega
theorem sumL_bound {l : List Int} {c : Int} (h : ∀ x ∈ l, 0 ≤ x ∧ x ≤ c) : 0 ≤ l.sum ∧ l.sum ≤ c * l.length := by
  induction l with
  | nil => simp
  | cons x l ih =>
    have h1 := h x List.mem_cons_self
    have h2 := ih fun y hy => h y (List.mem_cons_of_mem _ hy)
    rw [List.sum_cons, List.length_cons]
    have : c * ((l.length + 1 : Nat) : Int) = c * l.length + c := by push_cast; rw [Int.mul_add, Int.mul_one]
    omega
theorem empty_at (w : World) : Row.At (w.alloc (.cells #[] 3)) ⟨some ⟨w.heap.size, 0, none⟩, 0, []⟩ := ⟨by simp [iv], (show 0 ≤ maxLen by decide), .inl rfl⟩

set_option maxHeartbeats 600000 in
theorem sumM_any (r : Row) (w : World) (hr : r.At w) (hb : ∀ x ∈ r.l, 0 ≤ x ∧ x ≤ 1980) (hn : r.l.length ≤ 5) :
    Calls Try.prog 67 #[.slice r.a r.l.length r.c] w fun e w' => e = .returned (.int .i64 r.l.sum) ∧ w' = w := by
  obtain ⟨a, c, l⟩ := r
  obtain ⟨h1, h2, h3⟩ := hr
  simp only at h1 h2 h3 hb hn ⊢
  have hni : (l.length : Int) ≤ 5 := by omega
  have HR := Lib.hid h3
  have HB := Lib.hid hb
  clear h3 hb
  go_enter Try.func67, Try.ntmps67
  go_wp2
  go_loopw [3, 8] (fun sv i wr => ∃ k : Nat, k ≤ l.length ∧ i = .int .i64 k ∧ sv = .int .i64 (l.take k).sum ∧ w = wr) (fun _ i _ => l.length - (intOf i).toNat)
  case atStart => exact ⟨0, Nat.zero_le _, rfl, by simp, rfl⟩
  case round =>
    obtain ⟨k, hk, rfl, rfl, rfl⟩ := hrel
    by_cases hlt : k < l.length
    · have hlti : (k : Int) < (l.length : Int) := by omega
      rcases HR.out with h3 | ⟨b, o, rfl, hbb, hcell⟩
      · have h3' := congrArg List.length (iv_nil h3); rw [List.length_nil] at h3'; omega
      obtain ⟨x, hx⟩ : ∃ x, x = l[k] := ⟨_, rfl⟩
      have hcl : w.cell? ⟨b, o + k, none⟩ = some (.int .i64 x) := by rw [hx]; exact hcell k _ (iv_at hlt)
      have hx2 := HB.out x (by rw [hx]; exact List.getElem_mem hlt)
      obtain ⟨y, hy⟩ : ∃ y, y = (l.take k).sum := ⟨_, rfl⟩
      have hy2 := sumL_bound (l := l.take k) (c := 1980) fun x hx => HB.out x (List.mem_of_mem_take hx)
      have hlk : (l.take k).length ≤ 5 := by rw [List.length_take]; omega
      rw [← hy] at hy2 ⊢
      have HS : Hid ((l.take (k + 1)).sum = y + x) := Lib.hid (by rw [sum_step hlt, hy, hx])
      have e1 : (0 : Int) ≤ y + x := by omega
      have e2 : y + x ≤ 9223372036854775807 := by omega
      clear hx hcell hy hy2 hlk
      go_wp2
      go_roundw
      case rel => exact ⟨k + 1, by omega, by go_num, by rw [HS.out], by first | rfl | trivial⟩
      case measure => simp [intOf]; omega
    · obtain rfl : k = l.length := by omega
      go_wp2
      go_ret
      exact ⟨by rw [List.take_length]; rfl, rfl⟩

set_option maxHeartbeats 600000 in
theorem l10Sum_any (r : Row) (w : World) (hr : r.At w) (hb : ∀ x ∈ r.l, 0 ≤ x ∧ x ≤ 1980) (hn : r.l.length ≤ 5) :
    Calls Try.prog 37 #[.slice r.a r.l.length r.c] w fun e w' => e = .returned (.int .i64 r.l.sum) ∧ w' = w := by
  obtain ⟨a, c, l⟩ := r
  obtain ⟨h1, h2, h3⟩ := hr
  simp only at h1 h2 h3 hb hn ⊢
  have hni : (l.length : Int) ≤ 5 := by omega
  have HR := Lib.hid h3
  have HB := Lib.hid hb
  clear h3 hb
  go_enter Try.func37, Try.ntmps37
  go_wp2
  go_loopw [3, 4] (fun sv i wr => ∃ k : Nat, k ≤ l.length ∧ i = .int .i64 k ∧ sv = .int .i64 (l.take k).sum ∧ w = wr) (fun _ i _ => l.length - (intOf i).toNat)
  case atStart => exact ⟨0, Nat.zero_le _, rfl, by simp, rfl⟩
  case round =>
    obtain ⟨k, hk, rfl, rfl, rfl⟩ := hrel
    by_cases hlt : k < l.length
    · have hlti : (k : Int) < (l.length : Int) := by omega
      rcases HR.out with h3 | ⟨b, o, rfl, hbb, hcell⟩
      · have h3' := congrArg List.length (iv_nil h3); rw [List.length_nil] at h3'; omega
      obtain ⟨x, hx⟩ : ∃ x, x = l[k] := ⟨_, rfl⟩
      have hcl : w.cell? ⟨b, o + k, none⟩ = some (.int .i64 x) := by rw [hx]; exact hcell k _ (iv_at hlt)
      have hx2 := HB.out x (by rw [hx]; exact List.getElem_mem hlt)
      obtain ⟨y, hy⟩ : ∃ y, y = (l.take k).sum := ⟨_, rfl⟩
      have hy2 := sumL_bound (l := l.take k) (c := 1980) fun x hx => HB.out x (List.mem_of_mem_take hx)
      have hlk : (l.take k).length ≤ 5 := by rw [List.length_take]; omega
      rw [← hy] at hy2 ⊢
      have HS : Hid ((l.take (k + 1)).sum = y + x) := Lib.hid (by rw [sum_step hlt, hy, hx])
      have e1 : (0 : Int) ≤ y + x := by omega
      have e2 : y + x ≤ 9223372036854775807 := by omega
      clear hx hcell hy hy2 hlk
      go_wp2
      go_roundw
      case rel => exact ⟨k + 1, by omega, by go_num, by rw [HS.out], by first | rfl | trivial⟩
      case measure => simp [intOf]; omega
    · obtain rfl : k = l.length := by omega
      go_wp2
      go_ret
      exact ⟨by rw [List.take_length]; rfl, rfl⟩

set_option maxRecDepth 32000 in
set_option maxHeartbeats 2000000 in
theorem l10Moves_any (S : Sea) (P : Tab) (w : World) (hS : S.At w) (hP : P.At w) (hg : S.good = true) (hp : planB S.o.l.length S.r.con P.con = true) :
    Calls Try.prog 38 #[.agg #[.slice S.o.a S.o.l.length S.o.c, .slice S.x.a S.x.l.length S.x.c, .slice S.k.a S.k.l.length S.k.c, .slice S.r.a S.r.T.length S.r.c], .slice P.a P.R.length P.c] w fun e w' => ∃ t : Row, e = .returned (.slice t.a t.l.length t.c) ∧ t.l = movesL S.o.l S.x.l S.k.l S.r.con P.con ∧ t.Own 3 w' ∧ t.In w.heap.size w'.heap.size w' ∧ Below w.heap.size w w' := by
  obtain ⟨i0, hi, hz0, hz1, hz2⟩ := info_parts infoInt
  obtain ⟨wA, hA, hbA, bx, hSA, hszA⟩ := laid_sea S w 31 hS
  obtain ⟨M, hM⟩ : ∃ M, M = P.R.length := ⟨_, rfl⟩
  obtain ⟨pa, hpa⟩ : ∃ a, a = P.a := ⟨_, rfl⟩
  have hM5 : M ≤ 5 := by have := plan_len hg hp; rw [con_length, ← hM] at this; exact this
  have hMi : (M : Int) ≤ 5 := by omega
  have HH : Hid (∀ u, Below wA.heap.size wA u → SeaTab S P w.heap.size 0 u) := Lib.hid fun u hu => ⟨bx.on hu, hSA.on hu, (hP.on hbA).on hu⟩
  have HMV := Lib.hid (fun k (hk : k < M) (s t : Row) (hs : s.l = up (beforeN P.con k)) (ht : t.l = P.con.getD k []) => plan_moves hg hp (i := k) (by rw [con_length, ← hM]; exact hk) hs ht)
  have HBV := Lib.hid (fun k (hk : k < M) => (plan_set hp (i := k) (by rw [con_length, ← hM]; exact hk)).1)
  have H0 := Lib.hid (owns_below (empty_own wA) (below_alloc (wA.alloc (.cells #[] 3)) (.cells #[] 3)))
  have HE0 := Lib.hid (empty_at (wA.alloc (.cells #[] 3)))
  have HB0 := Lib.hid ((below_alloc wA (.cells #[] 3)).alloc (by rw [size_alloc]; omega) (.cells #[] 3))
  have HM := Lib.hid hM
  have HPA := Lib.hid hpa
  have HA := Lib.hid hA
  have HEND : Hid (movesTo S.o.l S.x.l S.k.l S.r.con P.con M = movesL S.o.l S.x.l S.k.l S.r.con P.con) := Lib.hid (by unfold movesL; rw [con_length, ← hM])
  have HBA := Lib.hid hbA
  rw [← HEND.out, ← hM, ← hpa]
  clear hS hP hA bx hSA hg hp hM hpa hbA
  go_enter Try.func38, Try.ntmps38
  go_wp2
  go_loopw [5, 6, 7] (fun out bv i wr => ∃ (k : Nat) (y : Row), k ≤ M ∧ i = .int .i64 k ∧ bv = .slice y.a y.l.length y.c ∧ Hid (y.l = up (beforeN P.con k)) ∧ Hid (y.At wr) ∧ wr.ownsRow wA.heap.size 3 1 out k (iv (movesTo S.o.l S.x.l S.k.l S.r.con P.con k)) ∧ Below wA.heap.size wA wr) (fun _ _ i _ => M - (intOf i).toNat)
  case atStart =>
    have h0 := H0.out
    have h1 := HB0.out
    have h2 := HE0.out
    have e := HA.out
    rw [size_alloc, hszA] at h2
    rw [hszA] at h0
    rw [e] at h0 h1 h2
    have hsz : (w.alloc (Obj.cells #[.slice S.o.a S.o.l.length S.o.c, .slice S.x.a S.x.l.length S.x.c, .slice S.k.a S.k.l.length S.k.c, .slice S.r.a S.r.T.length S.r.c] 31)).heap.size = w.heap.size + 1 := size_alloc _ _
    refine ⟨0, ⟨some ⟨w.heap.size + 1 + 1, 0, none⟩, 0, []⟩, Nat.zero_le _, rfl, rfl, Lib.hid rfl, Lib.hid h2, ?_, ?_⟩
    · rw [hszA]; exact h0
    · rw [e]; exact h1
  case round =>
    obtain ⟨k, y, hk, rfl, rfl, HYL, HYA, hown0, hnx⟩ := hrel
    have hh := HH.out wr hnx
    by_cases hlt : k < M
    · have hlti : (k : Int) < (M : Int) := by omega
      obtain ⟨b, o, r, ha, hcl, hrA, hre⟩ := tab_cell hh.tab (show k < P.R.length by rw [← HM.out]; exact hlt)
      have hrl : r.l = P.con.getD k [] := by rw [getD_con (by rw [← HM.out]; exact hlt), ← hre]
      have hpa' : pa = some ⟨b, o, none⟩ := HPA.out.trans ha
      obtain ⟨v, hv⟩ : ∃ v, v = moveC S.o.l S.x.l S.k.l (S.r.con.getD k []) (beforeN P.con k) (planT P.con k) := ⟨_, rfl⟩
      have HV : Hid (movesTo S.o.l S.x.l S.k.l S.r.con P.con (k + 1) = movesTo S.o.l S.x.l S.k.l S.r.con P.con k ++ [v]) := Lib.hid (by rw [movesTo_step, hv])
      have C1 := Lib.hid (fun u (hu : Below wr.heap.size wr u) => (by
        have := l10Move_any S k y r _ _ u (hh.sea.on hu) (HYA.out.on hu) (hrA.on hu) (HMV.out k hlt y r HYL.out hrl)
        rw [← hv] at this; exact this : Calls Try.prog 43 #[.agg #[.slice S.o.a S.o.l.length S.o.c, .slice S.x.a S.x.l.length S.x.c, .slice S.k.a S.k.l.length S.k.c, .slice S.r.a S.r.T.length S.r.c], .int .i64 k, .slice y.a y.l.length y.c, .slice r.a r.l.length r.c] u fun e w' => e = .returned (.int .i64 v) ∧ Below u.heap.size u w'))
      have hd0 : Below wr.heap.size wr wr.drew := (Below.refl _ _).drew
      have HO := Lib.hid (owns_below hown0 hd0)
      have HNX := Lib.hid hnx
      have hszr : wr.heap.size ≤ wr.drew.heap.size := hd0.size
      have hszA2 : wA.heap.size ≤ wr.heap.size := hnx.size
      have hN : Below wA.heap.size wA wr.drew := hnx.drew
      have hszN : wA.heap.size ≤ wr.drew.heap.size := hN.size
      obtain ⟨b3, o3, r3, ha3, hclA, _, hre3⟩ := tab_cell (HH.out wA (Below.refl _ _)).tab (show k < P.R.length by rw [← HM.out]; exact hlt)
      obtain rfl : r3 = r := hre3.trans hre.symm
      have hbo3 : (some (⟨b3, o3, none⟩ : Addr)) = some ⟨b, o, none⟩ := ha3.symm.trans ha
      simp only [Option.some.injEq, Addr.mk.injEq, and_true] at hbo3
      obtain ⟨rfl, rfl⟩ := hbo3
      have HS : Hid (∀ u, Below wA.heap.size wA u → ((u.cell? ⟨w.heap.size, 0, none⟩ = some (.slice S.o.a S.o.l.length S.o.c) ∧ u.cell? ⟨w.heap.size, 1, none⟩ = some (.slice S.x.a S.x.l.length S.x.c) ∧ u.cell? ⟨w.heap.size, 2, none⟩ = some (.slice S.k.a S.k.l.length S.k.c) ∧ u.cell? ⟨w.heap.size, 3, none⟩ = some (.slice S.r.a S.r.T.length S.r.c) ∧ u.cell? ⟨b3, o3 + k, none⟩ = some (.slice r3.a r3.l.length r3.c)) ∧ Below wA.heap.size wA u)) := Lib.hid fun u hu => by
        have hb := (HH.out u hu).box
        exact ⟨⟨hb.c0, hb.c1, hb.c2, hb.c3, (hu.cell (p := ⟨b3, o3 + k, none⟩) (World.block_lt_of_cell? _ _ hclA)).trans hclA⟩, hu⟩
      have s0 := HS.out _ hN
      have HR1 : Hid (r3.l = up (beforeN P.con (k + 1))) := Lib.hid (hrl.trans (HBV.out k hlt))
      have HRE : Hid (∃ h : k < P.R.length, r3 = P.R[k]) := Lib.hid ⟨by rw [← HM.out]; exact hlt, hre⟩
      clear hv hown0 hnx hh hcl hrA hre hrl ha hclA ha3 hre3
      subst hpa'
      go_wp2_with fail
      go_region_held3 (fun u => ((u.cell? ⟨w.heap.size, 0, none⟩ = some (.slice S.o.a S.o.l.length S.o.c) ∧ u.cell? ⟨w.heap.size, 1, none⟩ = some (.slice S.x.a S.x.l.length S.x.c) ∧ u.cell? ⟨w.heap.size, 2, none⟩ = some (.slice S.k.a S.k.l.length S.k.c) ∧ u.cell? ⟨w.heap.size, 3, none⟩ = some (.slice S.r.a S.r.T.length S.r.c) ∧ u.cell? ⟨b3, o3 + k, none⟩ = some (.slice r3.a r3.l.length r3.c)) ∧ Below wA.heap.size wA u)) (first | exact s0 | exact HS.out _ (by assumption)) (first | (go_at_call 43; refine (show Calls _ _ _ _ _ from C1.out _ hd0).mono ?_; rintro e u2 ⟨rfl, hb2⟩; have hown := owns_below HO.out hb2; have hsz2 := hb2.size; have hB2 : Below wA.heap.size wA u2 := hN.trans (hb2.mono hszN); have hB3 : Below wA.heap.size wA (u2.alloc (.cells #[.int .i64 v] 3)) := hB2.alloc (by omega) _; clear hb2) | (refine step_append_lies _ rfl (.tmp 16) (.tmp 25) 22 rfl wA.heap.size 3 i0 (.int .i64 0) 1 8 Try.underlying22 hi hz0 hz1 hz2 rfl (by decide) _ _ _ rfl (hown.alloc _) ⟨u2.heap.size, 0, none⟩ 1 1 [.int .i64 v] rfl rfl (one_cell _ _ _) (by simp [Value.oneCell']) (by omega) (by unfold maxLen; omega) (by omega) (by simp; omega) _ rfl ?_; intro g cap w1 hown' hgrow hat hlt1; have hB4 : Below wA.heap.size wA w1 := hB3.grown hgrow (by simp; omega) (fun j hj => (hown.lt j hj).1)))
      have R1 : w1.ownsRow wA.heap.size 3 1 (.slice (some ⟨g, 0, none⟩) (k + 1) cap) (k + 1) (iv (movesTo S.o.l S.x.l S.k.l S.r.con P.con (k + 1))) := by rw [HV.out]; simpa [iv] using hown'
      have hh2 := HH.out w1 hB4
      obtain ⟨hkP, hre⟩ := HRE.out
      obtain ⟨b2, o2, r2, ha2, hcl2, hrA2, hre2⟩ := tab_cell hh2.tab hkP
      obtain rfl : r2 = r3 := hre2.trans hre.symm
      have hbo : (some (⟨b3, o3, none⟩ : Addr)) = some ⟨b2, o2, none⟩ := HPA.out.trans ha2
      simp only [Option.some.injEq, Addr.mk.injEq, and_true] at hbo
      obtain ⟨rfl, rfl⟩ := hbo
      have R3 := Lib.hid hrA2
      clear hown' hgrow hown hat s0 hB2 hB3 hsz2 hh2 ha2 hre2 hre hrA2 hkP HRE
      go_wp2
      go_roundw
      case rel => exact ⟨k + 1, r2, by omega, by go_num, rfl, HR1, R3, R1, hB4⟩
      case measure => simp [intOf]; omega
    · obtain rfl : k = M := by omega
      go_wp2
      go_ret
      obtain ⟨t, ht, htl, hto, hti⟩ := row_of_own (l := movesTo S.o.l S.x.l S.k.l S.r.con P.con k) (by rw [movesTo_len]; exact hown0)
      exact ⟨t, congrArg Ending.returned ht, htl, hto, hti.wide HBA.out.size (Nat.le_refl _), HBA.out.trans (hnx.mono HBA.out.size)⟩

set_option maxRecDepth 32000 in
set_option maxHeartbeats 2000000 in
/-- PlanMoves on the program's side. -/
theorem implMoves_any (S : Sea) (P : Tab) (w : World) (hS : S.At w) (hP : P.At w) (l : List Int) (b : Bool)
    (hv : ((S.good && planB S.o.l.length S.r.con P.con) = false ∧ l = [] ∧ b = false) ∨ (S.good = true ∧ planB S.o.l.length S.r.con P.con = true ∧ l = movesL S.o.l S.x.l S.k.l S.r.con P.con ∧ b = true)) :
    Calls Try.prog 66 #[.agg #[.slice S.o.a S.o.l.length S.o.c, .slice S.x.a S.x.l.length S.x.c, .slice S.k.a S.k.l.length S.k.c, .slice S.r.a S.r.T.length S.r.c], .slice P.a P.R.length P.c] w (PInts l b w) := by
  unfold PInts
  obtain ⟨i0, hi, hz0, hz1, hz2⟩ := info_parts infoInt
  obtain ⟨wA, hA, hbA, bx, hSA, hszA⟩ := laid_sea S w 31 hS
  obtain ⟨wB, hB⟩ : ∃ u, u = (wA.alloc (.cells #[] 3)).alloc (.cells #[] 3) := ⟨_, rfl⟩
  obtain ⟨M, hM⟩ : ∃ M, M = P.R.length := ⟨_, rfl⟩
  obtain ⟨pa, hpa⟩ : ∃ a, a = P.a := ⟨_, rfl⟩
  have hMi : (M : Int) ≤ 9223372036854775807 := by rw [hM]; exact tabLim hP
  have hbB : Below wA.heap.size wA wB := by rw [hB]; exact (below_alloc wA _).alloc (by rw [size_alloc]; omega) _
  have HH : Hid (∀ u, Below wA.heap.size wA u → SeaTab S P w.heap.size 0 u) := Lib.hid fun u hu => ⟨bx.on hu, hSA.on hu, (hP.on hbA).on hu⟩
  have H0 : Hid (wB.ownsRow wA.heap.size 3 1 (.slice (some ⟨w.heap.size + 1, 0, none⟩) 0 0) 0 (iv [])) := Lib.hid (by
    have := owns_below (empty_own wA) (below_alloc (wA.alloc (.cells #[] 3)) (.cells #[] 3))
    rw [← hB, hszA] at this; rw [hszA]; exact this)
  have HE0 : Hid (Row.At wB ⟨some ⟨w.heap.size + 1 + 1, 0, none⟩, 0, []⟩) := Lib.hid (by
    have := empty_at (wA.alloc (.cells #[] 3))
    rw [← hB, size_alloc, hszA] at this; exact this)
  obtain ⟨g0, hg0⟩ : ∃ g, g = S.good := ⟨_, rfl⟩
  obtain ⟨g1, hg1⟩ : ∃ g, g = (S.good && planB S.o.l.length S.r.con P.con) := ⟨_, rfl⟩
  have hh := HH.out wB hbB
  have x0 := hh.box.c0
  have x1 := hh.box.c1
  have x2 := hh.box.c2
  have x3 := hh.box.c3
  have CP : Hid (Calls Try.prog 82 #[.agg #[.slice S.o.a S.o.l.length S.o.c, .slice S.x.a S.x.l.length S.x.c, .slice S.k.a S.k.l.length S.k.c, .slice S.r.a S.r.T.length S.r.c], .slice pa M P.c] wB fun e w' => e = .returned (.tuple #[.bool g1, .bool g0]) ∧ Below wB.heap.size wB w') := Lib.hid (by rw [hpa, hM, hg0, hg1]; exact implIsPlan_any S P wB hh.sea hh.tab)
  have HBB : Hid (wB = ((w.alloc (Obj.cells #[.slice S.o.a S.o.l.length S.o.c, .slice S.x.a S.x.l.length S.x.c, .slice S.k.a S.k.l.length S.k.c, .slice S.r.a S.r.T.length S.r.c] 31)).alloc (.cells #[] 3)).alloc (.cells #[] 3)) := Lib.hid (by rw [hB, hA])
  rw [HBB.out] at x0 x1 x2 x3
  have HV := Lib.hid hv
  have HG1 := Lib.hid hg1
  have HM := Lib.hid hM
  have HPA := Lib.hid hpa
  have HBA := Lib.hid hbA
  have HBBB := Lib.hid hbB
  rw [← hM, ← hpa]
  clear hS hP hA hB bx hSA hM hpa hbA hbB hv hg0 hg1 hh
  go_enter Try.func66, Try.ntmps66
  go_wp2_with fail
  rw [← HBB.out]
  refine (show Calls _ _ _ _ _ from CP.out).mono ?_
  rintro e W1 ⟨rfl, hb1⟩
  have HB1 := Lib.hid (HBBB.out.trans (hb1.mono HBBB.out.size))
  have H1 := Lib.hid (owns_below H0.out hb1)
  have HE1 := Lib.hid (HE0.out.on hb1)
  clear x0 x1 x2 x3 hb1
  cases g1 with
  | false =>
    have HR : Hid (l = [] ∧ b = false) := Lib.hid (by
      rcases HV.out with h | ⟨h1, h2, _⟩
      · exact h.2
      · have := HG1.out; rw [h1, h2] at this; cases this)
    obtain ⟨rfl, rfl⟩ := HR.out
    go_wp2
    go_ret2
    obtain ⟨t, ht, htl, hto, hti⟩ := row_of_own (l := []) H1.out
    simp only [Value.slice.injEq] at ht
    obtain ⟨q1, q2, q3⟩ := ht
    refine ⟨t, ?_, htl, hto, hti.wide HBA.out.size (Nat.le_refl _), HBA.out.trans (HB1.out.mono HBA.out.size)⟩
    rw [← q1, ← q2, ← q3]; rfl
  | true =>
    have HR : Hid (S.good = true ∧ planB S.o.l.length S.r.con P.con = true ∧ l = movesL S.o.l S.x.l S.k.l S.r.con P.con ∧ b = true) := Lib.hid (by
      rcases HV.out with h | h
      · have := HG1.out; rw [h.1] at this; cases this
      · exact h)
    obtain ⟨hg, hp, rfl, rfl⟩ := HR.out
    have hM5 : M ≤ 5 := by have := plan_len hg hp; rw [con_length, ← HM.out] at this; exact this
    have HMV := Lib.hid (fun k (hk : k < M) (s t : Row) (hs : s.l = up (beforeN P.con k)) (ht : t.l = P.con.getD k []) => plan_moves hg hp (i := k) (by rw [con_length, ← HM.out]; exact hk) hs ht)
    have HBV := Lib.hid (fun k (hk : k < M) => (plan_set hp (i := k) (by rw [con_length, ← HM.out]; exact hk)).1)
    have HEND : Hid (movesTo S.o.l S.x.l S.k.l S.r.con P.con M = movesL S.o.l S.x.l S.k.l S.r.con P.con) := Lib.hid (by unfold movesL; rw [con_length, ← HM.out])
    clear hg hp HR HV
    go_wp2_with fail
    go_loopw [6, 7, 10, 11, 25] (fun out bv _ _ i wr => ∃ (k : Nat) (y : Row), k ≤ M ∧ i = .int .i64 k ∧ bv = .slice y.a y.l.length y.c ∧ Hid (y.l = up (beforeN P.con k)) ∧ Hid (y.At wr) ∧ wr.ownsRow wA.heap.size 3 1 out k (iv (movesTo S.o.l S.x.l S.k.l S.r.con P.con k)) ∧ Below wA.heap.size wA wr) (fun _ _ _ _ i _ => M - (intOf i).toNat)
    case atStart => exact ⟨0, ⟨some ⟨w.heap.size + 1 + 1, 0, none⟩, 0, []⟩, Nat.zero_le _, rfl, rfl, Lib.hid rfl, HE1, H1.out, HB1.out⟩
    case round =>
      obtain ⟨k, y, hk, rfl, rfl, HYL, HYA, hown0, hnx⟩ := hrel
      have hh := HH.out wr hnx
      by_cases hlt : k < M
      · have hlti : (k : Int) < (M : Int) := by omega
        obtain ⟨b, o, r, ha, hcl, hrA, hre⟩ := tab_cell hh.tab (show k < P.R.length by rw [← HM.out]; exact hlt)
        have hrl : r.l = P.con.getD k [] := by rw [getD_con (by rw [← HM.out]; exact hlt), ← hre]
        have hpa' : pa = some ⟨b, o, none⟩ := HPA.out.trans ha
        obtain ⟨v, hv⟩ : ∃ v, v = moveC S.o.l S.x.l S.k.l (S.r.con.getD k []) (beforeN P.con k) (planT P.con k) := ⟨_, rfl⟩
        have HV : Hid (movesTo S.o.l S.x.l S.k.l S.r.con P.con (k + 1) = movesTo S.o.l S.x.l S.k.l S.r.con P.con k ++ [v]) := Lib.hid (by rw [movesTo_step, hv])
        have C1 : Hid (Calls Try.prog 73 #[.agg #[.slice S.o.a S.o.l.length S.o.c, .slice S.x.a S.x.l.length S.x.c, .slice S.k.a S.k.l.length S.k.c, .slice S.r.a S.r.T.length S.r.c], .int .i64 k, .slice y.a y.l.length y.c, .slice r.a r.l.length r.c] wr fun e w' => e = .returned (.int .i64 v) ∧ Below wr.heap.size wr w') := Lib.hid (by
          rw [hv]; exact moveCost_any S k y r _ _ wr hh.sea HYA.out hrA (HMV.out k hlt y r HYL.out hrl))
        have HR1 : Hid (r.l = up (beforeN P.con (k + 1))) := Lib.hid (hrl.trans (HBV.out k hlt))
        have HRE : Hid (∃ h : k < P.R.length, r = P.R[k]) := Lib.hid ⟨by rw [← HM.out]; exact hlt, hre⟩
        have y0 := hh.box.c0
        have y1 := hh.box.c1
        have y2 := hh.box.c2
        have y3 := hh.box.c3
        have HO := Lib.hid hown0
        have HNX := Lib.hid hnx
        have hszr := hnx.size
        clear hv hown0 hnx hh hrA hre hrl ha
        subst hpa'
        go_wp2_with fail
        refine (show Calls _ _ _ _ _ from C1.out).mono ?_
        rintro e W2 ⟨rfl, hb2⟩
        have hown := owns_below HO.out hb2
        have hnx1 := HNX.out.trans (hb2.mono hszr)
        have hsz1 := hb2.size
        clear y0 y1 y2 y3 hcl
        go_wp2_with (at_builtin; refine wpList_append_own _ rfl _ _ 22 rfl wA.heap.size 3 i0 (.int .i64 0) 1 8 Try.underlying22 hi hz0 hz1 hz2 rfl (by decide) _ _ _ rfl (hown.alloc _) ⟨W2.heap.size, 0, none⟩ 1 1 [.int .i64 v] rfl rfl (one_cell _ _ _) (by simp [Value.oneCell']) (by unfold maxLen; omega) (by omega) (by simp; omega) ?_; intro v' w1 hown' hgrow _)
        have R1 : w1.ownsRow wA.heap.size 3 1 v' (k + 1) (iv (movesTo S.o.l S.x.l S.k.l S.r.con P.con (k + 1))) := by rw [HV.out]; simpa [iv] using hown'
        have R2 : Below wA.heap.size wA w1 := (hnx1.alloc (by omega) _).grown hgrow (by simp; omega) (fun j hj => (hown.lt j hj).1)
        have R3 : Hid (r.At w1) := Lib.hid (by
          obtain ⟨hkP, hre⟩ := HRE.out
          obtain ⟨_, _, r2, _, _, hrA2, hre2⟩ := tab_cell (HH.out w1 R2).tab hkP
          rw [hre, ← hre2]; exact hrA2)
        clear hown' hgrow hown hnx1 hsz1
        go_wp2
        go_roundw
        case rel => exact ⟨k + 1, r, by omega, by go_num, rfl, HR1, R3, R1, R2⟩
        case measure => simp [intOf]; omega
      · obtain rfl : k = M := by omega
        clear hh
        have HNX := Lib.hid hnx
        have HO := Lib.hid hown0
        clear hnx hown0
        go_wp2
        go_ret2
        obtain ⟨t, ht, htl, hto, hti⟩ := row_of_own (l := movesTo S.o.l S.x.l S.k.l S.r.con P.con k) (by rw [movesTo_len]; exact HO.out)
        exact ⟨t, congrArg (fun v => Ending.returned (.tuple #[v, .bool true])) ht, htl.trans HEND.out, hto, hti.wide HBA.out.size (Nat.le_refl _), HBA.out.trans (HNX.out.mono HBA.out.size)⟩

end Go.Proofs.Ytifgmbljimfebaa
