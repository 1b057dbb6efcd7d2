/- The contracts of the program's first set and of its step to the next one. Condition: sets of at most seven sites, owned. -/
import Derived.Test.YtemflcegkebloaaPlainSets
import Derived.Test.YtemflcegkebloaaServe
import Derived.IntWalk
namespace Go.Proofs.Ytemflcegkebloaa
open Go.RowKit

theorem row_put {r : Row} {lo hi : Nat} {w : World} (ho : r.Own 3 w) (hi' : r.In lo hi w) {a : Nat} (ha : a < r.l.length) (x : Int) : ∃ g, r.a = some ⟨g, 0, none⟩ ∧ lo ≤ g ∧ g < hi ∧ g < w.heap.size ∧ w.frozen? ⟨g, a, none⟩ = false ∧ w.cell? ⟨g, a, none⟩ = some (.int .i64 r.l[a]) ∧
    (Row.mk r.a r.c (r.l.set a x)).Own 3 (w.setCell ⟨g, a, none⟩ (.int .i64 x)) ∧ (Row.mk r.a r.c (r.l.set a x)).In lo hi (w.setCell ⟨g, a, none⟩ (.int .i64 x)) := by
  have hne : r.l ≠ [] := fun h => by rw [h] at ha; simp at ha
  obtain ⟨g, hga, hown⟩ := ho.resolve_left hne
  obtain ⟨_, _, h3⟩ := hi'
  rcases h3 with h3 | ⟨b, o, e, hl, hh, hb, _⟩
  · exact absurd (iv_nil h3) hne
  rw [hga] at e
  simp only [Option.some.injEq, Addr.mk.injEq] at e
  obtain ⟨rfl, rfl, _⟩ := e
  have hst := (hown.stored a (.int .i64 x)).1
  rw [show (iv r.l).set a (.int .i64 x) = iv (r.l.set a x) by unfold iv; rw [List.map_set]] at hst
  have hst' : (w.setCell ⟨g, a, none⟩ (.int .i64 x)).ownsRow 0 3 1 (.slice (some ⟨g, 0, none⟩) (r.l.set a x).length r.c) (r.l.set a x).length (iv (r.l.set a x)) := by rw [List.length_set]; exact hst
  obtain ⟨q1, q2, q3⟩ := row_of_owns hst'
  refine ⟨g, hga, hl, hh, hb, hown.frozenAt a, (hown.cellAt a (by omega)).trans (iv_at ha), .inr ⟨g, hga, hst'⟩, ⟨q1, q2, ?_⟩⟩
  rcases q3 with q3 | ⟨b', o', e', hb', hc'⟩
  · exact .inl q3
  · simp only [Option.some.injEq, Addr.mk.injEq] at e'
    obtain ⟨rfl, rfl, _⟩ := e'
    exact .inr ⟨_, _, hga, hl, hh, hb', hc'⟩

theorem up_range_step (k : Nat) : up (List.range (k + 1)) = up (List.range k) ++ [(k : Int)] := by unfold up; rw [List.range_succ, List.map_append]; rfl
theorem up_range_len (k : Nat) : (up (List.range k)).length = k := by rw [up_length, List.length_range]

set_option maxRecDepth 16000 in
set_option maxHeartbeats 1000000 in
theorem numbers_any (n : Nat) (w : World) (hn : n ≤ 7) :
    Calls Try.prog 84 #[.int .i64 n] w fun e w' => ∃ t : Row, e = .returned (.slice t.a t.l.length t.c) ∧ t.l = up (List.range n) ∧ t.Own 3 w' ∧ t.In w.heap.size w'.heap.size w' ∧ Below w.heap.size w w' := by
  obtain ⟨i0, hi, hz0, hz1, hz2⟩ := info_parts infoInt
  have hni : (n : Int) ≤ 7 := by omega
  have H0 := Lib.hid (empty_own w)
  have HB0 := Lib.hid (below_alloc w (.cells #[] 3))
  go_enter Try.func84, Try.ntmps84
  go_wp2
  go_loopw [3, 4, 7] (fun out _ i wr => ∃ k : Nat, k ≤ n ∧ i = .int .i64 k ∧ wr.ownsRow w.heap.size 3 1 out k (iv (up (List.range k))) ∧ Below w.heap.size w wr) (fun _ _ i _ => n - (intOf i).toNat)
  case atStart => exact ⟨0, Nat.zero_le _, rfl, H0.out, HB0.out⟩
  case round =>
    obtain ⟨k, hk, rfl, hown, hnx⟩ := hrel
    by_cases hlt : k < n
    · have hlti : (k : Int) < (n : Int) := by omega
      have HL := Lib.hid (up_range_step k)
      have hszr := hnx.size
      go_wp2_with (at_builtin; refine wpList_append_own _ rfl _ _ 22 rfl w.heap.size 3 i0 (.int .i64 0) 1 8 Try.underlying22 hi hz0 hz1 hz2 rfl (by decide) _ _ _ rfl (hown.alloc _) ⟨wr.heap.size, 0, none⟩ 1 1 [.int .i64 (k : Int)] rfl rfl (one_cell _ _ _) (by simp [Value.oneCell']) (by unfold maxLen; omega) (by omega) (by simp; omega) ?_; intro v' w1 hown' hgrow _)
      have R1 : w1.ownsRow w.heap.size 3 1 v' (k + 1) (iv (up (List.range (k + 1)))) := by rw [HL.out]; simpa [iv] using hown'
      have R2 : Below w.heap.size w w1 := (hnx.alloc (by omega) _).grown hgrow (by simp; omega) (fun j hj => (hown.lt j hj).1)
      clear hown' hgrow hown hnx
      go_wp2
      go_roundw
      case rel => exact ⟨k + 1, by omega, by go_num, R1, R2⟩
      case measure => simp [intOf]; omega
    · obtain rfl : k = n := by omega
      go_wp2
      go_ret
      obtain ⟨t, ht, htl, hto, hti⟩ := row_of_own (l := up (List.range k)) (by rw [up_range_len]; exact hown)
      exact ⟨t, congrArg Ending.returned ht, htl, hto, hti, hnx⟩

/-- A set in which the places from i up to m have gone on. -/
def fill (T : List Nat) (i m : Nat) : List Nat := T.take i ++ ((List.range (m - i)).map (fun j => T.getD i 0 + 1 + j) ++ T.drop m)
theorem fill_start {T : List Nat} {i : Nat} : fill T i i = T := by simp [fill]
theorem fill_end {T : List Nat} {i : Nat} : fill T i T.length = goOn T i := by simp [fill, goOn]
theorem fill_len {T : List Nat} {i m : Nat} (hi : i ≤ m) (hm : m ≤ T.length) : (fill T i m).length = T.length := by simp [fill]; omega
theorem fill_set {T : List Nat} {i m : Nat} (hi : i ≤ m) (hm : m < T.length) : (up (fill T i m)).set m ((T.getD i 0 + 1 + (m - i) : Nat) : Int) = up (fill T i (m + 1)) := by
  have h1 : (T.take i).length = i := by rw [List.length_take]; omega
  unfold up
  rw [← List.map_set]
  congr 1
  unfold fill
  rw [List.set_append_right _ _ (by rw [h1]; exact hi), h1]
  congr 1
  rw [List.set_append_right _ _ (by simp), List.drop_eq_getElem_cons hm, show m + 1 - i = (m - i) + 1 by omega, List.range_succ, List.map_append]
  simp
  rw [List.drop_eq_getElem_cons hm, List.set_cons_zero]
theorem getD_up {T : List Nat} {i : Nat} (h : i < T.length) : (T.getD i 0 : Nat) = T[i] := by rw [List.getD_eq_getElem?_getD, List.getElem?_eq_getElem h]; rfl
theorem atFrom_lt {n : Nat} {T : List Nat} : ∀ {i j : Nat}, atFrom n T i = some j → j < i
  | 0, j, h => by simp [atFrom] at h
  | i + 1, j, h => by
    unfold atFrom at h
    split at h
    · exact Nat.lt_succ_of_lt (atFrom_lt h)
    · cases h; exact Nat.lt_succ_self _

set_option maxRecDepth 32000 in
set_option maxHeartbeats 2000000 in
theorem toNext_any (z : Row) (T : List Nat) (n lo hi' : Nat) (w : World) (ho : z.Own 3 w) (hin : z.In lo hi' w) (hz : z.l = up T) (hT : 0 < T.length) (hT7 : T.length ≤ n) (hn : n ≤ 7) (hlt : ∀ x ∈ T, x < n) (g : Nat) (hg : z.a = some ⟨g, 0, none⟩) :
    Calls Try.prog 86 #[.slice z.a z.l.length z.c, .int .i64 n] w fun e w' => e = .returned (.bool (nextT n T).isSome) ∧ (Row.mk z.a z.c (up ((nextT n T).getD T))).Own 3 w' ∧ (Row.mk z.a z.c (up ((nextT n T).getD T))).In lo hi' w' ∧ Touch g (g + 1) w w' := by
  obtain ⟨za, zc, zl⟩ := z
  simp only at hz hg ho hin ⊢
  subst hz; subst hg
  have HO := Lib.hid ho
  have HI := Lib.hid hin
  obtain ⟨k, hk⟩ : ∃ k, k = T.length := ⟨_, rfl⟩
  have HK := Lib.hid hk
  rw [up_length, ← hk]
  rw [← hk] at hT hT7
  have hki : (k : Int) ≤ 7 := by omega
  have hki0 : (1 : Int) ≤ (k : Int) := by omega
  have hni : (n : Int) ≤ 7 := by omega
  have hkn : (k : Int) ≤ (n : Int) := by omega
  have HCE : Hid (∀ j, (hj : j < T.length) → w.cell? ⟨g, j, none⟩ = some (.int .i64 ((T.getD j 0 : Nat) : Int))) := Lib.hid fun j hj => by
    obtain ⟨g', e, _, _, _, _, hc, _⟩ := row_put ho hin (a := j) (by simp only [up_length]; exact hj) 0
    simp only [Option.some.injEq, Addr.mk.injEq] at e
    obtain ⟨rfl, _⟩ := e
    rw [hc, getD_up hj, up_at hj]
  have HLT : Hid (∀ j, j < T.length → T.getD j 0 < n) := Lib.hid fun j hj => by rw [getD_up hj]; exact hlt _ (List.getElem_mem _)
  have hw0 : IntKind.i64.wrap ((k : Int) - 1) = (k : Int) - 1 := IntWalk.i64_in _ (by omega)
  clear ho hin hk hlt
  go_enter Try.func86, Try.ntmps86
  go_wp2
  go_loopw [5] (fun av wr => ∃ (i : Nat) (a : Int), i ≤ k ∧ Hid (a = (i : Int) - 1) ∧ av = .int .i64 a ∧ wr = w ∧ Hid (atFrom n T T.length = atFrom n T i)) (fun av _ => (intOf av + 1).toNat)
  case atStart => exact ⟨k, (k : Int) - 1, Nat.le_refl _, Lib.hid rfl, rfl, rfl, Lib.hid (by rw [HK.out])⟩
  case round =>
    obtain ⟨i, a, hi, HAI, rfl, rfl, HAT⟩ := hrel
    cases i with
    | zero =>
      obtain rfl : a = -1 := by have := HAI.out; omega
      have HR : Hid (nextT n T = none) := Lib.hid (by unfold nextT; rw [HAT.out]; rfl)
      go_wp2
      go_ret
      rw [HR.out]
      exact ⟨rfl, HO.out, HI.out, Touch.refl _ _ _⟩
    | succ j =>
      obtain rfl : a = (j : Int) := by have := HAI.out; omega
      have hj : j < k := by omega
      have hji : (j : Int) < (k : Int) := by omega
      have hjT : j < T.length := by rw [← HK.out]; exact hj
      obtain ⟨x, hx⟩ : ∃ x, x = T.getD j 0 := ⟨_, rfl⟩
      have hcl : wr.cell? ⟨g, j, none⟩ = some (.int .i64 (x : Int)) := by rw [hx]; exact HCE.out j hjT
      have hxn : x < n := by rw [hx]; exact HLT.out j hjT
      have hxi : (x : Int) ≤ 7 := by omega
      have HX := Lib.hid hx
      clear hx
      have w1 : IntKind.i64.wrap ((n : Int) - (k : Int)) = (n : Int) - (k : Int) := IntWalk.i64_in _ (by omega)
      have w2 : IntKind.i64.wrap ((n : Int) - (k : Int) + (j : Int)) = (n : Int) - (k : Int) + (j : Int) := IntWalk.i64_in _ (by omega)
      have w3 : IntKind.i64.wrap ((j : Int) - 1) = (j : Int) - 1 := IntWalk.i64_in _ (by omega)
      have HAF : Hid (atFrom n T (j + 1) = if x + k = n + j then atFrom n T j else some j) := Lib.hid (by rw [HX.out, HK.out]; rfl)
      by_cases he : x + k = n + j
      · have hE : ((x : Int) == (n : Int) - (k : Int) + (j : Int)) = true := by simp; omega
        have HS := Lib.hid (HAT.out.trans (HAF.out.trans (if_pos he)))
        clear he
        go_wp2
        go_roundw
        case rel => exact ⟨j, (j : Int) - 1, by omega, Lib.hid rfl, rfl, by first | rfl | trivial, HS⟩
        case measure => simp [intOf]
      · have hE : ((x : Int) == (n : Int) - (k : Int) + (j : Int)) = false := by simp; omega
        have HS := Lib.hid (HAT.out.trans (HAF.out.trans (if_neg he)))
        have HR : Hid (nextT n T = some (goOn T j)) := Lib.hid (by unfold nextT; rw [HS.out]; rfl)
        clear he
        have e1 : IntKind.i64.wrap ((x : Int) + 1) = (x : Int) + 1 := IntWalk.i64_in _ (by omega)
        have HO0 := Lib.hid HO.out
        have HI0 := Lib.hid HI.out
        obtain ⟨W0, hW0⟩ : ∃ u, u = wr := ⟨_, rfl⟩
        rw [← hW0] at HO0 HI0 hcl ⊢
        have HW0 := Lib.hid hW0
        clear hW0
        go_wp2
        go_loopw [7] (fun iv wr => ∃ m : Nat, j ≤ m ∧ m ≤ k ∧ iv = .int .i64 m ∧ (Row.mk (some ⟨g, 0, none⟩) zc (up (fill T j m))).Own 3 wr ∧ (Row.mk (some ⟨g, 0, none⟩) zc (up (fill T j m))).In lo hi' wr ∧ Touch g (g + 1) W0 wr) (fun iv _ => k - (intOf iv).toNat)
        case atStart => exact ⟨j, Nat.le_refl _, by omega, rfl, by rw [fill_start]; exact HO0.out, by rw [fill_start]; exact HI0.out, Touch.refl _ _ _⟩
        case round =>
          obtain ⟨m, hjm, hm, rfl, hro, hri, htc⟩ := hrel
          by_cases hmk : m < k
          · have hmi : (m : Int) < (k : Int) := by omega
            have hmT : m < T.length := by rw [← HK.out]; exact hmk
            obtain ⟨v, hv⟩ : ∃ v : Nat, v = T.getD j 0 + 1 + (m - j) := ⟨_, rfl⟩
            obtain ⟨g', e, _, _, _, hfz, hc, hno, hnI⟩ := row_put hro hri (a := m) (by simp only [up_length]; rw [fill_len hjm (by omega)]; exact hmT) (v : Int)
            simp only [Option.some.injEq, Addr.mk.injEq] at e
            obtain ⟨rfl, _⟩ := e
            simp only at hno hnI
            have hfs := fill_set (T := T) hjm hmT
            rw [← hv] at hfs
            rw [hfs] at hno hnI
            have HNO := Lib.hid hno
            have HNI := Lib.hid hnI
            have HTC : Hid (Touch g (g + 1) W0 (wr.setCell ⟨g, m, none⟩ (.int .i64 (v : Int)))) := Lib.hid (htc.set (Nat.le_refl _) (by omega) m _)
            have hvx : (v : Int) = (x : Int) + 1 + (m : Int) - (j : Int) := by rw [hv, ← HX.out]; push_cast; omega
            have e2 : IntKind.i64.wrap ((x : Int) + 1 + (m : Int)) = (x : Int) + 1 + (m : Int) := IntWalk.i64_in _ (by omega)
            have e3 : IntKind.i64.wrap ((x : Int) + 1 + (m : Int) - (j : Int)) = (v : Int) := by rw [← hvx]; exact IntWalk.i64_in _ (by omega)
            clear hno hnI hfs hv hvx hro hri htc
            go_wp2
            go_roundw
            case rel => exact ⟨m + 1, by omega, by omega, by go_num, HNO.out, HNI.out, HTC.out⟩
            case measure => simp [intOf]; omega
          · obtain rfl : m = k := by omega
            have HFE : Hid (fill T j m = goOn T j) := Lib.hid (by rw [HK.out]; exact fill_end)
            go_wp2
            go_ret
            rw [HR.out]
            rw [HFE.out] at hro hri
            exact ⟨rfl, hro, hri, by rw [← HW0.out]; exact htc⟩
end Go.Proofs.Ytemflcegkebloaa
