/- The clients that are kept for a radius: the contracts of both sides. Condition: a valid Field. -/
import Derived.Test.YtlnompeojhaigaaPairAreFarClients
import Derived.Test.YtlnompeojhaigaaOwnAll
namespace Go.Proofs.Ytlnompeojhaigaa
open Go.RowKit

/-- The kept ones of the first k clients. -/
def thrN (F : Fld) (r : Int) : Nat → List Nat
  | 0 => []
  | k + 1 => if farTo F r k (thrN F r k) then thrN F r k ++ [k] else thrN F r k
theorem thr_yes {F : Fld} {r : Int} {k : Nat} (h : farTo F r k (thrN F r k) = true) : thrN F r (k + 1) = thrN F r k ++ [k] := by rw [thrN, if_pos h]
theorem thr_no {F : Fld} {r : Int} {k : Nat} (h : farTo F r k (thrN F r k) = false) : thrN F r (k + 1) = thrN F r k := by rw [thrN, if_neg (by rw [h]; decide)]
theorem thr_lt (F : Fld) (r : Int) : ∀ k, ∀ j ∈ thrN F r k, j < k
  | 0 => by simp [thrN]
  | k + 1 => fun j hj => by
    unfold thrN at hj
    split at hj
    · rcases List.mem_append.1 hj with h | h
      · have := thr_lt F r k j h; omega
      · simp at h; omega
    · have := thr_lt F r k j hj; omega
theorem thr_len (F : Fld) (r : Int) : ∀ k, (thrN F r k).length ≤ k
  | 0 => by simp [thrN]
  | k + 1 => by
    have := thr_len F r k
    unfold thrN
    split
    · rw [List.length_append]; simp; omega
    · omega
theorem farUp_prefix (F : Fld) (r : Int) (T U : List Nat) : ∀ k, k ≤ T.length → farUp F r (T ++ U) k = farUp F r T k
  | 0, _ => rfl
  | k + 1, h => by
    rw [farUp_step, farUp_step, farUp_prefix F r T U k (by omega)]
    rw [getD_nat (show k < (T ++ U).length by rw [List.length_append]; omega), getD_nat (show k < T.length by omega), List.getElem_append_left (by omega), List.take_append_of_le_length (by omega)]
theorem farUp_snoc (F : Fld) (r : Int) (T : List Nat) (j : Nat) : farUp F r (T ++ [j]) (T ++ [j]).length = (farUp F r T T.length && farTo F r j T) := by
  rw [List.length_append, List.length_singleton, farUp_step, farUp_prefix F r T [j] _ (Nat.le_refl _)]
  rw [getD_nat (by rw [List.length_append]; simp), List.getElem_append_right (by omega), List.take_left]
  simp
theorem thr_far (F : Fld) (r : Int) : ∀ k, farUp F r (thrN F r k) (thrN F r k).length = true
  | 0 => rfl
  | k + 1 => by
    have ih := thr_far F r k
    unfold thrN
    split
    · rename_i h; rw [farUp_snoc, ih, h]; rfl
    · exact ih
theorem thr_like {F G : Fld} (h : F.Like G) (r : Int) : ∀ k, thrN F r k = thrN G r k
  | 0 => rfl
  | k + 1 => by unfold thrN; rw [thr_like h r k, farTo_like h]

/-- The row that has been kept. -/
def Kept (F : Fld) (r : Int) (B : Nat) (w : World) (v : Value) (k : Nat) : Prop := w.ownsRow B 3 1 v (up (thrN F r k)).length (iv (up (thrN F r k)))

set_option maxRecDepth 16000 in
set_option maxHeartbeats 4000000 in
theorem l5Threshold_any (F : Fld) (r : Int) (w : World) (hF : F.At w) (hg : F.good = true) :
    Calls Try.prog 76 #[F.val, .int .i64 r] w fun e w' => ∃ t : Row, e = .returned (.slice t.a t.l.length t.c) ∧ t.l = up (thrN F r F.t.R.length) ∧ t.Own 3 w' ∧ t.In w.heap.size w'.heap.size w' ∧ Below w.heap.size w w' := by
  obtain ⟨i0, hi, hz0, hz1, hz2⟩ := info_parts infoInt
  obtain ⟨wA, hA, hbA, bx, hFA, hszA⟩ := laid_fld F w 29 hF
  have hsz := good_sizes hg
  have HFA := Lib.hid hFA
  have HBX := Lib.hid bx
  have HA := Lib.hid hA
  have HG := Lib.hid hg
  obtain ⟨n, hn⟩ : ∃ n, n = F.t.R.length := ⟨_, rfl⟩
  have HN := Lib.hid hn
  have hni : (n : Int) ≤ 7 := by omega
  have hn7 : n ≤ 7 := by omega
  have H0 : Hid ((wA.alloc (.cells #[] 3)).ownsRow wA.heap.size 3 1 (.slice (some ⟨w.heap.size + 1, 0, none⟩) 0 0) 0 (iv [])) := Lib.hid (by have := empty_own wA; rw [hszA] at this ⊢; exact this)
  have HB0 := Lib.hid (below_alloc wA (.cells #[] 3))
  rw [← hn]
  clear hF hA bx hFA hg hsz hn hszA
  show Calls _ _ #[.agg #[F.o.val, F.t.val], _] w _
  go_enter Try.func76, Try.ntmps76
  go_wp2
  rw [show w.alloc (Obj.cells #[F.o.val, F.t.val] 29) = wA from HA.out.symm]
  go_loopw [5, 6] (fun out i wr => ∃ k : Nat, k ≤ n ∧ i = .int .i64 k ∧ Kept F r wA.heap.size wr out k ∧ Below wA.heap.size wA wr) (fun _ i _ => n - (intOf i).toNat)
  case atStart => exact ⟨0, Nat.zero_le _, rfl, H0.out, HB0.out⟩
  case round =>
    obtain ⟨k, hk, rfl, hkept, hnx⟩ := hrel
    have HK := Lib.hid hkept
    have HNX := Lib.hid hnx
    have y0 := (HBX.out.on hnx).c0
    have y1 : wr.cell? ⟨w.heap.size, 1, none⟩ = some (.slice F.t.a n F.t.c) := by rw [HN.out]; exact (HBX.out.on hnx).c1
    by_cases hlt : k < n
    · have hlti : (k : Int) < (n : Int) := by omega
      obtain ⟨t, rfl, htl, -, hti⟩ := row_of_own hkept
      obtain ⟨T, hT⟩ : ∃ T, T = thrN F r k := ⟨_, rfl⟩
      rw [← hT] at htl
      have hTl : T.length ≤ k := by rw [hT]; exact thr_len F r k
      have htn : t.l.length = T.length := by rw [htl, up_length]
      obtain ⟨v, hv⟩ : ∃ v, v = farTo F r k T := ⟨_, rfl⟩
      have hkR : k < F.t.R.length := by rw [← HN.out]; exact hlt
      have D1 := Lib.hid (fun u (hu : Below wr.heap.size wr u) => by
        refine (l1OwnAll_any t u (hti.on hu).at (by omega)).mono ?_
        rintro e w' ⟨g, cap, rfl, ho, hb⟩
        exact ⟨g, cap, rfl, owns_from ho hu.size, hb⟩ : ∀ u, Below wr.heap.size wr u → Calls Try.prog 104 #[.slice t.a t.l.length t.c] u fun e w' => ∃ g cap, e = .returned (.slice (some ⟨g, 0, none⟩) t.l.length cap) ∧ w'.ownsRow wr.heap.size 3 1 (.slice (some ⟨g, 0, none⟩) t.l.length cap) t.l.length (iv t.l) ∧ Below u.heap.size u w')
      have D2 := Lib.hid (fun u g cap (hu : Below wr.heap.size wr u) (ho : u.ownsRow wr.heap.size 3 1 (.slice (some ⟨g, 0, none⟩) (t.l.length + 1) cap) (t.l.length + 1) (iv t.l ++ [Value.int .i64 (k : Int)])) => by
        have := l5Far_any F ⟨some ⟨g, 0, none⟩, cap, t.l ++ [(k : Int)]⟩ (T ++ [k]) r u ((HFA.out.on HNX.out).on hu) (row_of_cat rfl ho) HG.out (by simp only; rw [htl]; unfold up; rw [List.map_append]; rfl) (fun j hj => by
          rcases List.mem_append.1 hj with h | h
          · rw [hT] at h; have := thr_lt F r k j h; omega
          · simp at h; omega) (by simp only [List.length_append, List.length_singleton]; omega)
        rw [farUp_snoc, show farUp F r T T.length = true by rw [hT]; exact thr_far F r k, Bool.true_and, ← hv] at this
        simp only [List.length_append, List.length_singleton] at this
        exact this : ∀ u g cap, Below wr.heap.size wr u → u.ownsRow wr.heap.size 3 1 (.slice (some ⟨g, 0, none⟩) (t.l.length + 1) cap) (t.l.length + 1) (iv t.l ++ [Value.int .i64 (k : Int)]) → Calls Try.prog 66 #[.agg #[F.o.val, F.t.val], .slice (some ⟨g, 0, none⟩) (t.l.length + 1) cap, .int .i64 r] u fun e w' => e = .returned (.bool v) ∧ Below u.heap.size u w')
      have HST : Hid (v = true → up (thrN F r (k + 1)) = up (thrN F r k) ++ [(k : Int)]) := Lib.hid fun e => by
        rw [thr_yes (by rw [← hT, ← hv, e])]; unfold up; rw [List.map_append]; rfl
      have HNO : Hid (v = false → thrN F r (k + 1) = thrN F r k) := Lib.hid fun e => thr_no (by rw [← hT, ← hv, e])
      have HTL := Lib.hid htl
      have hl7 : t.l.length ≤ 7 := by omega
      have HS : Hid (∀ u, Below wr.heap.size wr u → ((u.cell? ⟨w.heap.size, 0, none⟩ = some F.o.val ∧ u.cell? ⟨w.heap.size, 1, none⟩ = some F.t.val) ∧ Below wr.heap.size wr u)) := Lib.hid fun u hu => ⟨⟨((HBX.out.on HNX.out).on hu).c0, ((HBX.out.on HNX.out).on hu).c1⟩, hu⟩
      have HAL : Hid (∀ u o, Below wr.heap.size wr u → Below wr.heap.size wr (u.alloc o)) := Lib.hid fun u o hu => hu.alloc hu.size o
      have HGR : Hid (∀ (u u' : World) (v : Value) (n : Nat) (xs : List Value), u.grownBy u' v.ownBlock → u.ownsRow wr.heap.size 3 1 v n xs → Below wr.heap.size wr u → Below wr.heap.size wr u') := Lib.hid fun u u' v n xs hg ho hu => hu.grown hg hu.size (fun j hj => (ho.lt j hj).1)
      have s0 := HS.out wr.drew (Below.refl _ _).drew
      have hbw : Below wr.heap.size wr wr.drew := (Below.refl _ _).drew
      clear htl hti htn hTl hT hv hkR hkept
      go_wp2_with fail
      go_region_held3 (fun u => ((u.cell? ⟨w.heap.size, 0, none⟩ = some F.o.val ∧ u.cell? ⟨w.heap.size, 1, none⟩ = some F.t.val) ∧ Below wr.heap.size wr u)) (first | exact s0 | exact HS.out _ (by assumption) | exact HS.out _ (HAL.out _ _ (by first | assumption | exact And.right (by assumption))) | exact HS.out _ (HAL.out _ _ (Below.refl _ _)) | exact HS.out _ (HAL.out _ _ (Below.refl _ _)).drew | exact keep_reg HS.out (by first | assumption | exact And.right (by assumption)) hb1) (first | (go_at_call 104; refine (show Calls _ _ _ _ _ from D1.out _ (by first | assumption | exact And.right (by assumption) | exact HAL.out _ _ (by first | assumption | exact And.right (by assumption)))).mono ?_; rintro e u1 ⟨g1, cap1, rfl, hown1, hb1⟩; have hbx : Below wr.heap.size wr u1 := (show Below wr.heap.size wr _ by first | assumption | exact And.right (by assumption) | exact HAL.out _ _ (by first | assumption | exact And.right (by assumption))).trans (hb1.mono (show wr.heap.size ≤ _ by simp))) | (refine step_append_lies _ rfl (.tmp 17) (.tmp 19) 22 rfl wr.heap.size 3 i0 (.int .i64 0) 1 8 Try.underlying22 hi hz0 hz1 hz2 rfl (by decide) _ t.l.length (iv t.l) rfl (hown1.alloc _) ⟨u1.heap.size, 0, none⟩ 1 1 [.int .i64 (k : Int)] rfl rfl (one_cell _ _ _) (by simp [Value.oneCell']) (by omega) (by unfold maxLen; omega) (by omega) (by have := hbx.size; simp; omega) _ rfl ?_; intro g2 cap2 w1 hown2 hgrow2 hat2 hlt2; have hb9 := HGR.out _ _ _ _ _ hgrow2 (hown1.alloc _) (by first | assumption | exact And.right (by assumption) | exact HAL.out _ _ (by first | assumption | exact And.right (by assumption)))) | (refine step_append_lies _ rfl (.tmp 17) (.tmp 19) 22 rfl wr.heap.size 3 i0 (.int .i64 0) 1 8 Try.underlying22 hi hz0 hz1 hz2 rfl (by decide) _ t.l.length (iv t.l) rfl hown1 ⟨wr.heap.size, 0, none⟩ 1 1 [.int .i64 (k : Int)] rfl rfl (by first | exact one_kept hb1 | exact one_drew hb1) (by simp [Value.oneCell']) (by omega) (by unfold maxLen; omega) (by omega) hbx.size _ rfl ?_; intro g2 cap2 w1 hown2 hgrow2 hat2 hlt2; have hb9 := HGR.out _ _ _ _ _ hgrow2 hown1 (by first | assumption | exact And.right (by assumption) | exact HAL.out _ _ (by first | assumption | exact And.right (by assumption)))) | (go_at_call 66; refine (show Calls _ _ _ _ _ from D2.out _ _ _ (by first | assumption | exact And.right (by assumption)) hown2).mono ?_; rintro e u2 ⟨rfl, hb1⟩))
      all_goals
        refine at_exit (W := wr) (by first | assumption | exact And.right (by assumption)) ?_
        intro W8 hb8
        have HB8 : Hid (Below wA.heap.size wA W8) := Lib.hid (HNX.out.trans (hb8.mono HNX.out.size))
        have hown : W8.ownsRow wA.heap.size 3 1 (.slice t.a t.l.length t.c) (up (thrN F r k)).length (iv (up (thrN F r k))) := owns_below HK.out hb8
        have hsz8 := hb8.size
        have hszA := HB8.out.size
        have hUL : (up (thrN F r k)).length ≤ 7 := by rw [up_length]; have := thr_len F r k; omega
        clear s0 hb8 hbw
        cases v with
        | true =>
          have HE := Lib.hid (HST.out rfl)
          go_wp2_with (at_builtin; refine wpList_append_own _ rfl _ _ 22 rfl wA.heap.size 3 i0 (.int .i64 0) 1 8 Try.underlying22 hi hz0 hz1 hz2 rfl (by decide) _ _ _ rfl (hown.alloc _) ⟨W8.heap.size, 0, none⟩ 1 1 [.int .i64 (k : Int)] rfl rfl (one_cell _ _ _) (by simp [Value.oneCell']) (by unfold maxLen; omega) (by omega) (by simp; omega) ?_; intro v' w1 hown' hgrow _)
          have R1 : Kept F r wA.heap.size w1 v' (k + 1) := by unfold Kept; rw [HE.out]; exact own_snoc rfl hown'
          have R2 : Below wA.heap.size wA w1 := (HB8.out.alloc (by omega) _).grown hgrow (by simp; omega) (fun j hj => (hown.lt j hj).1)
          clear hown' hgrow hown
          go_wp2
          go_roundw
          case rel => exact ⟨k + 1, by omega, by go_num, R1, R2⟩
          case measure => simp [intOf]; omega
        | false =>
          have HE := Lib.hid (HNO.out rfl)
          have R1 : Kept F r wA.heap.size W8 (.slice t.a t.l.length t.c) (k + 1) := by unfold Kept; rw [HE.out]; exact hown
          clear hown
          go_wp2
          go_roundw
          case rel => exact ⟨k + 1, by omega, by go_num, R1, HB8.out⟩
          case measure => simp [intOf]; omega
    · obtain rfl : k = n := by omega
      obtain ⟨t, rfl, htl, hto, hti⟩ := row_of_own hkept
      have HTL := Lib.hid htl
      clear htl
      go_wp2
      go_ret
      exact ⟨t, rfl, HTL.out, hto, hti.wide hbA.size (Nat.le_refl _), hbA.trans (hnx.mono hbA.size)⟩
end Go.Proofs.Ytlnompeojhaigaa
