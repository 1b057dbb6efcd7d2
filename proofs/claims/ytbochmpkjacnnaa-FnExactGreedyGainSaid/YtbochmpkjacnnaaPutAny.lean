/- The contract of the model's putting of a number to its place. Condition: the list is owned and has not the number. -/
import Derived.Test.YtbochmpkjacnnaaPut
import Derived.Test.YtbochmpkjacnnaaClaims
namespace Go.Proofs.Ytbochmpkjacnnaa
open Go.RowKit

/-- The row behind the three appends, for the answer. -/
theorem put_end {w w3 : World} {l : List Int} {k g cap : Nat} {n : Int} (hP : putAt l n = l.take k ++ n :: l.drop k) (h : w3.ownsRow w.heap.size 3 1 (.slice (some ⟨g, 0, none⟩) (l.length + 1) cap) (l.length + 1) (((iv [] ++ iv (l.take k)) ++ [.int .i64 n]) ++ iv (l.drop k))) (hb : Below w.heap.size w w3) :
    ∃ t : Row, Ending.returned (.slice (some ⟨g, 0, none⟩) (l.length + 1) cap) = .returned (.slice t.a t.l.length t.c) ∧ t.l = putAt l n ∧ t.Own 3 w3 ∧ t.In w.heap.size w3.heap.size w3 ∧ Below w.heap.size w w3 := by
  have e : (((iv [] ++ iv (l.take k)) ++ [.int .i64 n]) ++ iv (l.drop k)) = iv (putAt l n) := by rw [hP]; simp [iv]
  have hl : l.length + 1 = (putAt l n).length := by have := h.1; rw [e, iv_length] at this; omega
  rw [e] at h
  obtain ⟨t, ht, h1, h2, h3⟩ := row_of_ownN hl h
  exact ⟨t, congrArg Ending.returned ht, h1, h2, h3, hb⟩

set_option maxHeartbeats 2000000 in
set_option maxRecDepth 16000 in
theorem l1Put_any (g0 cap0 : Nat) (l : List Int) (n : Int) (w : World) (hown : w.ownsRow 0 3 1 (.slice (some ⟨g0, 0, none⟩) l.length cap0) l.length (iv l)) (hsm : l.length ≤ 1048576) (hno : hasI l n = false) :
    Calls Try.prog 53 #[.slice (some ⟨g0, 0, none⟩) l.length cap0, .int .i64 n] w fun e w' => ∃ t : Row, e = .returned (.slice t.a t.l.length t.c) ∧ t.l = putAt l n ∧ t.Own 3 w' ∧ t.In w.heap.size w'.heap.size w' ∧ Below w.heap.size w w' := by
  obtain ⟨i0, hi, hz0, hz1, hz2⟩ := info_parts infoInt
  have hni : (l.length : Int) ≤ 1048576 := by omega
  obtain ⟨hg0, hc0, hc1, _⟩ := owns_lt hown
  have hci : (l.length : Int) ≤ (cap0 : Int) := by omega
  have HC : Hid (∀ u, Below w.heap.size w u → ∀ j, (hj : j < l.length) → u.cell? ⟨g0, j, none⟩ = some (.int .i64 l[j])) := Lib.hid fun u hu j hj =>
    (hu.cell (p := ⟨g0, j, none⟩) hg0).trans ((hown.cellAt j (by omega)).trans (iv_at hj))
  have HNO : Hid (∀ j, (hj : j < l.length) → l[j] ≠ n) := Lib.hid fun j hj e => by
    have := has_yes hj e; rw [hno] at this; cases this
  have b00 := Below.refl w.heap.size w
  have B00 := Lib.hid b00
  clear hown hno b00
  go_enter Try.func53, Try.ntmps53
  go_wp2
  go_loop [5] (fun i => ∃ k : Nat, k ≤ l.length ∧ i = .int .i64 k ∧ ∀ j, (hj : j < l.length) → j < k → l[j] < n) (fun i => l.length - (intOf i).toNat)
  case atStart => exact ⟨0, Nat.zero_le _, rfl, fun j _ h => absurd h (Nat.not_lt_zero _)⟩
  case round =>
    obtain ⟨k, hk, rfl, hall⟩ := hrel
    have HALL := Lib.hid hall
    clear hall
    have hki : (k : Int) ≤ (l.length : Int) := by omega
    have hkc : (k : Int) ≤ (cap0 : Int) := by omega
    by_cases hlt : k < l.length
    · have hlti : (k : Int) < (l.length : Int) := by omega
      obtain ⟨x, hx⟩ : ∃ x, x = l[k] := ⟨_, rfl⟩
      have hcl : w.cell? ⟨g0, k, none⟩ = some (.int .i64 x) := by rw [hx]; exact HC.out w B00.out k hlt
      by_cases hxn : x < n
      · have HS : Hid (∀ j, (hj : j < l.length) → j < k + 1 → l[j] < n) := Lib.hid fun j hj hjk => by
          by_cases e : j = k
          · subst e; rw [← hx]; exact hxn
          · exact HALL.out j hj (by omega)
        clear hx
        go_wp2
        go_round
        case rel => exact ⟨k + 1, by omega, by go_num, HS.out⟩
        case measure => simp [intOf]; omega
      · have HP := Lib.hid (put_split (n := n) l k hk HALL.out (.inr ⟨hlt, by rw [← hx]; exact hxn⟩))
        have he : (x == n) = false := by have := HNO.out k hlt; rw [← hx] at this; simp [this]
        clear hx
        have HAL : Hid (∀ u o, Below w.heap.size w u → Below w.heap.size w (u.alloc o)) := Lib.hid fun u o hu => hu.alloc hu.size o
        have HM : Hid (∀ u H, Below w.heap.size w u → u.heap.size = H → (u.alloc (.cells #[] 3)).ownsRow w.heap.size 3 1 (.slice (some ⟨H, 0, none⟩) 0 0) 0 (iv [])) := Lib.hid fun u H hu hH => by subst hH; exact World.ownsRow_made u #[] 0 hu.size (by decide) rfl
        have HLK : Hid ((iv (l.take k)).length = k * 1) := Lib.hid (by rw [iv_length, List.length_take]; omega)
        have HNW : Hid (∀ u, Below w.heap.size w u → ∀ j z, (iv (l.take k))[j]? = some z → u.cell? ((⟨g0, 0, none⟩ : Addr).add j) = some z) := Lib.hid fun u hu j z hz => by
          have hj : j < (iv (l.take k)).length := (List.getElem?_eq_some_iff.1 hz).1
          rw [HLK.out] at hj
          have hjl : j < l.length := by omega
          rw [iv_at (by rw [List.length_take]; omega)] at hz
          rw [show (⟨g0, 0, none⟩ : Addr).add j = ⟨g0, j, none⟩ by unfold Addr.add; split <;> simp_all, HC.out u hu j hjl, ← hz, List.getElem_take]
        have HONE : Hid (∀ u ∈ iv (l.take k), u.oneCell' = true) := Lib.hid fun u hu => by unfold iv at hu; obtain ⟨y, _, rfl⟩ := List.mem_map.1 hu; rfl
        have HGR : Hid (∀ (u u' : World) (g : Nat), u.grownBy u' (some g) → Below w.heap.size w u → w.heap.size ≤ g → Below w.heap.size w u') := Lib.hid fun u u' g hg hu hw => hu.grown hg hu.size (fun j hj => by cases hj; exact hw)
        have HLK2 : Hid ((iv (l.drop k)).length = (l.length - k) * 1) := Lib.hid (by rw [iv_length, List.length_drop]; omega)
        have HNW2 : Hid (∀ u, Below w.heap.size w u → ∀ j z, (iv (l.drop k))[j]? = some z → u.cell? ((⟨g0, k, none⟩ : Addr).add j) = some z) := Lib.hid fun u hu j z hz => by
          have hj : j < (iv (l.drop k)).length := (List.getElem?_eq_some_iff.1 hz).1
          rw [HLK2.out] at hj
          have hjl : k + j < l.length := by omega
          rw [iv_at (by rw [List.length_drop]; omega)] at hz
          rw [show (⟨g0, k, none⟩ : Addr).add j = ⟨g0, k + j, none⟩ by unfold Addr.add; split <;> simp_all, HC.out u hu (k + j) hjl, ← hz, List.getElem_drop]
        have HONE2 : Hid (∀ u ∈ iv (l.drop k), u.oneCell' = true) := Lib.hid fun u hu => by unfold iv at hu; obtain ⟨y, _, rfl⟩ := List.mem_map.1 hu; rfl
        have b1 : Below w.heap.size w w.drew := B00.out.drew
        have HNC : Hid (((w.alloc (.cells #[.int .i64 n] 3)).alloc (.cells #[] 3)).heap[w.heap.size]? = some (.cells #[.int .i64 n] 3)) := Lib.hid ((Below.heap_alloc (w.alloc (.cells #[.int .i64 n] 3)) (.cells #[] 3) w.heap.size (by rw [size_alloc]; omega)).trans (heap_alloc_new _ _))
        have HNB : Hid (((w.alloc (.cells #[] 3)).alloc (.cells #[.int .i64 n] 3)).heap[w.heap.size + 1]? = some (.cells #[.int .i64 n] 3)) := Lib.hid (by rw [← size_alloc w (.cells #[] 3)]; exact heap_alloc_new _ _)
        have hc0n : ¬ cap0 = 0 := by omega
        have hckn : ¬ cap0 = k := by omega
        go_wp2_with fail
        go_region_held3 (fun u => Below w.heap.size w u) (first | assumption | exact HAL.out _ _ (by assumption)) (first | (refine step_append_some rfl (.tmp 33) (.tmp 36) 22 rfl w.heap.size 3 i0 (.int .i64 0) 1 8 Try.underlying22 hi hz0 hz1 hz2 rfl (by decide) _ 0 (iv []) rfl (by first | exact HM.out _ _ (by first | assumption | exact HAL.out _ _ (by assumption) | exact HAL.out _ _ (HAL.out _ _ (by assumption))) (by simp) | exact (HM.out _ _ (by first | assumption | exact HAL.out _ _ (by assumption) | exact HAL.out _ _ (HAL.out _ _ (by assumption))) (by simp)).alloc _) (fun h => absurd (show Value.slice (some _) _ _ = Value.slice none 0 0 from h) (by simp)) ⟨g0, 0, none⟩ k cap0 (iv (l.take k)) rfl HLK.out (HNW.out _ (by first | assumption | exact HAL.out _ _ (by assumption) | exact HAL.out _ _ (HAL.out _ _ (by assumption)))) HONE.out (by unfold maxLen; omega) (by omega) (by simp; try omega) k (by omega) ?_; intro g1 cap1 w1 hown1 hgrow1 hat1; have hb1 := HGR.out _ _ _ hgrow1 (by first | assumption | exact HAL.out _ _ (by assumption) | exact HAL.out _ _ (HAL.out _ _ (by assumption))) (by first | omega | exact Nat.le_refl _ | exact Nat.le_succ _ | simp)) | (refine step_append_some rfl (.tmp 37) (.tmp 39) 22 rfl w.heap.size 3 i0 (.int .i64 0) 1 8 Try.underlying22 hi hz0 hz1 hz2 rfl (by decide) _ k _ rfl (by first | exact hown1 | exact hown1.alloc _) (fun h => absurd (show Value.slice (some _) _ _ = Value.slice none 0 0 from h) (by simp)) _ 1 1 [.int .i64 n] rfl rfl (by first | exact one_cell _ _ _ | exact far_cell (B := w.heap.size + 1) hgrow1 HNB.out (show w.heap.size + 1 ≠ w.heap.size by omega) | exact far_cell (B := w.heap.size) hgrow1 HNC.out (show w.heap.size ≠ w.heap.size + 1 by omega)) (by simp [Value.oneCell']) (by unfold maxLen; omega) (by omega) (by have := hb1.size; first | omega | (simp; omega)) (k + 1) rfl ?_; intro g2 cap2 w2 hown2 hgrow2 hat2; have hb2 := HGR.out _ _ _ hgrow2 (by first | assumption | exact HAL.out _ _ (by assumption) | exact HAL.out _ _ (HAL.out _ _ (by assumption))) (owns_lt hown1).2.2.2) | (refine step_append_some rfl (.tmp 40) (.tmp 43) 22 rfl w.heap.size 3 i0 (.int .i64 0) 1 8 Try.underlying22 hi hz0 hz1 hz2 rfl (by decide) _ (k + 1) _ rfl (by first | exact hown2 | exact hown2.alloc _) (fun h => absurd (show Value.slice (some _) _ _ = Value.slice none 0 0 from h) (by simp)) ⟨g0, k, none⟩ (l.length - k) (cap0 - k) (iv (l.drop k)) rfl HLK2.out (HNW2.out _ (by first | assumption | exact HAL.out _ _ (by assumption) | exact HAL.out _ _ (HAL.out _ _ (by assumption)))) HONE2.out (by unfold maxLen; omega) (by omega) (by have := hb2.size; first | omega | (simp; omega)) (l.length + 1) (by omega) ?_; intro g3 cap3 w3 hown3 hgrow3 hat3; have hb3 := HGR.out _ _ _ hgrow3 (by first | assumption | exact HAL.out _ _ (by assumption) | exact HAL.out _ _ (HAL.out _ _ (by assumption))) (owns_lt hown2).2.2.2))
        all_goals (go_wp2; go_ret; exact put_end HP.out (by assumption) (by first | assumption | exact And.right (by assumption)))
    · have HP := Lib.hid (put_split (n := n) l k hk HALL.out (.inl (by omega)))
      have hge : decide ((k : Int) < (l.length : Int)) = false := decide_eq_false (by omega)
      have hkle : k = l.length := by omega
      have HKL := Lib.hid hkle
      clear hkle
      have HAL : Hid (∀ u o, Below w.heap.size w u → Below w.heap.size w (u.alloc o)) := Lib.hid fun u o hu => hu.alloc hu.size o
      have HM : Hid (∀ u H, Below w.heap.size w u → u.heap.size = H → (u.alloc (.cells #[] 3)).ownsRow w.heap.size 3 1 (.slice (some ⟨H, 0, none⟩) 0 0) 0 (iv [])) := Lib.hid fun u H hu hH => by subst hH; exact World.ownsRow_made u #[] 0 hu.size (by decide) rfl
      have HLK : Hid ((iv (l.take k)).length = k * 1) := Lib.hid (by rw [iv_length, List.length_take]; omega)
      have HNW : Hid (∀ u, Below w.heap.size w u → ∀ j z, (iv (l.take k))[j]? = some z → u.cell? ((⟨g0, 0, none⟩ : Addr).add j) = some z) := Lib.hid fun u hu j z hz => by
        have hj : j < (iv (l.take k)).length := (List.getElem?_eq_some_iff.1 hz).1
        rw [HLK.out] at hj
        have hjl : j < l.length := by omega
        rw [iv_at (by rw [List.length_take]; omega)] at hz
        rw [show (⟨g0, 0, none⟩ : Addr).add j = ⟨g0, j, none⟩ by unfold Addr.add; split <;> simp_all, HC.out u hu j hjl, ← hz, List.getElem_take]
      have HONE : Hid (∀ u ∈ iv (l.take k), u.oneCell' = true) := Lib.hid fun u hu => by unfold iv at hu; obtain ⟨y, _, rfl⟩ := List.mem_map.1 hu; rfl
      have HGR : Hid (∀ (u u' : World) (g : Nat), u.grownBy u' (some g) → Below w.heap.size w u → w.heap.size ≤ g → Below w.heap.size w u') := Lib.hid fun u u' g hg hu hw => hu.grown hg hu.size (fun j hj => by cases hj; exact hw)
      have HLK2 : Hid ((iv (l.drop k)).length = (l.length - k) * 1) := Lib.hid (by rw [iv_length, List.length_drop]; omega)
      have HDR : Hid (iv (l.drop k) = []) := Lib.hid (by rw [List.drop_of_length_le (by omega)]; rfl)
      have HNW2 : Hid (∀ (ad : Addr) (u : World), Below w.heap.size w u → ∀ j z, (iv (l.drop k))[j]? = some z → u.cell? (ad.add j) = some z) := Lib.hid fun ad u _ j z hz => by rw [HDR.out] at hz; simp at hz
      have HONE2 : Hid (∀ u ∈ iv (l.drop k), u.oneCell' = true) := Lib.hid fun u hu => by unfold iv at hu; obtain ⟨y, _, rfl⟩ := List.mem_map.1 hu; rfl
      have b1 : Below w.heap.size w w.drew := B00.out.drew
      have HNC : Hid (((w.alloc (.cells #[.int .i64 n] 3)).alloc (.cells #[] 3)).heap[w.heap.size]? = some (.cells #[.int .i64 n] 3)) := Lib.hid ((Below.heap_alloc (w.alloc (.cells #[.int .i64 n] 3)) (.cells #[] 3) w.heap.size (by rw [size_alloc]; omega)).trans (heap_alloc_new _ _))
      have HNB : Hid (((w.alloc (.cells #[] 3)).alloc (.cells #[.int .i64 n] 3)).heap[w.heap.size + 1]? = some (.cells #[.int .i64 n] 3)) := Lib.hid (by rw [← size_alloc w (.cells #[] 3)]; exact heap_alloc_new _ _)
      by_cases hc0n : cap0 = 0
      · obtain rfl : l = [] := List.eq_nil_of_length_eq_zero (by omega)
        obtain rfl : k = 0 := by have := HKL.out; simp at this; exact this
        subst hc0n
        go_wp2_with fail
        go_region_held3 (fun u => Below w.heap.size w u) (first | assumption | exact HAL.out _ _ (by assumption)) (first | (refine step_append_some rfl (.tmp 33) (.tmp 36) 22 rfl w.heap.size 3 i0 (.int .i64 0) 1 8 Try.underlying22 hi hz0 hz1 hz2 rfl (by decide) _ 0 (iv []) rfl (by first | exact HM.out _ _ (by first | assumption | exact HAL.out _ _ (by assumption) | exact HAL.out _ _ (HAL.out _ _ (by assumption))) (by simp) | exact (HM.out _ _ (by first | assumption | exact HAL.out _ _ (by assumption) | exact HAL.out _ _ (HAL.out _ _ (by assumption))) (by simp)).alloc _) (fun h => absurd (show Value.slice (some _) _ _ = Value.slice none 0 0 from h) (by simp)) _ 0 _ (iv (([] : List Int).take 0)) rfl HLK.out (HNW.out _ (by first | assumption | exact HAL.out _ _ (by assumption) | exact HAL.out _ _ (HAL.out _ _ (by assumption)))) HONE.out (by unfold maxLen; omega) (by omega) (by simp; try omega) 0 (by omega) ?_; intro g1 cap1 w1 hown1 hgrow1 hat1; have hb1 := HGR.out _ _ _ hgrow1 (by first | assumption | exact HAL.out _ _ (by assumption) | exact HAL.out _ _ (HAL.out _ _ (by assumption))) (by first | omega | exact Nat.le_refl _ | exact Nat.le_succ _ | simp)) | (refine step_append_some rfl (.tmp 37) (.tmp 39) 22 rfl w.heap.size 3 i0 (.int .i64 0) 1 8 Try.underlying22 hi hz0 hz1 hz2 rfl (by decide) _ 0 _ rfl (by first | exact hown1 | exact hown1.alloc _) (fun h => absurd (show Value.slice (some _) _ _ = Value.slice none 0 0 from h) (by simp)) _ 1 1 [.int .i64 n] rfl rfl (by first | exact one_cell _ _ _ | exact far_cell (B := w.heap.size + 1) hgrow1 HNB.out (show w.heap.size + 1 ≠ w.heap.size by omega) | exact far_cell (B := w.heap.size) hgrow1 HNC.out (show w.heap.size ≠ w.heap.size + 1 by omega)) (by simp [Value.oneCell']) (by unfold maxLen; omega) (by omega) (by have := hb1.size; first | omega | (simp; omega)) (0 + 1) rfl ?_; intro g2 cap2 w2 hown2 hgrow2 hat2; have hb2 := HGR.out _ _ _ hgrow2 (by first | assumption | exact HAL.out _ _ (by assumption) | exact HAL.out _ _ (HAL.out _ _ (by assumption))) (owns_lt hown1).2.2.2) | (refine step_append_some rfl (.tmp 40) (.tmp 43) 22 rfl w.heap.size 3 i0 (.int .i64 0) 1 8 Try.underlying22 hi hz0 hz1 hz2 rfl (by decide) _ (0 + 1) _ rfl (by first | exact hown2 | exact hown2.alloc _) (fun h => absurd (show Value.slice (some _) _ _ = Value.slice none 0 0 from h) (by simp)) _ 0 _ (iv (([] : List Int).drop 0)) rfl HLK2.out (HNW2.out _ _ (by first | assumption | exact HAL.out _ _ (by assumption) | exact HAL.out _ _ (HAL.out _ _ (by assumption)))) HONE2.out (by unfold maxLen; omega) (by omega) (by have := hb2.size; first | omega | (simp; omega)) (([] : List Int).length + 1) (by omega) ?_; intro g3 cap3 w3 hown3 hgrow3 hat3; have hb3 := HGR.out _ _ _ hgrow3 (by first | assumption | exact HAL.out _ _ (by assumption) | exact HAL.out _ _ (HAL.out _ _ (by assumption))) (owns_lt hown2).2.2.2))
        all_goals (go_wp2; go_ret; exact put_end HP.out (by assumption) (by first | assumption | exact And.right (by assumption)))
      · by_cases hckn : cap0 = k
        · subst hckn
          go_wp2_with fail
          go_region_held3 (fun u => Below w.heap.size w u) (first | assumption | exact HAL.out _ _ (by assumption)) (first | (refine step_append_some rfl (.tmp 33) (.tmp 36) 22 rfl w.heap.size 3 i0 (.int .i64 0) 1 8 Try.underlying22 hi hz0 hz1 hz2 rfl (by decide) _ 0 (iv []) rfl (by first | exact HM.out _ _ (by first | assumption | exact HAL.out _ _ (by assumption) | exact HAL.out _ _ (HAL.out _ _ (by assumption))) (by simp) | exact (HM.out _ _ (by first | assumption | exact HAL.out _ _ (by assumption) | exact HAL.out _ _ (HAL.out _ _ (by assumption))) (by simp)).alloc _) (fun h => absurd (show Value.slice (some _) _ _ = Value.slice none 0 0 from h) (by simp)) _ cap0 _ (iv (l.take cap0)) rfl HLK.out (HNW.out _ (by first | assumption | exact HAL.out _ _ (by assumption) | exact HAL.out _ _ (HAL.out _ _ (by assumption)))) HONE.out (by unfold maxLen; omega) (by omega) (by simp; try omega) cap0 (by omega) ?_; intro g1 cap1 w1 hown1 hgrow1 hat1; have hb1 := HGR.out _ _ _ hgrow1 (by first | assumption | exact HAL.out _ _ (by assumption) | exact HAL.out _ _ (HAL.out _ _ (by assumption))) (by first | omega | exact Nat.le_refl _ | exact Nat.le_succ _ | simp)) | (refine step_append_some rfl (.tmp 37) (.tmp 39) 22 rfl w.heap.size 3 i0 (.int .i64 0) 1 8 Try.underlying22 hi hz0 hz1 hz2 rfl (by decide) _ cap0 _ rfl (by first | exact hown1 | exact hown1.alloc _) (fun h => absurd (show Value.slice (some _) _ _ = Value.slice none 0 0 from h) (by simp)) _ 1 1 [.int .i64 n] rfl rfl (by first | exact one_cell _ _ _ | exact far_cell (B := w.heap.size + 1) hgrow1 HNB.out (show w.heap.size + 1 ≠ w.heap.size by omega) | exact far_cell (B := w.heap.size) hgrow1 HNC.out (show w.heap.size ≠ w.heap.size + 1 by omega)) (by simp [Value.oneCell']) (by unfold maxLen; omega) (by omega) (by have := hb1.size; first | omega | (simp; omega)) (cap0 + 1) rfl ?_; intro g2 cap2 w2 hown2 hgrow2 hat2; have hb2 := HGR.out _ _ _ hgrow2 (by first | assumption | exact HAL.out _ _ (by assumption) | exact HAL.out _ _ (HAL.out _ _ (by assumption))) (owns_lt hown1).2.2.2) | (refine step_append_some rfl (.tmp 40) (.tmp 43) 22 rfl w.heap.size 3 i0 (.int .i64 0) 1 8 Try.underlying22 hi hz0 hz1 hz2 rfl (by decide) _ (cap0 + 1) _ rfl (by first | exact hown2 | exact hown2.alloc _) (fun h => absurd (show Value.slice (some _) _ _ = Value.slice none 0 0 from h) (by simp)) _ 0 _ (iv (l.drop cap0)) rfl (by rw [HDR.out]; rfl) (HNW2.out _ _ (by first | assumption | exact HAL.out _ _ (by assumption) | exact HAL.out _ _ (HAL.out _ _ (by assumption)))) HONE2.out (by unfold maxLen; omega) (by omega) (by have := hb2.size; first | omega | (simp; omega)) (l.length + 1) (by have := HKL.out; omega) ?_; intro g3 cap3 w3 hown3 hgrow3 hat3; have hb3 := HGR.out _ _ _ hgrow3 (by first | assumption | exact HAL.out _ _ (by assumption) | exact HAL.out _ _ (HAL.out _ _ (by assumption))) (owns_lt hown2).2.2.2))
          all_goals (go_wp2; go_ret; exact put_end HP.out (by assumption) (by first | assumption | exact And.right (by assumption)))
        · go_wp2_with fail
          go_region_held3 (fun u => Below w.heap.size w u) (first | assumption | exact HAL.out _ _ (by assumption)) (first | (refine step_append_some rfl (.tmp 33) (.tmp 36) 22 rfl w.heap.size 3 i0 (.int .i64 0) 1 8 Try.underlying22 hi hz0 hz1 hz2 rfl (by decide) _ 0 (iv []) rfl (by first | exact HM.out _ _ (by first | assumption | exact HAL.out _ _ (by assumption) | exact HAL.out _ _ (HAL.out _ _ (by assumption))) (by simp) | exact (HM.out _ _ (by first | assumption | exact HAL.out _ _ (by assumption) | exact HAL.out _ _ (HAL.out _ _ (by assumption))) (by simp)).alloc _) (fun h => absurd (show Value.slice (some _) _ _ = Value.slice none 0 0 from h) (by simp)) _ k _ (iv (l.take k)) rfl HLK.out (HNW.out _ (by first | assumption | exact HAL.out _ _ (by assumption) | exact HAL.out _ _ (HAL.out _ _ (by assumption)))) HONE.out (by unfold maxLen; omega) (by omega) (by simp; try omega) k (by omega) ?_; intro g1 cap1 w1 hown1 hgrow1 hat1; have hb1 := HGR.out _ _ _ hgrow1 (by first | assumption | exact HAL.out _ _ (by assumption) | exact HAL.out _ _ (HAL.out _ _ (by assumption))) (by first | omega | exact Nat.le_refl _ | exact Nat.le_succ _ | simp)) | (refine step_append_some rfl (.tmp 37) (.tmp 39) 22 rfl w.heap.size 3 i0 (.int .i64 0) 1 8 Try.underlying22 hi hz0 hz1 hz2 rfl (by decide) _ k _ rfl (by first | exact hown1 | exact hown1.alloc _) (fun h => absurd (show Value.slice (some _) _ _ = Value.slice none 0 0 from h) (by simp)) _ 1 1 [.int .i64 n] rfl rfl (by first | exact one_cell _ _ _ | exact far_cell (B := w.heap.size + 1) hgrow1 HNB.out (show w.heap.size + 1 ≠ w.heap.size by omega) | exact far_cell (B := w.heap.size) hgrow1 HNC.out (show w.heap.size ≠ w.heap.size + 1 by omega)) (by simp [Value.oneCell']) (by unfold maxLen; omega) (by omega) (by have := hb1.size; first | omega | (simp; omega)) (k + 1) rfl ?_; intro g2 cap2 w2 hown2 hgrow2 hat2; have hb2 := HGR.out _ _ _ hgrow2 (by first | assumption | exact HAL.out _ _ (by assumption) | exact HAL.out _ _ (HAL.out _ _ (by assumption))) (owns_lt hown1).2.2.2) | (refine step_append_some rfl (.tmp 40) (.tmp 43) 22 rfl w.heap.size 3 i0 (.int .i64 0) 1 8 Try.underlying22 hi hz0 hz1 hz2 rfl (by decide) _ (k + 1) _ rfl (by first | exact hown2 | exact hown2.alloc _) (fun h => absurd (show Value.slice (some _) _ _ = Value.slice none 0 0 from h) (by simp)) _ (l.length - k) _ (iv (l.drop k)) rfl HLK2.out (HNW2.out _ _ (by first | assumption | exact HAL.out _ _ (by assumption) | exact HAL.out _ _ (HAL.out _ _ (by assumption)))) HONE2.out (by unfold maxLen; omega) (by omega) (by have := hb2.size; first | omega | (simp; omega)) (l.length + 1) (by omega) ?_; intro g3 cap3 w3 hown3 hgrow3 hat3; have hb3 := HGR.out _ _ _ hgrow3 (by first | assumption | exact HAL.out _ _ (by assumption) | exact HAL.out _ _ (HAL.out _ _ (by assumption))) (owns_lt hown2).2.2.2))
          all_goals (go_wp2; go_ret; exact put_end HP.out (by assumption) (by first | assumption | exact And.right (by assumption)))

end Go.Proofs.Ytbochmpkjacnnaa
