/- The upper gain on the model's side. Condition: a valid Field and worth, a whole list of its sites. -/
import Derived.Test.YtmddijibplkngaaPlainUpper
import Derived.Test.YtmddijibplkngaaMargSpec
import Derived.Test.YtmddijibplkngaaMargImpl
import Derived.Test.YtmddijibplkngaaPairs
namespace Go.Proofs.Ytmddijibplkngaa
open Go.RowKit Go.Shelf

theorem up_end {w3 V : World} {l : List Int} {k g cap : Nat} {x : Int} (hP : insD l x = l.take k ++ x :: l.drop k) (h : w3.ownsRow V.heap.size 3 1 (.slice (some ⟨g, 0, none⟩) (l.length + 1) cap) (l.length + 1) (((iv [] ++ iv (l.take k)) ++ [.int .i64 x]) ++ iv (l.drop k))) :
    w3.ownsRow V.heap.size 3 1 (.slice (some ⟨g, 0, none⟩) (l.length + 1) cap) (l.length + 1) (iv (insD l x)) := by
  have e : (((iv [] ++ iv (l.take k)) ++ [.int .i64 x]) ++ iv (l.drop k)) = iv (insD l x) := by rw [hP]; simp [iv]
  rw [e] at h; exact h

set_option maxHeartbeats 4000000 in
set_option maxRecDepth 100000 in
theorem l8Upper_any (F : Fld) (u : Int) (s : Row) (T : List Nat) (kk : Nat) (w : World) (hF : F.At w) (hs : s.At w) (hw : s.Whole 3 w) (hf : Worthy F u s T) (hT : T.length ≤ 100) (hkk : kk ≤ 7) :
    Calls Try.prog 69 #[.agg #[.slice F.o.a F.o.l.length F.o.c, .slice F.t.a F.t.R.length F.t.c], .int .i64 u, .slice s.a s.l.length s.c, .int .i64 kk] w fun e w' => e = .returned (.int .i64 (upperT F u T kk)) ∧ Below w.heap.size w w' := by
  obtain ⟨i0, hi, hz0, hz1, hz2⟩ := info_parts infoInt
  obtain ⟨wB, hB⟩ : ∃ wB, (w.alloc (Obj.cells #[.slice F.o.a F.o.l.length F.o.c, .slice F.t.a F.t.R.length F.t.c] 29)).alloc (.cells #[] 3) = wB := ⟨_, rfl⟩
  have hbB : Below w.heap.size w wB := by rw [← hB]; exact (below_alloc w _).alloc (by rw [size_alloc]; omega) _
  have hszB : wB.heap.size = w.heap.size + 1 + 1 := by rw [← hB, size_alloc, size_alloc]
  have hown0 : wB.ownsRow (w.heap.size + 1) 3 1 (.slice (some ⟨w.heap.size + 1, 0, none⟩) 0 0) 0 (iv []) := by
    rw [← hB]
    have := empty_own (w.alloc (Obj.cells #[.slice F.o.a F.o.l.length F.o.c, .slice F.t.a F.t.R.length F.t.c] 29))
    rw [size_alloc] at this; exact this
  have bx : Box2 wB w.heap.size (.slice F.o.a F.o.l.length F.o.c) (.slice F.t.a F.t.R.length F.t.c) 29 := by
    rw [← hB]; exact (Box2.made w _ _ _).later _
  have x0 := bx.c0
  have x1 := bx.c1
  rw [← hB] at x0 x1
  have hFB := hF.on hbB
  have hsB := hs.on hbB
  have hwB := hw.on hbB
  have hsz := good_sizes (worthB_iff.1 hf.good).1
  obtain ⟨G0, hG0⟩ : ∃ x, x = gainT F u T := ⟨_, rfl⟩
  have hG0b := gainT_bound hf.good T
  rw [← hG0] at hG0b
  have CG := Lib.hid (show Calls Try.prog 39 #[.agg #[.slice F.o.a F.o.l.length F.o.c, .slice F.t.a F.t.R.length F.t.c], .int .i64 u, .slice s.a s.l.length s.c] wB fun e w' => e = .returned (.int .i64 G0) ∧ Below wB.heap.size wB w' from by have := l8Gain_any F u s T wB hFB hsB hf; rw [← hG0] at this; exact this)
  obtain ⟨N, hN⟩ : ∃ N, N = F.o.l.length := ⟨_, rfl⟩
  have CM := Lib.hid (fun (j : Nat) (hj : j < N) (hjT : j ∉ T) W (hW : Below wB.heap.size wB W) => (by
    exact l8More_any F u s T j W (hFB.on hW) (hsB.on hW) (hwB.on hW) hf hT (by rw [← hN]; exact hj) hjT : Calls Try.prog 46 #[.agg #[.slice F.o.a F.o.l.length F.o.c, .slice F.t.a F.t.R.length F.t.c], .int .i64 u, .slice s.a s.l.length s.c, .int .i64 (j : Int)] W fun e w' => e = .returned (.int .i64 (moreT F u T j)) ∧ Below W.heap.size W w'))
  have CH := Lib.hid (fun (j : Nat) W (hW : Below wB.heap.size wB W) => by have := l1Has_any s (j : Int) W (hsB.on hW); rw [hf.set, hasN, ← hf.set] at this; exact this)
  have HU : Hid (upperT F u T kk = G0 + ((topL F u T N).take kk).sum) := Lib.hid (by rw [hG0, hN]; rfl)
  have HMB := Lib.hid (fun j => moreT_bound hf.good T j)
  have HTB := Lib.hid (fun j => topL_bound hf.good T j)
  have HTL := Lib.hid (fun j => topL_len F u T j)
  have HOW := Lib.hid hown0
  have HBB := Lib.hid hbB
  have HBX : Hid (Box2 wB w.heap.size (.slice F.o.a N F.o.c) (.slice F.t.a F.t.R.length F.t.c) 29) := Lib.hid (by rw [hN]; exact bx)
  have HB := Lib.hid hB
  have hN7 : N ≤ 7 := by omega
  have hNi : (N : Int) ≤ 7 := by omega
  have hki : (kk : Int) ≤ 7 := by omega
  have HSZ := Lib.hid hszB
  clear hF hs hw hf hT hB hbB hszB hown0 bx hFB hsB hwB hsz hG0
  rw [← hN]
  rw [← hN] at x0 CG CM HB x1
  clear hN
  go_enter Try.func69, Try.ntmps69
  go_wp2_with fail
  rw [HB.out]
  clear x0 x1
  refine (show Calls _ _ _ _ _ from CG.out).mono ?_
  rintro e W1 ⟨rfl, hb1⟩
  have HB1 := Lib.hid hb1
  clear hb1
  go_wp2
  go_loopw [9, 11, 12, 13] (fun out jv _ _ wr => ∃ (j g0 cap0 : Nat), j ≤ N ∧ jv = .int .i64 j ∧ out = .slice (some ⟨g0, 0, none⟩) (topL F u T j).length cap0 ∧ Hid (wr.ownsRow (w.heap.size + 1) 3 1 (.slice (some ⟨g0, 0, none⟩) (topL F u T j).length cap0) (topL F u T j).length (iv (topL F u T j))) ∧ Below wB.heap.size wB wr) (fun _ jv _ _ _ => N - (intOf jv).toNat)
  case atStart => exact ⟨0, w.heap.size + 1, 0, Nat.zero_le _, rfl, rfl, Lib.hid (owns_below HOW.out HB1.out), HB1.out⟩
  case round =>
    obtain ⟨j, g0, cap0, hj, rfl, rfl, HO, hnx⟩ := hrel
    have y0 := (HBX.out.on hnx).c0
    have y1 := (HBX.out.on hnx).c1
    have HNX := Lib.hid hnx
    by_cases hlt : j < N
    · have hlti : (j : Int) < (N : Int) := by omega
      obtain ⟨v, hv⟩ : ∃ v, v = decide (j ∈ T) := ⟨_, rfl⟩
      have CH1 := Lib.hid (by have := CH.out j wr hnx; rw [← hv] at this; exact this)
      obtain ⟨D, hD⟩ : ∃ D, D = topL F u T j := ⟨_, rfl⟩
      obtain ⟨x, hx⟩ : ∃ x, x = moreT F u T j := ⟨_, rfl⟩
      have HTOPY : Hid (v = true → topL F u T (j + 1) = D) := Lib.hid fun h => by rw [topL, if_pos (of_decide_eq_true (by rw [← hv]; exact h)), hD]
      have HTOPN : Hid (v = false → topL F u T (j + 1) = insD D x) := Lib.hid fun h => by rw [topL, if_neg (of_decide_eq_false (by rw [← hv]; exact h)), hD, hx]
      have HJT : Hid (v = false → j ∉ T) := Lib.hid fun h => of_decide_eq_false (by rw [← hv]; exact h)
      have hDl := HTL.out j
      rw [← hD] at hDl HO ⊢
      have HDD := Lib.hid hD
      have HXX := Lib.hid hx
      have hDi : (D.length : Int) ≤ 7 := by omega
      clear hv hnx hD hx
      go_wp2_with fail
      refine (show Calls _ _ _ _ _ from CH1.out).mono ?_
      rintro e W2 ⟨rfl, rfl⟩
      cases v with
      | true =>
        have HT1 := Lib.hid (HTOPY.out (by first | rfl | trivial))
        clear y0 y1
        go_wp2
        go_roundw
        case rel => exact ⟨j + 1, g0, cap0, by omega, by go_num, by rw [HT1.out], Lib.hid (by rw [HT1.out]; exact HO.out), HNX.out⟩
        case measure => simp [intOf]; omega
      | false =>
        have HTOP := Lib.hid (HTOPN.out (by first | rfl | trivial))
        have CM1 := Lib.hid (by have := CM.out j hlt (HJT.out (by first | rfl | trivial)) W2 HNX.out; rw [← HXX.out] at this; exact this)
        go_wp2_with fail
        clear y0 y1
        refine (show Calls _ _ _ _ _ from CM1.out).mono ?_
        rintro e V ⟨rfl, hbV⟩
        have HNX0 := HNX
        have HNX : Hid (Below wB.heap.size wB V) := Lib.hid (HNX0.out.trans (hbV.mono HNX0.out.size))
        have HOV : Hid (V.ownsRow (w.heap.size + 1) 3 1 (.slice (some ⟨g0, 0, none⟩) D.length cap0) D.length (iv D)) := Lib.hid (owns_below HO.out hbV)
        have HVZ : Hid (w.heap.size + 1 ≤ V.heap.size) := Lib.hid (by have := HNX.out.size; have := HSZ.out; omega)
        obtain ⟨hg0, hc0, hc1, _⟩ := owns_lt HOV.out
        have hci : (D.length : Int) ≤ (cap0 : Int) := by omega
        obtain ⟨l, hl⟩ : ∃ l, l = D := ⟨_, rfl⟩
        rw [← hl] at HOV hDl hDi hc0 hci HTOP ⊢
        have HIL : Hid ((insD l x).length = l.length + 1) := Lib.hid (by rw [(insD_perm x l).length_eq, List.length_cons])
        have HC : Hid (∀ u, Below V.heap.size V u → ∀ j, (hj : j < l.length) → u.cell? ⟨g0, j, none⟩ = some (.int .i64 l[j])) := Lib.hid fun u hu j hj =>
          (hu.cell (p := ⟨g0, j, none⟩) hg0).trans ((HOV.out.cellAt j (by omega)).trans (iv_at hj))
        have hni : (l.length : Int) ≤ 1048576 := by omega
        have hsm : l.length ≤ 1048576 := by omega
        have b00 := Below.refl V.heap.size V
        have B00 := Lib.hid b00
        clear hbV hl b00 HNX0 HO
        go_wp2
        go_loopw [13] (fun av wr => ∃ k : Nat, k ≤ l.length ∧ av = .int .i64 k ∧ wr = V ∧ Hid (∀ j', (hj : j' < l.length) → j' < k → l[j'] ≥ x)) (fun av _ => l.length - (intOf av).toNat)
        case atStart => exact ⟨0, Nat.zero_le _, rfl, rfl, Lib.hid fun j _ h => absurd h (Nat.not_lt_zero _)⟩
        case round =>
          obtain ⟨k, hk, rfl, hVr, HALL⟩ := hrel
          subst hVr
          obtain ⟨V, rfl⟩ : ∃ V, V = wr := ⟨_, rfl⟩
          have hki2 : (k : Int) ≤ (l.length : Int) := by omega
          have hkc : (k : Int) ≤ (cap0 : Int) := by omega
          by_cases hlt2 : k < l.length
          · have hlti2 : (k : Int) < (l.length : Int) := by omega
            obtain ⟨z, hz⟩ : ∃ z, z = l[k] := ⟨_, rfl⟩
            have hcl : V.cell? ⟨g0, k, none⟩ = some (.int .i64 z) := by rw [hz]; exact HC.out V B00.out k hlt2
            by_cases hzx : z ≥ x
            · have HS : Hid (∀ j', (hj : j' < l.length) → j' < k + 1 → l[j'] ≥ x) := Lib.hid fun j' hj hjk => by
                by_cases e : j' = k
                · subst e; rw [← hz]; exact hzx
                · exact HALL.out j' hj (by omega)
              clear hz
              go_wp2
              go_roundw
              case rel => exact ⟨k + 1, by omega, by go_num, by first | rfl | trivial, HS⟩
              case measure => simp [intOf]; omega
            · have HINS := Lib.hid (insD_at x l k hk HALL.out (.inr ⟨hlt2, by rw [← hz]; exact hzx⟩))
              clear hz
              have HAL : Hid (∀ u o, Below V.heap.size V u → Below V.heap.size V (u.alloc o)) := Lib.hid fun u o hu => hu.alloc hu.size o
              have HM : Hid (∀ u H, Below V.heap.size V u → u.heap.size = H → (u.alloc (.cells #[] 3)).ownsRow V.heap.size 3 1 (.slice (some ⟨H, 0, none⟩) 0 0) 0 (iv [])) := Lib.hid fun u H hu hH => by subst hH; exact World.ownsRow_made u #[] 0 hu.size (by decide) rfl
              have HLK : Hid ((iv (l.take k)).length = k * 1) := Lib.hid (by rw [iv_length, List.length_take]; omega)
              have HNW : Hid (∀ u, Below V.heap.size V u → ∀ j z, (iv (l.take k))[j]? = some z → u.cell? ((⟨g0, 0, none⟩ : Addr).add j) = some z) := Lib.hid fun u hu j z hz => by
                have hj : j < (iv (l.take k)).length := (List.getElem?_eq_some_iff.1 hz).1
                rw [HLK.out] at hj
                have hjl : j < l.length := by omega
                rw [iv_at (by rw [List.length_take]; omega)] at hz
                rw [show (⟨g0, 0, none⟩ : Addr).add j = ⟨g0, j, none⟩ by unfold Addr.add; split <;> simp_all, HC.out u hu j hjl, ← hz, List.getElem_take]
              have HONE : Hid (∀ u ∈ iv (l.take k), u.oneCell' = true) := Lib.hid fun u hu => by unfold iv at hu; obtain ⟨y, _, rfl⟩ := List.mem_map.1 hu; rfl
              have HGR : Hid (∀ (u u' : World) (g : Nat), u.grownBy u' (some g) → Below V.heap.size V u → V.heap.size ≤ g → Below V.heap.size V u') := Lib.hid fun u u' g hg hu hw => hu.grown hg hu.size (fun j hj => by cases hj; exact hw)
              have HLK2 : Hid ((iv (l.drop k)).length = (l.length - k) * 1) := Lib.hid (by rw [iv_length, List.length_drop]; omega)
              have HNW2 : Hid (∀ u, Below V.heap.size V u → ∀ j z, (iv (l.drop k))[j]? = some z → u.cell? ((⟨g0, k, none⟩ : Addr).add j) = some z) := Lib.hid fun u hu j z hz => by
                have hj : j < (iv (l.drop k)).length := (List.getElem?_eq_some_iff.1 hz).1
                rw [HLK2.out] at hj
                have hjl : k + j < l.length := by omega
                rw [iv_at (by rw [List.length_drop]; omega)] at hz
                rw [show (⟨g0, k, none⟩ : Addr).add j = ⟨g0, k + j, none⟩ by unfold Addr.add; split <;> simp_all, HC.out u hu (k + j) hjl, ← hz, List.getElem_drop]
              have HONE2 : Hid (∀ u ∈ iv (l.drop k), u.oneCell' = true) := Lib.hid fun u hu => by unfold iv at hu; obtain ⟨y, _, rfl⟩ := List.mem_map.1 hu; rfl
              have b1 : Below V.heap.size V V.drew := B00.out.drew
              have HNC : Hid (((V.alloc (.cells #[.int .i64 x] 3)).alloc (.cells #[] 3)).heap[V.heap.size]? = some (.cells #[.int .i64 x] 3)) := Lib.hid ((Below.heap_alloc (V.alloc (.cells #[.int .i64 x] 3)) (.cells #[] 3) V.heap.size (by rw [size_alloc]; omega)).trans (heap_alloc_new _ _))
              have HNB : Hid (((V.alloc (.cells #[] 3)).alloc (.cells #[.int .i64 x] 3)).heap[V.heap.size + 1]? = some (.cells #[.int .i64 x] 3)) := Lib.hid (by rw [← size_alloc V (.cells #[] 3)]; exact heap_alloc_new _ _)
              have hc0n : ¬ cap0 = 0 := by omega
              have hckn : ¬ cap0 = k := by omega
              go_wp2_with fail
              go_region_held3 (fun u => Below V.heap.size V u) (first | assumption | exact HAL.out _ _ (by assumption)) (first | (refine step_append_some rfl (.tmp 49) (.tmp 52) 22 rfl V.heap.size 3 i0 (.int .i64 0) 1 8 Try.underlying22 hi hz0 hz1 hz2 rfl (by decide) _ 0 (iv []) rfl (by first | exact HM.out _ _ (by first | assumption | exact HAL.out _ _ (by assumption) | exact HAL.out _ _ (HAL.out _ _ (by assumption))) (by simp) | exact (HM.out _ _ (by first | assumption | exact HAL.out _ _ (by assumption) | exact HAL.out _ _ (HAL.out _ _ (by assumption))) (by simp)).alloc _) (fun h => absurd (show Value.slice (some _) _ _ = Value.slice none 0 0 from h) (by simp)) ⟨g0, 0, none⟩ k cap0 (iv (l.take k)) rfl HLK.out (HNW.out _ (by first | assumption | exact HAL.out _ _ (by assumption) | exact HAL.out _ _ (HAL.out _ _ (by assumption)))) HONE.out (by unfold maxLen; omega) (by omega) (by simp; try omega) k (by omega) ?_; intro g1 cap1 w1 hown1 hgrow1 hat1; have hb1 := HGR.out _ _ _ hgrow1 (by first | assumption | exact HAL.out _ _ (by assumption) | exact HAL.out _ _ (HAL.out _ _ (by assumption))) (by first | omega | exact Nat.le_refl _ | exact Nat.le_succ _ | simp)) | (refine step_append_some rfl (.tmp 53) (.tmp 55) 22 rfl V.heap.size 3 i0 (.int .i64 0) 1 8 Try.underlying22 hi hz0 hz1 hz2 rfl (by decide) _ k _ rfl (by first | exact hown1 | exact hown1.alloc _) (fun h => absurd (show Value.slice (some _) _ _ = Value.slice none 0 0 from h) (by simp)) _ 1 1 [.int .i64 x] rfl rfl (by first | exact one_cell _ _ _ | exact far_cell (B := V.heap.size + 1) hgrow1 HNB.out (show V.heap.size + 1 ≠ V.heap.size by omega) | exact far_cell (B := V.heap.size) hgrow1 HNC.out (show V.heap.size ≠ V.heap.size + 1 by omega)) (by simp [Value.oneCell']) (by unfold maxLen; omega) (by omega) (by have := hb1.size; first | omega | (simp; omega)) (k + 1) rfl ?_; intro g2 cap2 w2 hown2 hgrow2 hat2; have hb2 := HGR.out _ _ _ hgrow2 (by first | assumption | exact HAL.out _ _ (by assumption) | exact HAL.out _ _ (HAL.out _ _ (by assumption))) (owns_lt hown1).2.2.2) | (refine step_append_some rfl (.tmp 56) (.tmp 59) 22 rfl V.heap.size 3 i0 (.int .i64 0) 1 8 Try.underlying22 hi hz0 hz1 hz2 rfl (by decide) _ (k + 1) _ rfl (by first | exact hown2 | exact hown2.alloc _) (fun h => absurd (show Value.slice (some _) _ _ = Value.slice none 0 0 from h) (by simp)) ⟨g0, k, none⟩ (l.length - k) (cap0 - k) (iv (l.drop k)) rfl HLK2.out (HNW2.out _ (by first | assumption | exact HAL.out _ _ (by assumption) | exact HAL.out _ _ (HAL.out _ _ (by assumption)))) HONE2.out (by unfold maxLen; omega) (by omega) (by have := hb2.size; first | omega | (simp; omega)) (l.length + 1) (by omega) ?_; intro g3 cap3 w3 hown3 hgrow3 hat3; have hb3 := HGR.out _ _ _ hgrow3 (by first | assumption | exact HAL.out _ _ (by assumption) | exact HAL.out _ _ (HAL.out _ _ (by assumption))) (owns_lt hown2).2.2.2))
              all_goals (
            have HB3 := Lib.hid (show Below V.heap.size V _ by first | assumption | exact And.right (by assumption))
            have HO3 := Lib.hid (up_end HINS.out (by assumption))
            go_wp2
            go_roundw
            case rel => exact ⟨j + 1, _, _, by omega, by go_num, by first | (rw [HTOP.out, HIL.out]; done) | (rw [HTOP.out, HIL.out]; rfl), Lib.hid (by rw [HTOP.out, HIL.out]; exact owns_low HO3.out HVZ.out), HNX.out.trans (HB3.out.mono HNX.out.size)⟩
            case measure => simp [intOf]; omega)
          · have HINS := Lib.hid (insD_at x l k hk HALL.out (.inl (by omega)))
            have hge : decide ((k : Int) < (l.length : Int)) = false := decide_eq_false (by omega)
            have hkle : k = l.length := by omega
            have HKL := Lib.hid hkle
            clear hkle
            have HAL : Hid (∀ u o, Below V.heap.size V u → Below V.heap.size V (u.alloc o)) := Lib.hid fun u o hu => hu.alloc hu.size o
            have HM : Hid (∀ u H, Below V.heap.size V u → u.heap.size = H → (u.alloc (.cells #[] 3)).ownsRow V.heap.size 3 1 (.slice (some ⟨H, 0, none⟩) 0 0) 0 (iv [])) := Lib.hid fun u H hu hH => by subst hH; exact World.ownsRow_made u #[] 0 hu.size (by decide) rfl
            have HLK : Hid ((iv (l.take k)).length = k * 1) := Lib.hid (by rw [iv_length, List.length_take]; omega)
            have HNW : Hid (∀ u, Below V.heap.size V u → ∀ j z, (iv (l.take k))[j]? = some z → u.cell? ((⟨g0, 0, none⟩ : Addr).add j) = some z) := Lib.hid fun u hu j z hz => by
              have hj : j < (iv (l.take k)).length := (List.getElem?_eq_some_iff.1 hz).1
              rw [HLK.out] at hj
              have hjl : j < l.length := by omega
              rw [iv_at (by rw [List.length_take]; omega)] at hz
              rw [show (⟨g0, 0, none⟩ : Addr).add j = ⟨g0, j, none⟩ by unfold Addr.add; split <;> simp_all, HC.out u hu j hjl, ← hz, List.getElem_take]
            have HONE : Hid (∀ u ∈ iv (l.take k), u.oneCell' = true) := Lib.hid fun u hu => by unfold iv at hu; obtain ⟨y, _, rfl⟩ := List.mem_map.1 hu; rfl
            have HGR : Hid (∀ (u u' : World) (g : Nat), u.grownBy u' (some g) → Below V.heap.size V u → V.heap.size ≤ g → Below V.heap.size V u') := Lib.hid fun u u' g hg hu hw => hu.grown hg hu.size (fun j hj => by cases hj; exact hw)
            have HLK2 : Hid ((iv (l.drop k)).length = (l.length - k) * 1) := Lib.hid (by rw [iv_length, List.length_drop]; omega)
            have HDR : Hid (iv (l.drop k) = []) := Lib.hid (by rw [List.drop_of_length_le (by omega)]; rfl)
            have HNW2 : Hid (∀ (ad : Addr) (u : World), Below V.heap.size V u → ∀ j z, (iv (l.drop k))[j]? = some z → u.cell? (ad.add j) = some z) := Lib.hid fun ad u _ j z hz => by rw [HDR.out] at hz; simp at hz
            have HONE2 : Hid (∀ u ∈ iv (l.drop k), u.oneCell' = true) := Lib.hid fun u hu => by unfold iv at hu; obtain ⟨y, _, rfl⟩ := List.mem_map.1 hu; rfl
            have b1 : Below V.heap.size V V.drew := B00.out.drew
            have HNC : Hid (((V.alloc (.cells #[.int .i64 x] 3)).alloc (.cells #[] 3)).heap[V.heap.size]? = some (.cells #[.int .i64 x] 3)) := Lib.hid ((Below.heap_alloc (V.alloc (.cells #[.int .i64 x] 3)) (.cells #[] 3) V.heap.size (by rw [size_alloc]; omega)).trans (heap_alloc_new _ _))
            have HNB : Hid (((V.alloc (.cells #[] 3)).alloc (.cells #[.int .i64 x] 3)).heap[V.heap.size + 1]? = some (.cells #[.int .i64 x] 3)) := Lib.hid (by rw [← size_alloc V (.cells #[] 3)]; exact heap_alloc_new _ _)
            by_cases hc0n : cap0 = 0
            · obtain rfl : l = [] := List.eq_nil_of_length_eq_zero (by omega)
              obtain rfl : k = 0 := by have := HKL.out; simp at this; exact this
              subst hc0n
              go_wp2_with fail
              go_region_held3 (fun u => Below V.heap.size V u) (first | assumption | exact HAL.out _ _ (by assumption)) (first | (refine step_append_some rfl (.tmp 49) (.tmp 52) 22 rfl V.heap.size 3 i0 (.int .i64 0) 1 8 Try.underlying22 hi hz0 hz1 hz2 rfl (by decide) _ 0 (iv []) rfl (by first | exact HM.out _ _ (by first | assumption | exact HAL.out _ _ (by assumption) | exact HAL.out _ _ (HAL.out _ _ (by assumption))) (by simp) | exact (HM.out _ _ (by first | assumption | exact HAL.out _ _ (by assumption) | exact HAL.out _ _ (HAL.out _ _ (by assumption))) (by simp)).alloc _) (fun h => absurd (show Value.slice (some _) _ _ = Value.slice none 0 0 from h) (by simp)) _ 0 _ (iv (([] : List Int).take 0)) rfl HLK.out (HNW.out _ (by first | assumption | exact HAL.out _ _ (by assumption) | exact HAL.out _ _ (HAL.out _ _ (by assumption)))) HONE.out (by unfold maxLen; omega) (by omega) (by simp; try omega) 0 (by omega) ?_; intro g1 cap1 w1 hown1 hgrow1 hat1; have hb1 := HGR.out _ _ _ hgrow1 (by first | assumption | exact HAL.out _ _ (by assumption) | exact HAL.out _ _ (HAL.out _ _ (by assumption))) (by first | omega | exact Nat.le_refl _ | exact Nat.le_succ _ | simp)) | (refine step_append_some rfl (.tmp 53) (.tmp 55) 22 rfl V.heap.size 3 i0 (.int .i64 0) 1 8 Try.underlying22 hi hz0 hz1 hz2 rfl (by decide) _ 0 _ rfl (by first | exact hown1 | exact hown1.alloc _) (fun h => absurd (show Value.slice (some _) _ _ = Value.slice none 0 0 from h) (by simp)) _ 1 1 [.int .i64 x] rfl rfl (by first | exact one_cell _ _ _ | exact far_cell (B := V.heap.size + 1) hgrow1 HNB.out (show V.heap.size + 1 ≠ V.heap.size by omega) | exact far_cell (B := V.heap.size) hgrow1 HNC.out (show V.heap.size ≠ V.heap.size + 1 by omega)) (by simp [Value.oneCell']) (by unfold maxLen; omega) (by omega) (by have := hb1.size; first | omega | (simp; omega)) (0 + 1) rfl ?_; intro g2 cap2 w2 hown2 hgrow2 hat2; have hb2 := HGR.out _ _ _ hgrow2 (by first | assumption | exact HAL.out _ _ (by assumption) | exact HAL.out _ _ (HAL.out _ _ (by assumption))) (owns_lt hown1).2.2.2) | (refine step_append_some rfl (.tmp 56) (.tmp 59) 22 rfl V.heap.size 3 i0 (.int .i64 0) 1 8 Try.underlying22 hi hz0 hz1 hz2 rfl (by decide) _ (0 + 1) _ rfl (by first | exact hown2 | exact hown2.alloc _) (fun h => absurd (show Value.slice (some _) _ _ = Value.slice none 0 0 from h) (by simp)) _ 0 _ (iv (([] : List Int).drop 0)) rfl HLK2.out (HNW2.out _ _ (by first | assumption | exact HAL.out _ _ (by assumption) | exact HAL.out _ _ (HAL.out _ _ (by assumption)))) HONE2.out (by unfold maxLen; omega) (by omega) (by have := hb2.size; first | omega | (simp; omega)) (([] : List Int).length + 1) (by omega) ?_; intro g3 cap3 w3 hown3 hgrow3 hat3; have hb3 := HGR.out _ _ _ hgrow3 (by first | assumption | exact HAL.out _ _ (by assumption) | exact HAL.out _ _ (HAL.out _ _ (by assumption))) (owns_lt hown2).2.2.2))
              all_goals (
                  have HB3 := Lib.hid (show Below V.heap.size V _ by first | assumption | exact And.right (by assumption))
                  have HO3 := Lib.hid (up_end HINS.out (by assumption))
                  go_wp2
                  go_roundw
                  case rel => exact ⟨j + 1, _, _, by omega, by go_num, by first | (rw [HTOP.out, HIL.out]; done) | (rw [HTOP.out, HIL.out]; rfl), Lib.hid (by rw [HTOP.out, HIL.out]; exact owns_low HO3.out HVZ.out), HNX.out.trans (HB3.out.mono HNX.out.size)⟩
                  case measure => simp [intOf]; omega)
            · by_cases hckn : cap0 = k
              · subst hckn
                go_wp2_with fail
                go_region_held3 (fun u => Below V.heap.size V u) (first | assumption | exact HAL.out _ _ (by assumption)) (first | (refine step_append_some rfl (.tmp 49) (.tmp 52) 22 rfl V.heap.size 3 i0 (.int .i64 0) 1 8 Try.underlying22 hi hz0 hz1 hz2 rfl (by decide) _ 0 (iv []) rfl (by first | exact HM.out _ _ (by first | assumption | exact HAL.out _ _ (by assumption) | exact HAL.out _ _ (HAL.out _ _ (by assumption))) (by simp) | exact (HM.out _ _ (by first | assumption | exact HAL.out _ _ (by assumption) | exact HAL.out _ _ (HAL.out _ _ (by assumption))) (by simp)).alloc _) (fun h => absurd (show Value.slice (some _) _ _ = Value.slice none 0 0 from h) (by simp)) _ cap0 _ (iv (l.take cap0)) rfl HLK.out (HNW.out _ (by first | assumption | exact HAL.out _ _ (by assumption) | exact HAL.out _ _ (HAL.out _ _ (by assumption)))) HONE.out (by unfold maxLen; omega) (by omega) (by simp; try omega) cap0 (by omega) ?_; intro g1 cap1 w1 hown1 hgrow1 hat1; have hb1 := HGR.out _ _ _ hgrow1 (by first | assumption | exact HAL.out _ _ (by assumption) | exact HAL.out _ _ (HAL.out _ _ (by assumption))) (by first | omega | exact Nat.le_refl _ | exact Nat.le_succ _ | simp)) | (refine step_append_some rfl (.tmp 53) (.tmp 55) 22 rfl V.heap.size 3 i0 (.int .i64 0) 1 8 Try.underlying22 hi hz0 hz1 hz2 rfl (by decide) _ cap0 _ rfl (by first | exact hown1 | exact hown1.alloc _) (fun h => absurd (show Value.slice (some _) _ _ = Value.slice none 0 0 from h) (by simp)) _ 1 1 [.int .i64 x] rfl rfl (by first | exact one_cell _ _ _ | exact far_cell (B := V.heap.size + 1) hgrow1 HNB.out (show V.heap.size + 1 ≠ V.heap.size by omega) | exact far_cell (B := V.heap.size) hgrow1 HNC.out (show V.heap.size ≠ V.heap.size + 1 by omega)) (by simp [Value.oneCell']) (by unfold maxLen; omega) (by omega) (by have := hb1.size; first | omega | (simp; omega)) (cap0 + 1) rfl ?_; intro g2 cap2 w2 hown2 hgrow2 hat2; have hb2 := HGR.out _ _ _ hgrow2 (by first | assumption | exact HAL.out _ _ (by assumption) | exact HAL.out _ _ (HAL.out _ _ (by assumption))) (owns_lt hown1).2.2.2) | (refine step_append_some rfl (.tmp 56) (.tmp 59) 22 rfl V.heap.size 3 i0 (.int .i64 0) 1 8 Try.underlying22 hi hz0 hz1 hz2 rfl (by decide) _ (cap0 + 1) _ rfl (by first | exact hown2 | exact hown2.alloc _) (fun h => absurd (show Value.slice (some _) _ _ = Value.slice none 0 0 from h) (by simp)) _ 0 _ (iv (l.drop cap0)) rfl (by rw [HDR.out]; rfl) (HNW2.out _ _ (by first | assumption | exact HAL.out _ _ (by assumption) | exact HAL.out _ _ (HAL.out _ _ (by assumption)))) HONE2.out (by unfold maxLen; omega) (by omega) (by have := hb2.size; first | omega | (simp; omega)) (l.length + 1) (by have := HKL.out; omega) ?_; intro g3 cap3 w3 hown3 hgrow3 hat3; have hb3 := HGR.out _ _ _ hgrow3 (by first | assumption | exact HAL.out _ _ (by assumption) | exact HAL.out _ _ (HAL.out _ _ (by assumption))) (owns_lt hown2).2.2.2))
                all_goals (
                  have HB3 := Lib.hid (show Below V.heap.size V _ by first | assumption | exact And.right (by assumption))
                  have HO3 := Lib.hid (up_end HINS.out (by assumption))
                  go_wp2
                  go_roundw
                  case rel => exact ⟨j + 1, _, _, by omega, by go_num, by first | (rw [HTOP.out, HIL.out]; done) | (rw [HTOP.out, HIL.out]; rfl), Lib.hid (by rw [HTOP.out, HIL.out]; exact owns_low HO3.out HVZ.out), HNX.out.trans (HB3.out.mono HNX.out.size)⟩
                  case measure => simp [intOf]; omega)
              · go_wp2_with fail
                go_region_held3 (fun u => Below V.heap.size V u) (first | assumption | exact HAL.out _ _ (by assumption)) (first | (refine step_append_some rfl (.tmp 49) (.tmp 52) 22 rfl V.heap.size 3 i0 (.int .i64 0) 1 8 Try.underlying22 hi hz0 hz1 hz2 rfl (by decide) _ 0 (iv []) rfl (by first | exact HM.out _ _ (by first | assumption | exact HAL.out _ _ (by assumption) | exact HAL.out _ _ (HAL.out _ _ (by assumption))) (by simp) | exact (HM.out _ _ (by first | assumption | exact HAL.out _ _ (by assumption) | exact HAL.out _ _ (HAL.out _ _ (by assumption))) (by simp)).alloc _) (fun h => absurd (show Value.slice (some _) _ _ = Value.slice none 0 0 from h) (by simp)) _ k _ (iv (l.take k)) rfl HLK.out (HNW.out _ (by first | assumption | exact HAL.out _ _ (by assumption) | exact HAL.out _ _ (HAL.out _ _ (by assumption)))) HONE.out (by unfold maxLen; omega) (by omega) (by simp; try omega) k (by omega) ?_; intro g1 cap1 w1 hown1 hgrow1 hat1; have hb1 := HGR.out _ _ _ hgrow1 (by first | assumption | exact HAL.out _ _ (by assumption) | exact HAL.out _ _ (HAL.out _ _ (by assumption))) (by first | omega | exact Nat.le_refl _ | exact Nat.le_succ _ | simp)) | (refine step_append_some rfl (.tmp 53) (.tmp 55) 22 rfl V.heap.size 3 i0 (.int .i64 0) 1 8 Try.underlying22 hi hz0 hz1 hz2 rfl (by decide) _ k _ rfl (by first | exact hown1 | exact hown1.alloc _) (fun h => absurd (show Value.slice (some _) _ _ = Value.slice none 0 0 from h) (by simp)) _ 1 1 [.int .i64 x] rfl rfl (by first | exact one_cell _ _ _ | exact far_cell (B := V.heap.size + 1) hgrow1 HNB.out (show V.heap.size + 1 ≠ V.heap.size by omega) | exact far_cell (B := V.heap.size) hgrow1 HNC.out (show V.heap.size ≠ V.heap.size + 1 by omega)) (by simp [Value.oneCell']) (by unfold maxLen; omega) (by omega) (by have := hb1.size; first | omega | (simp; omega)) (k + 1) rfl ?_; intro g2 cap2 w2 hown2 hgrow2 hat2; have hb2 := HGR.out _ _ _ hgrow2 (by first | assumption | exact HAL.out _ _ (by assumption) | exact HAL.out _ _ (HAL.out _ _ (by assumption))) (owns_lt hown1).2.2.2) | (refine step_append_some rfl (.tmp 56) (.tmp 59) 22 rfl V.heap.size 3 i0 (.int .i64 0) 1 8 Try.underlying22 hi hz0 hz1 hz2 rfl (by decide) _ (k + 1) _ rfl (by first | exact hown2 | exact hown2.alloc _) (fun h => absurd (show Value.slice (some _) _ _ = Value.slice none 0 0 from h) (by simp)) _ (l.length - k) _ (iv (l.drop k)) rfl HLK2.out (HNW2.out _ _ (by first | assumption | exact HAL.out _ _ (by assumption) | exact HAL.out _ _ (HAL.out _ _ (by assumption)))) HONE2.out (by unfold maxLen; omega) (by omega) (by have := hb2.size; first | omega | (simp; omega)) (l.length + 1) (by omega) ?_; intro g3 cap3 w3 hown3 hgrow3 hat3; have hb3 := HGR.out _ _ _ hgrow3 (by first | assumption | exact HAL.out _ _ (by assumption) | exact HAL.out _ _ (HAL.out _ _ (by assumption))) (owns_lt hown2).2.2.2))
                all_goals (
                  have HB3 := Lib.hid (show Below V.heap.size V _ by first | assumption | exact And.right (by assumption))
                  have HO3 := Lib.hid (up_end HINS.out (by assumption))
                  go_wp2
                  go_roundw
                  case rel => exact ⟨j + 1, _, _, by omega, by go_num, by first | (rw [HTOP.out, HIL.out]; done) | (rw [HTOP.out, HIL.out]; rfl), Lib.hid (by rw [HTOP.out, HIL.out]; exact owns_low HO3.out HVZ.out), HNX.out.trans (HB3.out.mono HNX.out.size)⟩
                  case measure => simp [intOf]; omega)
    · obtain rfl : j = N := by omega
      obtain ⟨V, rfl⟩ : ∃ V, V = wr := ⟨_, rfl⟩
      obtain ⟨l, hl⟩ : ∃ l, l = topL F u T j := ⟨_, rfl⟩
      have hll := HTL.out j
      have hlb := HTB.out j
      rw [← hl] at hll hlb HO HU ⊢
      have HLB := Lib.hid hlb
      have hli : (l.length : Int) ≤ 7 := by omega
      have HC : Hid (∀ i, (h : i < l.length) → V.cell? ⟨g0, i, none⟩ = some (.int .i64 l[i])) := Lib.hid fun i h => (HO.out.cellAt i (by omega)).trans (iv_at h)
      have HFIN := Lib.hid (HBB.out.trans (hnx.mono HBB.out.size))
      clear hlb hl hnx y1
      go_wp2
      clear y0
      go_loopw [10, 14] (fun sv iv' wr => ∃ i : Nat, i ≤ l.length ∧ i ≤ kk ∧ iv' = .int .i64 i ∧ sv = .int .i64 (G0 + (l.take i).sum) ∧ wr = V) (fun _ iv' _ => l.length - (intOf iv').toNat)
      case atStart => exact ⟨0, Nat.zero_le _, Nat.zero_le _, rfl, by simp, rfl⟩
      case round =>
        obtain ⟨i, hi1, hi2, rfl, rfl, hVr⟩ := hrel
        subst hVr
        by_cases hlk : i < kk
        · have hlki : (i : Int) < (kk : Int) := by omega
          by_cases hll2 : i < l.length
          · have hlli : (i : Int) < (l.length : Int) := by omega
            obtain ⟨z, hz⟩ : ∃ z, z = l[i] := ⟨_, rfl⟩
            have hcz := HC.out i hll2
            rw [← hz] at hcz
            have hzb := HLB.out z (by rw [hz]; exact List.getElem_mem _)
            have hyb := take_bnd HLB.out i
            obtain ⟨y, hy⟩ : ∃ y, y = (l.take i).sum := ⟨_, rfl⟩
            have hlen : (l.take i).length = i := by rw [List.length_take]; omega
            rw [← hy, hlen] at hyb
            rw [← hy]
            have HS : Hid (G0 + (l.take (i + 1)).sum = G0 + y + z) := Lib.hid (by rw [sum_step hll2, hy, hz]; omega)
            have e1 : -9223372036854775808 ≤ G0 + y + z := by omega
            have e2 : G0 + y + z ≤ 9223372036854775807 := by omega
            clear hz hy hlen hyb
            go_wp2
            go_roundw
            case rel => exact ⟨i + 1, by omega, by omega, by go_num, by rw [HS.out], by first | rfl | trivial⟩
            case measure => simp [intOf]; omega
          · have hlli : ¬ (i : Int) < (l.length : Int) := by omega
            have HE : Hid (upperT F u T kk = G0 + (l.take i).sum) := Lib.hid (by rw [HU.out, List.take_of_length_le (show l.length ≤ kk by omega), List.take_of_length_le (show l.length ≤ i by omega)])
            go_wp2
            go_ret
            exact ⟨by rw [HE.out]; rfl, HFIN.out⟩
        · have hlki : ¬ (i : Int) < (kk : Int) := by omega
          have HE : Hid (upperT F u T kk = G0 + (l.take i).sum) := Lib.hid (by rw [HU.out, show i = kk by omega])
          go_wp2
          go_ret
          exact ⟨by rw [HE.out]; rfl, HFIN.out⟩
end Go.Proofs.Ytmddijibplkngaa
