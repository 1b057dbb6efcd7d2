/- The ordered value on the model's side. Condition: a valid Field, a set of its sites, a weight for each client. -/
import Derived.Test.YtmcobaclagmaoaaPlainOrder
import Derived.IntWalk
import Derived.Test.YtmcobaclagmaoaaPut
import Derived.Test.YtmcobaclagmaoaaServe
import Derived.Deep.RegionHeld3
namespace Go.Proofs.Ytmcobaclagmaoaa
open Go.RowKit Go.Shelf

theorem owns_lowO {w : World} {B B' : Nat} {e : TypeId} {v : Value} {n : Nat} {xs : List Value} (h : w.ownsRow B e 1 v n xs) (hB : B' ≤ B) : w.ownsRow B' e 1 v n xs := by
  obtain ⟨h1, h2⟩ := id h
  refine ⟨h1, ?_⟩
  rcases h2 with h2 | ⟨g, cap, cur, rfl, hg, r⟩
  · exact .inl h2
  · exact .inr ⟨g, cap, cur, rfl, Nat.le_trans hB hg, r⟩
theorem upO_end {w3 V : World} {l : List Int} {k g cap : Nat} {x : Int} (hP : insA l x = l.take k ++ x :: l.drop k) (h : w3.ownsRow V.heap.size 3 1 (.slice (some ⟨g, 0, none⟩) (l.length + 1) cap) (l.length + 1) (((iv [] ++ iv (l.take k)) ++ [.int .i64 x]) ++ iv (l.drop k))) :
    w3.ownsRow V.heap.size 3 1 (.slice (some ⟨g, 0, none⟩) (l.length + 1) cap) (l.length + 1) (iv (insA l x)) := by
  have e : (((iv [] ++ iv (l.take k)) ++ [.int .i64 x]) ++ iv (l.drop k)) = iv (insA l x) := by rw [hP]; simp [iv]
  rw [e] at h; exact h
/-- The ordered value. -/
def ordT (F : Fld) (p : List Int) (T : List Nat) : Int := dotW p (sortA (lens F.t.con T)) F.t.con.length
theorem sorted_bound {F : Fld} (h : F.good = true) (T : List Nat) : ∀ x ∈ sortA (lens F.t.con T), 0 ≤ x ∧ x ≤ 99 := fun x hx => lens_bound h T x ((sortA_perm _).mem_iff.1 hx)

set_option maxHeartbeats 4000000 in
set_option maxRecDepth 100000 in
theorem l11Ordered_any (F : Fld) (s r : Row) (T : List Nat) (w : World) (hF : F.At w) (hs : s.At w) (hr : r.At w) (hf : Fine F s T) (hrn : r.l.length = F.t.R.length) (hrb : ∀ x ∈ r.l, 0 ≤ x ∧ x ≤ 99) :
    Calls Try.prog 30 #[.agg #[.slice F.o.a F.o.l.length F.o.c, .slice F.t.a F.t.R.length F.t.c], .slice s.a s.l.length s.c, .slice r.a r.l.length r.c] w fun e w' => e = .returned (.int .i64 (ordT F r.l T)) ∧ Below w.heap.size w w' := by
  obtain ⟨i0, hi, hz0, hz1, hz2⟩ := info_parts infoInt
  obtain ⟨wB, hB⟩ : ∃ wB, (w.alloc (Obj.cells #[.slice F.o.a F.o.l.length F.o.c, .slice F.t.a F.t.R.length F.t.c] 29)).alloc (.cells #[] 3) = wB := ⟨_, rfl⟩
  have hbB : Below w.heap.size w wB := by rw [← hB]; exact (below_alloc w _).alloc (by rw [size_alloc]; omega) _
  have hszB : wB.heap.size = w.heap.size + 1 + 1 := by rw [← hB, size_alloc, size_alloc]
  have hown0 : wB.ownsRow (w.heap.size + 1) 3 1 (.slice (some ⟨w.heap.size + 1, 0, none⟩) 0 0) 0 (iv []) := by
    rw [← hB]
    have := empty_own (w.alloc (Obj.cells #[.slice F.o.a F.o.l.length F.o.c, .slice F.t.a F.t.R.length F.t.c] 29))
    rw [size_alloc] at this; exact this
  have bx : Box2 wB w.heap.size (.slice F.o.a F.o.l.length F.o.c) (.slice F.t.a F.t.R.length F.t.c) 29 := by
    rw [← hB]; exact (Box2.made w _ _ _).later _
  have hsz := good_sizes hf.good
  obtain ⟨N, hN⟩ : ∃ N, N = F.t.R.length := ⟨_, rfl⟩
  obtain ⟨M, hM⟩ : ∃ M, M = lens F.t.con T := ⟨_, rfl⟩
  have hML : M.length = N := by rw [hM, lens_length, hN]
  have HMX : Hid (∀ j (h : j < N), M.getD j 0 = (lens F.t.con T)[j]'(by rw [lens_length, ← hN]; exact h)) := Lib.hid fun j h => by subst hM; rw [getD_at (by rw [lens_length, ← hN]; exact h)]
  have CN := Lib.hid (fun (j : Nat) (hj : j < N) W (hW : Below wB.heap.size wB W) => (by
    have hj' : j < F.t.R.length := by rw [← hN]; exact hj
    have := l2Nearest_any F s T j W ((hF.on hbB).on hW) ((hs.on hbB).on hW) hf.good hf.set hf.some hf.lt hj'
    rw [← lens_at F T hj', ← HMX.out j hj] at this
    exact this : Calls Try.prog 57 #[.agg #[.slice F.o.a F.o.l.length F.o.c, .slice F.t.a F.t.R.length F.t.c], .int .i64 (j : Int), .slice s.a s.l.length s.c] W fun e w' => e = .returned (.int .i64 (M.getD j 0)) ∧ Below W.heap.size W w'))
  have HTL := Lib.hid (fun j (h : j ≤ N) => insL_len M (j := j) (by rw [hML]; exact h))
  have HEND : Hid (ordT F r.l T = dotW r.l (insL M N) N) := Lib.hid (by unfold ordT; rw [← hM, ← insL_sort, hML, con_length, ← hN])
  have HDW : Hid (DotsW r.l (insL M N)) := Lib.hid ⟨hrb, fun x hx => by rw [← hML, insL_sort, hM] at hx; exact sorted_bound hf.good T x hx⟩
  have HRC : Hid (0 < N → ∃ b o, r.a = some ⟨b, o, none⟩ ∧ ∀ u, Below w.heap.size w u → ∀ k, k < N → u.cell? ⟨b, o + k, none⟩ = some (.int .i64 (r.l.getD k 0))) := Lib.hid fun h0 => by
    obtain ⟨q1, q2, h3⟩ := hr
    rcases h3 with h3 | ⟨b, o, ha, hb, hc⟩
    · have := congrArg List.length (iv_nil h3); rw [List.length_nil] at this; omega
    · refine ⟨b, o, ha, fun u hu m hm => ?_⟩
      have hm' : m < r.l.length := by rw [hrn, ← hN]; exact hm
      rw [hu.cell (p := ⟨b, o + m, none⟩) hb, hc m _ (iv_at hm'), getD_at hm']
  have hrN : r.l.length = N := by rw [hrn, hN]
  have HOW := Lib.hid hown0
  have HBB := Lib.hid hbB
  have HBX : Hid (Box2 wB w.heap.size (.slice F.o.a F.o.l.length F.o.c) (.slice F.t.a N F.t.c) 29) := Lib.hid (by rw [hN]; exact bx)
  have HB := Lib.hid hB
  have hN7 : N ≤ 7 := by omega
  have hNi : (N : Int) ≤ 7 := by omega
  have HSZ := Lib.hid hszB
  rw [hrN]
  clear HMX hF hs hr hf hrn hrb hB hbB hszB hown0 bx hsz hM hML hrN
  rw [← hN]
  rw [← hN] at CN HB
  clear hN
  go_enter Try.func30, Try.ntmps30
  go_wp2_with fail
  rw [HB.out]
  go_loopw [7, 9, 10, 11] (fun out jv _ _ wr => ∃ (j g0 cap0 : Nat), j ≤ N ∧ jv = .int .i64 j ∧ out = .slice (some ⟨g0, 0, none⟩) (insL M j).length cap0 ∧ Hid (wr.ownsRow (w.heap.size + 1) 3 1 (.slice (some ⟨g0, 0, none⟩) (insL M j).length cap0) (insL M j).length (iv (insL M j))) ∧ Below wB.heap.size wB wr) (fun _ jv _ _ _ => N - (intOf jv).toNat)
  case atStart => exact ⟨0, w.heap.size + 1, 0, Nat.zero_le _, rfl, rfl, HOW, Below.refl _ _⟩
  case round =>
    obtain ⟨j, g0, cap0, hj, rfl, rfl, HO, hnx⟩ := hrel
    have y0 := (HBX.out.on hnx).c0
    have y1 := (HBX.out.on hnx).c1
    have HNX := Lib.hid hnx
    by_cases hlt : j < N
    · have hlti : (j : Int) < (N : Int) := by omega
      obtain ⟨D, hD⟩ : ∃ D, D = insL M j := ⟨_, rfl⟩
      obtain ⟨x, hx⟩ : ∃ x, x = M.getD j 0 := ⟨_, rfl⟩
      have HTOP : Hid (insL M (j + 1) = insA D x) := Lib.hid (by rw [insL, hD, hx])
      have hDl : D.length ≤ 7 := by rw [hD, HTL.out j hj]; omega
      rw [← hD] at HO ⊢
      have HDD := Lib.hid hD
      have hDi : (D.length : Int) ≤ 7 := by omega
      have CN1 := Lib.hid (by have := CN.out j hlt wr hnx; rw [← hx] at this; exact this)
      clear hnx hD hx
      go_wp2_with fail
      clear y0 y1
      refine (show Calls _ _ _ _ _ from CN1.out).mono ?_
      rintro e V ⟨rfl, hbV⟩
      have HNX0 := HNX
      have HNX : Hid (Below wB.heap.size wB V) := Lib.hid (HNX0.out.trans (hbV.mono HNX0.out.size))
      have HOV : Hid (V.ownsRow (w.heap.size + 1) 3 1 (.slice (some ⟨g0, 0, none⟩) D.length cap0) D.length (iv D)) := Lib.hid (owns_below HO.out hbV)
      have HVZ : Hid (w.heap.size + 1 ≤ V.heap.size) := Lib.hid (by have := HNX.out.size; have := HSZ.out; omega)
      obtain ⟨hg0, hc0, hc1, _⟩ := owns_lt HOV.out
      have hci : (D.length : Int) ≤ (cap0 : Int) := by omega
      obtain ⟨l, hl⟩ : ∃ l, l = D := ⟨_, rfl⟩
      rw [← hl] at HOV hDl hDi hc0 hci HTOP ⊢
      have HIL : Hid ((insA l x).length = l.length + 1) := Lib.hid (by rw [(insA_perm x l).length_eq, List.length_cons])
      have HC : Hid (∀ u, Below V.heap.size V u → ∀ j, (hj : j < l.length) → u.cell? ⟨g0, j, none⟩ = some (.int .i64 l[j])) := Lib.hid fun u hu j hj =>
        (hu.cell (p := ⟨g0, j, none⟩) hg0).trans ((HOV.out.cellAt j (by omega)).trans (iv_at hj))
      have hni : (l.length : Int) ≤ 1048576 := by omega
      have hsm : l.length ≤ 1048576 := by omega
      have b00 := Below.refl V.heap.size V
      have B00 := Lib.hid b00
      clear hbV hl b00 HNX0 HO
      go_wp2
      go_loopw [11] (fun av wr => ∃ k : Nat, k ≤ l.length ∧ av = .int .i64 k ∧ wr = V ∧ Hid (∀ j', (hj : j' < l.length) → j' < k → l[j'] ≤ x)) (fun av _ => l.length - (intOf av).toNat)
      case atStart => exact ⟨0, Nat.zero_le _, rfl, rfl, Lib.hid fun j _ h => absurd h (Nat.not_lt_zero _)⟩
      case round =>
        obtain ⟨k, hk, rfl, hVr, HALL⟩ := hrel
        subst hVr
        obtain ⟨V, rfl⟩ : ∃ V, V = wr := ⟨_, rfl⟩
        have hki2 : (k : Int) ≤ (l.length : Int) := by omega
        have hkc : (k : Int) ≤ (cap0 : Int) := by omega
        by_cases hlt2 : k < l.length
        · have hlti2 : (k : Int) < (l.length : Int) := by omega
          obtain ⟨z, hz⟩ : ∃ z, z = l[k] := ⟨_, rfl⟩
          have hcl : V.cell? ⟨g0, k, none⟩ = some (.int .i64 z) := by rw [hz]; exact HC.out V B00.out k hlt2
          by_cases hzx : z ≤ x
          · have HS : Hid (∀ j', (hj : j' < l.length) → j' < k + 1 → l[j'] ≤ x) := Lib.hid fun j' hj hjk => by
              by_cases e : j' = k
              · subst e; rw [← hz]; exact hzx
              · exact HALL.out j' hj (by omega)
            clear hz
            go_wp2
            go_roundw
            case rel => exact ⟨k + 1, by omega, by go_num, by first | rfl | trivial, HS⟩
            case measure => simp [intOf]; omega
          · have HINS := Lib.hid (insA_at x l k hk HALL.out (.inr ⟨hlt2, by rw [← hz]; exact hzx⟩))
            clear hz
            have HAL : Hid (∀ u o, Below V.heap.size V u → Below V.heap.size V (u.alloc o)) := Lib.hid fun u o hu => hu.alloc hu.size o
            have HM : Hid (∀ u H, Below V.heap.size V u → u.heap.size = H → (u.alloc (.cells #[] 3)).ownsRow V.heap.size 3 1 (.slice (some ⟨H, 0, none⟩) 0 0) 0 (iv [])) := Lib.hid fun u H hu hH => by subst hH; exact World.ownsRow_made u #[] 0 hu.size (by decide) rfl
            have HLK : Hid ((iv (l.take k)).length = k * 1) := Lib.hid (by rw [iv_length, List.length_take]; omega)
            have HNW : Hid (∀ u, Below V.heap.size V u → ∀ j z, (iv (l.take k))[j]? = some z → u.cell? ((⟨g0, 0, none⟩ : Addr).add j) = some z) := Lib.hid fun u hu j z hz => by
              have hj : j < (iv (l.take k)).length := (List.getElem?_eq_some_iff.1 hz).1
              rw [HLK.out] at hj
              have hjl : j < l.length := by omega
              rw [iv_at (by rw [List.length_take]; omega)] at hz
              rw [show (⟨g0, 0, none⟩ : Addr).add j = ⟨g0, j, none⟩ by unfold Addr.add; split <;> simp_all, HC.out u hu j hjl, ← hz, List.getElem_take]
            have HONE : Hid (∀ u ∈ iv (l.take k), u.oneCell' = true) := Lib.hid fun u hu => by unfold iv at hu; obtain ⟨y, _, rfl⟩ := List.mem_map.1 hu; rfl
            have HGR : Hid (∀ (u u' : World) (g : Nat), u.grownBy u' (some g) → Below V.heap.size V u → V.heap.size ≤ g → Below V.heap.size V u') := Lib.hid fun u u' g hg hu hw => hu.grown hg hu.size (fun j hj => by cases hj; exact hw)
            have HLK2 : Hid ((iv (l.drop k)).length = (l.length - k) * 1) := Lib.hid (by rw [iv_length, List.length_drop]; omega)
            have HNW2 : Hid (∀ u, Below V.heap.size V u → ∀ j z, (iv (l.drop k))[j]? = some z → u.cell? ((⟨g0, k, none⟩ : Addr).add j) = some z) := Lib.hid fun u hu j z hz => by
              have hj : j < (iv (l.drop k)).length := (List.getElem?_eq_some_iff.1 hz).1
              rw [HLK2.out] at hj
              have hjl : k + j < l.length := by omega
              rw [iv_at (by rw [List.length_drop]; omega)] at hz
              rw [show (⟨g0, k, none⟩ : Addr).add j = ⟨g0, k + j, none⟩ by unfold Addr.add; split <;> simp_all, HC.out u hu (k + j) hjl, ← hz, List.getElem_drop]
            have HONE2 : Hid (∀ u ∈ iv (l.drop k), u.oneCell' = true) := Lib.hid fun u hu => by unfold iv at hu; obtain ⟨y, _, rfl⟩ := List.mem_map.1 hu; rfl
            have b1 : Below V.heap.size V V.drew := B00.out.drew
            have HNC : Hid (((V.alloc (.cells #[.int .i64 x] 3)).alloc (.cells #[] 3)).heap[V.heap.size]? = some (.cells #[.int .i64 x] 3)) := Lib.hid ((Below.heap_alloc (V.alloc (.cells #[.int .i64 x] 3)) (.cells #[] 3) V.heap.size (by rw [size_alloc]; omega)).trans (heap_alloc_new _ _))
            have HNB : Hid (((V.alloc (.cells #[] 3)).alloc (.cells #[.int .i64 x] 3)).heap[V.heap.size + 1]? = some (.cells #[.int .i64 x] 3)) := Lib.hid (by rw [← size_alloc V (.cells #[] 3)]; exact heap_alloc_new _ _)
            have hc0n : ¬ cap0 = 0 := by omega
            have hckn : ¬ cap0 = k := by omega
            go_wp2_with fail
            go_region_held3 (fun u => Below V.heap.size V u) (first | assumption | exact HAL.out _ _ (by assumption)) (first | (refine step_append_some rfl (.tmp 39) (.tmp 42) 22 rfl V.heap.size 3 i0 (.int .i64 0) 1 8 Try.underlying22 hi hz0 hz1 hz2 rfl (by decide) _ 0 (iv []) rfl (by first | exact HM.out _ _ (by first | assumption | exact HAL.out _ _ (by assumption) | exact HAL.out _ _ (HAL.out _ _ (by assumption))) (by simp) | exact (HM.out _ _ (by first | assumption | exact HAL.out _ _ (by assumption) | exact HAL.out _ _ (HAL.out _ _ (by assumption))) (by simp)).alloc _) (fun h => absurd (show Value.slice (some _) _ _ = Value.slice none 0 0 from h) (by simp)) ⟨g0, 0, none⟩ k cap0 (iv (l.take k)) rfl HLK.out (HNW.out _ (by first | assumption | exact HAL.out _ _ (by assumption) | exact HAL.out _ _ (HAL.out _ _ (by assumption)))) HONE.out (by unfold maxLen; omega) (by omega) (by simp; try omega) k (by omega) ?_; intro g1 cap1 w1 hown1 hgrow1 hat1; have hb1 := HGR.out _ _ _ hgrow1 (by first | assumption | exact HAL.out _ _ (by assumption) | exact HAL.out _ _ (HAL.out _ _ (by assumption))) (by first | omega | exact Nat.le_refl _ | exact Nat.le_succ _ | simp)) | (refine step_append_some rfl (.tmp 43) (.tmp 45) 22 rfl V.heap.size 3 i0 (.int .i64 0) 1 8 Try.underlying22 hi hz0 hz1 hz2 rfl (by decide) _ k _ rfl (by first | exact hown1 | exact hown1.alloc _) (fun h => absurd (show Value.slice (some _) _ _ = Value.slice none 0 0 from h) (by simp)) _ 1 1 [.int .i64 x] rfl rfl (by first | exact one_cell _ _ _ | exact far_cell (B := V.heap.size + 1) hgrow1 HNB.out (show V.heap.size + 1 ≠ V.heap.size by omega) | exact far_cell (B := V.heap.size) hgrow1 HNC.out (show V.heap.size ≠ V.heap.size + 1 by omega)) (by simp [Value.oneCell']) (by unfold maxLen; omega) (by omega) (by have := hb1.size; first | omega | (simp; omega)) (k + 1) rfl ?_; intro g2 cap2 w2 hown2 hgrow2 hat2; have hb2 := HGR.out _ _ _ hgrow2 (by first | assumption | exact HAL.out _ _ (by assumption) | exact HAL.out _ _ (HAL.out _ _ (by assumption))) (owns_lt hown1).2.2.2) | (refine step_append_some rfl (.tmp 46) (.tmp 49) 22 rfl V.heap.size 3 i0 (.int .i64 0) 1 8 Try.underlying22 hi hz0 hz1 hz2 rfl (by decide) _ (k + 1) _ rfl (by first | exact hown2 | exact hown2.alloc _) (fun h => absurd (show Value.slice (some _) _ _ = Value.slice none 0 0 from h) (by simp)) ⟨g0, k, none⟩ (l.length - k) (cap0 - k) (iv (l.drop k)) rfl HLK2.out (HNW2.out _ (by first | assumption | exact HAL.out _ _ (by assumption) | exact HAL.out _ _ (HAL.out _ _ (by assumption)))) HONE2.out (by unfold maxLen; omega) (by omega) (by have := hb2.size; first | omega | (simp; omega)) (l.length + 1) (by omega) ?_; intro g3 cap3 w3 hown3 hgrow3 hat3; have hb3 := HGR.out _ _ _ hgrow3 (by first | assumption | exact HAL.out _ _ (by assumption) | exact HAL.out _ _ (HAL.out _ _ (by assumption))) (owns_lt hown2).2.2.2))
            all_goals (
          have HB3 := Lib.hid (show Below V.heap.size V _ by first | assumption | exact And.right (by assumption))
          have HO3 := Lib.hid (upO_end HINS.out (by assumption))
          go_wp2
          go_roundw
          case rel => exact ⟨j + 1, _, _, by omega, by go_num, by first | (rw [HTOP.out, HIL.out]; done) | (rw [HTOP.out, HIL.out]; rfl), Lib.hid (by rw [HTOP.out, HIL.out]; exact owns_lowO HO3.out HVZ.out), HNX.out.trans (HB3.out.mono HNX.out.size)⟩
          case measure => simp [intOf]; omega)
        · have HINS := Lib.hid (insA_at x l k hk HALL.out (.inl (by omega)))
          have hge : decide ((k : Int) < (l.length : Int)) = false := decide_eq_false (by omega)
          have hkle : k = l.length := by omega
          have HKL := Lib.hid hkle
          clear hkle
          have HAL : Hid (∀ u o, Below V.heap.size V u → Below V.heap.size V (u.alloc o)) := Lib.hid fun u o hu => hu.alloc hu.size o
          have HM : Hid (∀ u H, Below V.heap.size V u → u.heap.size = H → (u.alloc (.cells #[] 3)).ownsRow V.heap.size 3 1 (.slice (some ⟨H, 0, none⟩) 0 0) 0 (iv [])) := Lib.hid fun u H hu hH => by subst hH; exact World.ownsRow_made u #[] 0 hu.size (by decide) rfl
          have HLK : Hid ((iv (l.take k)).length = k * 1) := Lib.hid (by rw [iv_length, List.length_take]; omega)
          have HNW : Hid (∀ u, Below V.heap.size V u → ∀ j z, (iv (l.take k))[j]? = some z → u.cell? ((⟨g0, 0, none⟩ : Addr).add j) = some z) := Lib.hid fun u hu j z hz => by
            have hj : j < (iv (l.take k)).length := (List.getElem?_eq_some_iff.1 hz).1
            rw [HLK.out] at hj
            have hjl : j < l.length := by omega
            rw [iv_at (by rw [List.length_take]; omega)] at hz
            rw [show (⟨g0, 0, none⟩ : Addr).add j = ⟨g0, j, none⟩ by unfold Addr.add; split <;> simp_all, HC.out u hu j hjl, ← hz, List.getElem_take]
          have HONE : Hid (∀ u ∈ iv (l.take k), u.oneCell' = true) := Lib.hid fun u hu => by unfold iv at hu; obtain ⟨y, _, rfl⟩ := List.mem_map.1 hu; rfl
          have HGR : Hid (∀ (u u' : World) (g : Nat), u.grownBy u' (some g) → Below V.heap.size V u → V.heap.size ≤ g → Below V.heap.size V u') := Lib.hid fun u u' g hg hu hw => hu.grown hg hu.size (fun j hj => by cases hj; exact hw)
          have HLK2 : Hid ((iv (l.drop k)).length = (l.length - k) * 1) := Lib.hid (by rw [iv_length, List.length_drop]; omega)
          have HDR : Hid (iv (l.drop k) = []) := Lib.hid (by rw [List.drop_of_length_le (by omega)]; rfl)
          have HNW2 : Hid (∀ (ad : Addr) (u : World), Below V.heap.size V u → ∀ j z, (iv (l.drop k))[j]? = some z → u.cell? (ad.add j) = some z) := Lib.hid fun ad u _ j z hz => by rw [HDR.out] at hz; simp at hz
          have HONE2 : Hid (∀ u ∈ iv (l.drop k), u.oneCell' = true) := Lib.hid fun u hu => by unfold iv at hu; obtain ⟨y, _, rfl⟩ := List.mem_map.1 hu; rfl
          have b1 : Below V.heap.size V V.drew := B00.out.drew
          have HNC : Hid (((V.alloc (.cells #[.int .i64 x] 3)).alloc (.cells #[] 3)).heap[V.heap.size]? = some (.cells #[.int .i64 x] 3)) := Lib.hid ((Below.heap_alloc (V.alloc (.cells #[.int .i64 x] 3)) (.cells #[] 3) V.heap.size (by rw [size_alloc]; omega)).trans (heap_alloc_new _ _))
          have HNB : Hid (((V.alloc (.cells #[] 3)).alloc (.cells #[.int .i64 x] 3)).heap[V.heap.size + 1]? = some (.cells #[.int .i64 x] 3)) := Lib.hid (by rw [← size_alloc V (.cells #[] 3)]; exact heap_alloc_new _ _)
          by_cases hc0n : cap0 = 0
          · obtain rfl : l = [] := List.eq_nil_of_length_eq_zero (by omega)
            obtain rfl : k = 0 := by have := HKL.out; simp at this; exact this
            subst hc0n
            go_wp2_with fail
            go_region_held3 (fun u => Below V.heap.size V u) (first | assumption | exact HAL.out _ _ (by assumption)) (first | (refine step_append_some rfl (.tmp 39) (.tmp 42) 22 rfl V.heap.size 3 i0 (.int .i64 0) 1 8 Try.underlying22 hi hz0 hz1 hz2 rfl (by decide) _ 0 (iv []) rfl (by first | exact HM.out _ _ (by first | assumption | exact HAL.out _ _ (by assumption) | exact HAL.out _ _ (HAL.out _ _ (by assumption))) (by simp) | exact (HM.out _ _ (by first | assumption | exact HAL.out _ _ (by assumption) | exact HAL.out _ _ (HAL.out _ _ (by assumption))) (by simp)).alloc _) (fun h => absurd (show Value.slice (some _) _ _ = Value.slice none 0 0 from h) (by simp)) _ 0 _ (iv (([] : List Int).take 0)) rfl HLK.out (HNW.out _ (by first | assumption | exact HAL.out _ _ (by assumption) | exact HAL.out _ _ (HAL.out _ _ (by assumption)))) HONE.out (by unfold maxLen; omega) (by omega) (by simp; try omega) 0 (by omega) ?_; intro g1 cap1 w1 hown1 hgrow1 hat1; have hb1 := HGR.out _ _ _ hgrow1 (by first | assumption | exact HAL.out _ _ (by assumption) | exact HAL.out _ _ (HAL.out _ _ (by assumption))) (by first | omega | exact Nat.le_refl _ | exact Nat.le_succ _ | simp)) | (refine step_append_some rfl (.tmp 43) (.tmp 45) 22 rfl V.heap.size 3 i0 (.int .i64 0) 1 8 Try.underlying22 hi hz0 hz1 hz2 rfl (by decide) _ 0 _ rfl (by first | exact hown1 | exact hown1.alloc _) (fun h => absurd (show Value.slice (some _) _ _ = Value.slice none 0 0 from h) (by simp)) _ 1 1 [.int .i64 x] rfl rfl (by first | exact one_cell _ _ _ | exact far_cell (B := V.heap.size + 1) hgrow1 HNB.out (show V.heap.size + 1 ≠ V.heap.size by omega) | exact far_cell (B := V.heap.size) hgrow1 HNC.out (show V.heap.size ≠ V.heap.size + 1 by omega)) (by simp [Value.oneCell']) (by unfold maxLen; omega) (by omega) (by have := hb1.size; first | omega | (simp; omega)) (0 + 1) rfl ?_; intro g2 cap2 w2 hown2 hgrow2 hat2; have hb2 := HGR.out _ _ _ hgrow2 (by first | assumption | exact HAL.out _ _ (by assumption) | exact HAL.out _ _ (HAL.out _ _ (by assumption))) (owns_lt hown1).2.2.2) | (refine step_append_some rfl (.tmp 46) (.tmp 49) 22 rfl V.heap.size 3 i0 (.int .i64 0) 1 8 Try.underlying22 hi hz0 hz1 hz2 rfl (by decide) _ (0 + 1) _ rfl (by first | exact hown2 | exact hown2.alloc _) (fun h => absurd (show Value.slice (some _) _ _ = Value.slice none 0 0 from h) (by simp)) _ 0 _ (iv (([] : List Int).drop 0)) rfl HLK2.out (HNW2.out _ _ (by first | assumption | exact HAL.out _ _ (by assumption) | exact HAL.out _ _ (HAL.out _ _ (by assumption)))) HONE2.out (by unfold maxLen; omega) (by omega) (by have := hb2.size; first | omega | (simp; omega)) (([] : List Int).length + 1) (by omega) ?_; intro g3 cap3 w3 hown3 hgrow3 hat3; have hb3 := HGR.out _ _ _ hgrow3 (by first | assumption | exact HAL.out _ _ (by assumption) | exact HAL.out _ _ (HAL.out _ _ (by assumption))) (owns_lt hown2).2.2.2))
            all_goals (
                have HB3 := Lib.hid (show Below V.heap.size V _ by first | assumption | exact And.right (by assumption))
                have HO3 := Lib.hid (upO_end HINS.out (by assumption))
                go_wp2
                go_roundw
                case rel => exact ⟨j + 1, _, _, by omega, by go_num, by first | (rw [HTOP.out, HIL.out]; done) | (rw [HTOP.out, HIL.out]; rfl), Lib.hid (by rw [HTOP.out, HIL.out]; exact owns_lowO HO3.out HVZ.out), HNX.out.trans (HB3.out.mono HNX.out.size)⟩
                case measure => simp [intOf]; omega)
          · by_cases hckn : cap0 = k
            · subst hckn
              go_wp2_with fail
              go_region_held3 (fun u => Below V.heap.size V u) (first | assumption | exact HAL.out _ _ (by assumption)) (first | (refine step_append_some rfl (.tmp 39) (.tmp 42) 22 rfl V.heap.size 3 i0 (.int .i64 0) 1 8 Try.underlying22 hi hz0 hz1 hz2 rfl (by decide) _ 0 (iv []) rfl (by first | exact HM.out _ _ (by first | assumption | exact HAL.out _ _ (by assumption) | exact HAL.out _ _ (HAL.out _ _ (by assumption))) (by simp) | exact (HM.out _ _ (by first | assumption | exact HAL.out _ _ (by assumption) | exact HAL.out _ _ (HAL.out _ _ (by assumption))) (by simp)).alloc _) (fun h => absurd (show Value.slice (some _) _ _ = Value.slice none 0 0 from h) (by simp)) _ cap0 _ (iv (l.take cap0)) rfl HLK.out (HNW.out _ (by first | assumption | exact HAL.out _ _ (by assumption) | exact HAL.out _ _ (HAL.out _ _ (by assumption)))) HONE.out (by unfold maxLen; omega) (by omega) (by simp; try omega) cap0 (by omega) ?_; intro g1 cap1 w1 hown1 hgrow1 hat1; have hb1 := HGR.out _ _ _ hgrow1 (by first | assumption | exact HAL.out _ _ (by assumption) | exact HAL.out _ _ (HAL.out _ _ (by assumption))) (by first | omega | exact Nat.le_refl _ | exact Nat.le_succ _ | simp)) | (refine step_append_some rfl (.tmp 43) (.tmp 45) 22 rfl V.heap.size 3 i0 (.int .i64 0) 1 8 Try.underlying22 hi hz0 hz1 hz2 rfl (by decide) _ cap0 _ rfl (by first | exact hown1 | exact hown1.alloc _) (fun h => absurd (show Value.slice (some _) _ _ = Value.slice none 0 0 from h) (by simp)) _ 1 1 [.int .i64 x] rfl rfl (by first | exact one_cell _ _ _ | exact far_cell (B := V.heap.size + 1) hgrow1 HNB.out (show V.heap.size + 1 ≠ V.heap.size by omega) | exact far_cell (B := V.heap.size) hgrow1 HNC.out (show V.heap.size ≠ V.heap.size + 1 by omega)) (by simp [Value.oneCell']) (by unfold maxLen; omega) (by omega) (by have := hb1.size; first | omega | (simp; omega)) (cap0 + 1) rfl ?_; intro g2 cap2 w2 hown2 hgrow2 hat2; have hb2 := HGR.out _ _ _ hgrow2 (by first | assumption | exact HAL.out _ _ (by assumption) | exact HAL.out _ _ (HAL.out _ _ (by assumption))) (owns_lt hown1).2.2.2) | (refine step_append_some rfl (.tmp 46) (.tmp 49) 22 rfl V.heap.size 3 i0 (.int .i64 0) 1 8 Try.underlying22 hi hz0 hz1 hz2 rfl (by decide) _ (cap0 + 1) _ rfl (by first | exact hown2 | exact hown2.alloc _) (fun h => absurd (show Value.slice (some _) _ _ = Value.slice none 0 0 from h) (by simp)) _ 0 _ (iv (l.drop cap0)) rfl (by rw [HDR.out]; rfl) (HNW2.out _ _ (by first | assumption | exact HAL.out _ _ (by assumption) | exact HAL.out _ _ (HAL.out _ _ (by assumption)))) HONE2.out (by unfold maxLen; omega) (by omega) (by have := hb2.size; first | omega | (simp; omega)) (l.length + 1) (by have := HKL.out; omega) ?_; intro g3 cap3 w3 hown3 hgrow3 hat3; have hb3 := HGR.out _ _ _ hgrow3 (by first | assumption | exact HAL.out _ _ (by assumption) | exact HAL.out _ _ (HAL.out _ _ (by assumption))) (owns_lt hown2).2.2.2))
              all_goals (
                have HB3 := Lib.hid (show Below V.heap.size V _ by first | assumption | exact And.right (by assumption))
                have HO3 := Lib.hid (upO_end HINS.out (by assumption))
                go_wp2
                go_roundw
                case rel => exact ⟨j + 1, _, _, by omega, by go_num, by first | (rw [HTOP.out, HIL.out]; done) | (rw [HTOP.out, HIL.out]; rfl), Lib.hid (by rw [HTOP.out, HIL.out]; exact owns_lowO HO3.out HVZ.out), HNX.out.trans (HB3.out.mono HNX.out.size)⟩
                case measure => simp [intOf]; omega)
            · go_wp2_with fail
              go_region_held3 (fun u => Below V.heap.size V u) (first | assumption | exact HAL.out _ _ (by assumption)) (first | (refine step_append_some rfl (.tmp 39) (.tmp 42) 22 rfl V.heap.size 3 i0 (.int .i64 0) 1 8 Try.underlying22 hi hz0 hz1 hz2 rfl (by decide) _ 0 (iv []) rfl (by first | exact HM.out _ _ (by first | assumption | exact HAL.out _ _ (by assumption) | exact HAL.out _ _ (HAL.out _ _ (by assumption))) (by simp) | exact (HM.out _ _ (by first | assumption | exact HAL.out _ _ (by assumption) | exact HAL.out _ _ (HAL.out _ _ (by assumption))) (by simp)).alloc _) (fun h => absurd (show Value.slice (some _) _ _ = Value.slice none 0 0 from h) (by simp)) _ k _ (iv (l.take k)) rfl HLK.out (HNW.out _ (by first | assumption | exact HAL.out _ _ (by assumption) | exact HAL.out _ _ (HAL.out _ _ (by assumption)))) HONE.out (by unfold maxLen; omega) (by omega) (by simp; try omega) k (by omega) ?_; intro g1 cap1 w1 hown1 hgrow1 hat1; have hb1 := HGR.out _ _ _ hgrow1 (by first | assumption | exact HAL.out _ _ (by assumption) | exact HAL.out _ _ (HAL.out _ _ (by assumption))) (by first | omega | exact Nat.le_refl _ | exact Nat.le_succ _ | simp)) | (refine step_append_some rfl (.tmp 43) (.tmp 45) 22 rfl V.heap.size 3 i0 (.int .i64 0) 1 8 Try.underlying22 hi hz0 hz1 hz2 rfl (by decide) _ k _ rfl (by first | exact hown1 | exact hown1.alloc _) (fun h => absurd (show Value.slice (some _) _ _ = Value.slice none 0 0 from h) (by simp)) _ 1 1 [.int .i64 x] rfl rfl (by first | exact one_cell _ _ _ | exact far_cell (B := V.heap.size + 1) hgrow1 HNB.out (show V.heap.size + 1 ≠ V.heap.size by omega) | exact far_cell (B := V.heap.size) hgrow1 HNC.out (show V.heap.size ≠ V.heap.size + 1 by omega)) (by simp [Value.oneCell']) (by unfold maxLen; omega) (by omega) (by have := hb1.size; first | omega | (simp; omega)) (k + 1) rfl ?_; intro g2 cap2 w2 hown2 hgrow2 hat2; have hb2 := HGR.out _ _ _ hgrow2 (by first | assumption | exact HAL.out _ _ (by assumption) | exact HAL.out _ _ (HAL.out _ _ (by assumption))) (owns_lt hown1).2.2.2) | (refine step_append_some rfl (.tmp 46) (.tmp 49) 22 rfl V.heap.size 3 i0 (.int .i64 0) 1 8 Try.underlying22 hi hz0 hz1 hz2 rfl (by decide) _ (k + 1) _ rfl (by first | exact hown2 | exact hown2.alloc _) (fun h => absurd (show Value.slice (some _) _ _ = Value.slice none 0 0 from h) (by simp)) _ (l.length - k) _ (iv (l.drop k)) rfl HLK2.out (HNW2.out _ _ (by first | assumption | exact HAL.out _ _ (by assumption) | exact HAL.out _ _ (HAL.out _ _ (by assumption)))) HONE2.out (by unfold maxLen; omega) (by omega) (by have := hb2.size; first | omega | (simp; omega)) (l.length + 1) (by omega) ?_; intro g3 cap3 w3 hown3 hgrow3 hat3; have hb3 := HGR.out _ _ _ hgrow3 (by first | assumption | exact HAL.out _ _ (by assumption) | exact HAL.out _ _ (HAL.out _ _ (by assumption))) (owns_lt hown2).2.2.2))
              all_goals (
                have HB3 := Lib.hid (show Below V.heap.size V _ by first | assumption | exact And.right (by assumption))
                have HO3 := Lib.hid (upO_end HINS.out (by assumption))
                go_wp2
                go_roundw
                case rel => exact ⟨j + 1, _, _, by omega, by go_num, by first | (rw [HTOP.out, HIL.out]; done) | (rw [HTOP.out, HIL.out]; rfl), Lib.hid (by rw [HTOP.out, HIL.out]; exact owns_lowO HO3.out HVZ.out), HNX.out.trans (HB3.out.mono HNX.out.size)⟩
                case measure => simp [intOf]; omega)
    · obtain rfl : j = N := by omega
      obtain ⟨V, rfl⟩ : ∃ V, V = wr := ⟨_, rfl⟩
      have hll := HTL.out j (Nat.le_refl _)
      obtain ⟨D, hD⟩ : ∃ D, D = insL M j := ⟨_, rfl⟩
      rw [← hD] at hll HO HEND HDW ⊢
      have HC : Hid (∀ i, i < j → ∀ u, DrewTo V u → u.cell? ⟨g0, i, none⟩ = some (.int .i64 (D.getD i 0))) := Lib.hid fun i h u hu => by
        have h1 := HO.out.cellAt i (by omega)
        rw [hu.cell, getD_at (by omega), h1]; exact iv_at (by omega)
      have HFIN := Lib.hid (HBB.out.trans (hnx.mono HBB.out.size))
      rw [hll] at HO ⊢
      clear hD hnx hll
      go_wp2
      clear y0 y1
      go_loopw [8, 12] (fun sv iv' wr => ∃ i : Nat, i ≤ j ∧ iv' = .int .i64 i ∧ sv = .int .i64 (dotW r.l D i) ∧ DrewTo V wr) (fun _ iv' _ => j - (intOf iv').toNat)
      case atStart => exact ⟨0, Nat.zero_le _, rfl, by rw [dotW_zero], DrewTo.refl _⟩
      case round =>
        obtain ⟨i, hi1, rfl, rfl, hdw⟩ := hrel
        by_cases hlk : i < j
        · have hlki : (i : Int) < (j : Int) := by omega
          obtain ⟨b, o, ha, hrc⟩ := HRC.out (by omega)
          have q1 := hrc wr (HFIN.out.trans (hdw.below.mono HFIN.out.size)) i hlk
          have q2 := HC.out i hlk wr hdw
          have hm := HDW.out.at i
          have hs := HDW.out.sum i
          have HS : Hid (dotW r.l D (i + 1) = dotW r.l D i + r.l.getD i 0 * D.getD i 0) := Lib.hid (dotW_step _ _ _)
          obtain ⟨x, hx⟩ : ∃ x, x = r.l.getD i 0 := ⟨_, rfl⟩
          obtain ⟨y, hy⟩ : ∃ y, y = D.getD i 0 := ⟨_, rfl⟩
          obtain ⟨sm, hsm⟩ : ∃ s, s = dotW r.l D i := ⟨_, rfl⟩
          rw [← hx] at q1 hm HS
          rw [← hy] at q2 hm HS
          rw [← hsm] at hs HS ⊢
          obtain ⟨z, hz⟩ : ∃ z, z = x * y := ⟨_, rfl⟩
          rw [← hz] at hm HS
          have e1 : IntKind.i64.wrap (x * y) = z := by rw [← hz]; exact IntWalk.i64_in _ (by omega)
          have e2 : IntKind.i64.wrap (sm + z) = sm + z := IntWalk.i64_in _ (by omega)
          rw [ha]
          clear hrc hx hy hsm hz ha
          go_wp2
          go_quiet (fail)
          go_wp2
          go_roundw
          case rel => exact ⟨i + 1, by omega, by go_num, by rw [HS.out], hdw.more _⟩
          case measure => simp [intOf]; omega
        · obtain rfl : i = j := by omega
          go_wp2
          go_ret
          exact ⟨by rw [HEND.out]; rfl, HFIN.out.trans (hdw.below.mono HFIN.out.size)⟩
end Go.Proofs.Ytmcobaclagmaoaa
