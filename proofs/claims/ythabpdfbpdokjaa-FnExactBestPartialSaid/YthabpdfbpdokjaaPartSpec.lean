/- The reach of a set without the greatest lengths: the model's side. Condition: a valid Field and a set of its sites. -/
import Derived.Test.YthabpdfbpdokjaaPartial
import Derived.Test.YthabpdfbpdokjaaOwnAll
import Derived.Test.YthabpdfbpdokjaaPut
namespace Go.Proofs.Ythabpdfbpdokjaa
open Go.RowKit Go.Shelf

/-- A number put to its place in a descending list. -/
def insD : List Int → Int → List Int
  | [], x => [x]
  | y :: t, x => if x ≤ y then y :: insD t x else x :: y :: t
def descA (l : List Int) : List Int := l.foldl insD []
theorem insD_perm (x : Int) : ∀ l : List Int, (insD l x).Perm (x :: l)
  | [] => List.Perm.refl _
  | y :: t => by
    unfold insD
    split
    · exact ((insD_perm x t).cons y).trans (List.Perm.swap x y t)
    · exact List.Perm.refl _
theorem insD_desc (x : Int) : ∀ l : List Int, l.Pairwise (· ≥ ·) → (insD l x).Pairwise (· ≥ ·)
  | [], _ => by simp [insD]
  | y :: t, h => by
    obtain ⟨h1, h2⟩ := List.pairwise_cons.1 h
    unfold insD
    split
    · rename_i hxy
      refine List.pairwise_cons.2 ⟨fun z hz => ?_, insD_desc x t h2⟩
      rcases List.mem_cons.1 ((insD_perm x t).mem_iff.1 hz) with rfl | hz
      · exact hxy
      · exact h1 z hz
    · rename_i hxy
      refine List.pairwise_cons.2 ⟨fun z hz => ?_, h⟩
      rcases List.mem_cons.1 hz with rfl | hz
      · omega
      · have := h1 z hz; omega
theorem desc_both (l : List Int) : ∀ b : List Int, b.Pairwise (· ≥ ·) → (l.foldl insD b).Pairwise (· ≥ ·) ∧ (l.foldl insD b).Perm (l ++ b) := by
  induction l with
  | nil => intro b hb; exact ⟨hb, List.Perm.refl _⟩
  | cons a t ih =>
    intro b hb
    obtain ⟨h1, h2⟩ := ih (insD b a) (insD_desc a b hb)
    refine ⟨h1, h2.trans ?_⟩
    exact ((insD_perm a b).append_left t).trans (by rw [List.cons_append]; exact List.perm_middle)
theorem desc_len (l : List Int) : (descA l).length = l.length := by
  have := (desc_both l [] List.Pairwise.nil).2.length_eq
  unfold descA; simpa using this
theorem desc_sort (l : List Int) : (descA l).reverse = sortA l := by
  obtain ⟨h1, h2⟩ := desc_both l [] List.Pairwise.nil
  refine List.Perm.eq_of_pairwise (le := fun x y : Int => x ≤ y) (fun x y _ _ h1 h2 => by omega) ?_ (sortA_rises l) ?_
  · rw [List.pairwise_reverse]; exact h1.imp fun h => h
  · rw [List.append_nil] at h2
    exact (List.reverse_perm _).trans (h2.trans (sortA_perm l).symm)
theorem desc_at (l : List Int) {z : Nat} (hz : z < l.length) : (descA l).getD z 0 = partV l z := by
  unfold partV
  rw [if_neg (by omega), ← desc_sort]
  have h1 : z < (descA l).length := by rw [desc_len]; exact hz
  have h2 : l.length - 1 - z < (descA l).reverse.length := by rw [List.length_reverse, desc_len]; omega
  rw [getD_at h1, getD_at h2, List.getElem_reverse]
  congr 1
  rw [desc_len]; omega
theorem desc_step {l : List Int} {k : Nat} (h : k < l.length) : descA (l.take (k + 1)) = insD (descA (l.take k)) l[k] := by
  unfold descA; rw [List.take_succ_eq_append_getElem h, List.foldl_append]; rfl
theorem insD_split {x : Int} : ∀ (l : List Int) (k : Nat), k ≤ l.length → (∀ j, (hj : j < l.length) → j < k → x ≤ l[j]) → (k = l.length ∨ ∃ hk : k < l.length, ¬ x ≤ l[k]) → insD l x = l.take k ++ x :: l.drop k
  | [], k, hk, _, _ => by simp at hk; subst hk; simp [insD]
  | a :: t, 0, _, _, h => by
    have h' : ¬ x ≤ a := by
      rcases h with h | ⟨_, h⟩
      · simp at h
      · simpa using h
    simp [insD, h']
  | a :: t, k + 1, hk, hle, h => by
    have ha : x ≤ a := hle 0 (by simp) (by omega)
    have ih := insD_split (x := x) t k (by simpa using hk) (fun j hj hjk => hle (j + 1) (by simpa using hj) (by omega)) (by
      rcases h with h | ⟨h1, h2⟩
      · left; simpa using h
      · right; exact ⟨by simpa using h1, h2⟩)
    have e : insD (a :: t) x = a :: insD t x := by simp [insD, ha]
    rw [e, ih]; rfl

/-- The list so far: a row of the call's own. -/
structure Desc (B : Nat) (w : World) (v : Value) (L : List Int) (g cap : Nat) : Prop where
  val : v = .slice (some ⟨g, 0, none⟩) L.length cap
  own : w.ownsRow B 3 1 (.slice (some ⟨g, 0, none⟩) L.length cap) L.length (iv L)
theorem Desc.on {B : Nat} {w w' : World} {v : Value} {L : List Int} {g cap : Nat} (h : Desc B w v L g cap) (t : Below w.heap.size w w') : Desc B w' v L g cap := ⟨h.val, owns_below h.own t⟩
theorem desc_put {B B' : Nat} {w3 : World} {L : List Int} {k g cap : Nat} {x : Int} (hB : B ≤ B') (hP : insD L x = L.take k ++ x :: L.drop k) (h : w3.ownsRow B' 3 1 (.slice (some ⟨g, 0, none⟩) (L.length + 1) cap) (L.length + 1) ((iv (L.take k) ++ [.int .i64 x]) ++ iv (L.drop k))) :
    Desc B w3 (.slice (some ⟨g, 0, none⟩) (L.length + 1) cap) (insD L x) g cap := by
  have e : (iv (L.take k) ++ [.int .i64 x]) ++ iv (L.drop k) = iv (insD L x) := by rw [hP]; simp [iv]
  have hl : L.length + 1 = (insD L x).length := by have := h.1; rw [e, iv_length] at this; omega
  rw [e] at h
  exact ⟨by rw [hl], by rw [← hl]; exact owns_from h hB⟩

set_option maxRecDepth 32000 in
set_option maxHeartbeats 4000000 in
theorem l5Partial_any (F : Fld) (s : Row) (T : List Nat) (z : Nat) (w : World) (hF : F.At w) (hs : s.At w) (hf : Fine F s T) (hz : z ≤ 7) :
    Calls Try.prog 62 #[F.val, .slice s.a s.l.length s.c, .int .i64 z] w fun e w' => e = .returned (.int .i64 (partT F z T)) ∧ Below w.heap.size w w' := by
  obtain ⟨i0, hi, hz0, hz1, hz2⟩ := info_parts infoInt
  obtain ⟨wA, hA, hbA, bx, hFA, hszA⟩ := laid_fld F w 29 hF
  have HSA := Lib.hid (hs.on hbA)
  have HFA := Lib.hid hFA
  have HBX := Lib.hid bx
  have HA := Lib.hid hA
  have hsz := good_sizes hf.good
  have HFI := Lib.hid hf
  obtain ⟨n, hn⟩ : ∃ n, n = F.t.R.length := ⟨_, rfl⟩
  have HN := Lib.hid hn
  have hni : (n : Int) ≤ 7 := by omega
  have hn7 : n ≤ 7 := by omega
  have hzi : (z : Int) ≤ 7 := by omega
  obtain ⟨M, hM⟩ : ∃ M, M = lens F.t.con T := ⟨_, rfl⟩
  have HML : Hid (M.length = n) := Lib.hid (by rw [hM, hn]; exact lens_length F T)
  have HP : Hid (partT F z T = partV M z) := Lib.hid (by rw [hM]; rfl)
  have HM := Lib.hid hM
  have H0 : Hid (Desc wA.heap.size (wA.alloc (.cells #[] 3)) (.slice (some ⟨w.heap.size + 1, 0, none⟩) 0 0) [] (w.heap.size + 1) 0) := Lib.hid ⟨rfl, by have := empty_own wA; rw [hszA] at this ⊢; exact this⟩
  have HB0 := Lib.hid (below_alloc wA (.cells #[] 3))
  clear hF hs hA hFA bx hf hsz hn hM hszA
  show Calls _ _ #[.agg #[F.o.val, F.t.val], _, _] w _
  go_enter Try.func62, Try.ntmps62
  go_wp2
  rw [show w.alloc (Obj.cells #[F.o.val, F.t.val] 29) = wA from HA.out.symm]
  go_loopw [7, 8, 9, 10] (fun lv jv _ _ wr => ∃ j g cap : Nat, j ≤ n ∧ jv = .int .i64 j ∧ lv = .slice (some ⟨g, 0, none⟩) (descA (M.take j)).length cap ∧ Hid (Desc wA.heap.size wr lv (descA (M.take j)) g cap) ∧ Below wA.heap.size wA wr) (fun _ jv _ _ _ => n - (intOf jv).toNat)
  case atStart => exact ⟨0, _, _, Nat.zero_le _, rfl, rfl, H0, HB0.out⟩
  case round =>
    obtain ⟨j, g, cap, hj, rfl, rfl, HD, hnx⟩ := hrel
    have HNX := Lib.hid hnx
    have hszr := hnx.size
    have y0 := (HBX.out.on hnx).c0
    have y1 : wr.cell? ⟨w.heap.size, 1, none⟩ = some (.slice F.t.a n F.t.c) := by rw [HN.out]; exact (HBX.out.on hnx).c1
    obtain ⟨L, hL⟩ : ∃ L, L = descA (M.take j) := ⟨_, rfl⟩
    have hLn : L.length ≤ j ∧ j ≤ L.length := by rw [hL, desc_len, List.length_take]; have := HML.out; omega
    rw [← hL] at HD ⊢
    have HLL := Lib.hid hL
    clear hL
    by_cases hlt : j < n
    · have hlti : (j : Int) < (n : Int) := by omega
      have hjR : j < F.t.R.length := by rw [← HN.out]; exact hlt
      have hjM : j < M.length := by rw [HML.out]; exact hlt
      obtain ⟨x, hx⟩ : ∃ x, x = F.t.R[j].l.getD (near F.t.R[j].l T) 0 := ⟨_, rfl⟩
      have cn := l2Nearest_any F s T j wr (HFA.out.on hnx) (HSA.out.on hnx) HFI.out.good HFI.out.set HFI.out.some HFI.out.lt hjR
      rw [← hx, show F.val = .agg #[F.o.val, .slice F.t.a n F.t.c] by rw [HN.out]; rfl] at cn
      have CN := Lib.hid cn
      have HST : Hid (descA (M.take (j + 1)) = insD L x) := Lib.hid (by
        rw [desc_step hjM, ← HLL.out]
        congr 1
        have h1 : j < (lens F.t.con T).length := by rw [lens_length]; exact hjR
        have h2 : M[j] = (lens F.t.con T)[j] := by simp only [HM.out]
        rw [h2, lens_at F T hjR, hx])
      clear hx cn hnx
      go_wp2_with fail
      refine (show Calls _ _ _ _ _ from CN.out).mono ?_
      rintro e W2 ⟨rfl, hb2⟩
      have HB2 := Lib.hid (HNX.out.trans (hb2.mono hszr))
      have HD2 := Lib.hid (HD.out.on hb2)
      have hL7 : L.length ≤ 7 := by omega
      have hLi : (L.length : Int) ≤ 7 := by omega
      clear hb2 y0 y1
      obtain ⟨hg0, hc0, hc1, hgB⟩ := owns_lt HD2.out.own
      go_wp2
      go_loopw [10] (fun iv wr => ∃ k : Nat, k ≤ L.length ∧ iv = .int .i64 k ∧ (∀ i, (hi : i < L.length) → i < k → x ≤ L[i]) ∧ wr = W2) (fun iv _ => L.length - (intOf iv).toNat)
      case atStart => exact ⟨0, Nat.zero_le _, rfl, fun i _ h => absurd h (Nat.not_lt_zero _), rfl⟩
      case round =>
        obtain ⟨k, hk, rfl, hall, rfl⟩ := hrel
        have HALL := Lib.hid hall
        clear hall
        have hki : (k : Int) ≤ (L.length : Int) := by omega
        have hkc : (k : Int) ≤ (cap : Int) := by omega
        have hci : (L.length : Int) ≤ (cap : Int) := by omega
        have HC : Hid (∀ u, Below wr.heap.size wr u → ∀ i, (hi : i < L.length) → u.cell? ⟨g, i, none⟩ = some (.int .i64 L[i])) := Lib.hid fun u hu i hi =>
          (hu.cell (p := ⟨g, i, none⟩) hg0).trans ((HD2.out.own.cellAt i (by omega)).trans (iv_at hi))
        have HAT : Hid (∀ u, Below wr.heap.size wr u → Row.At u ⟨some ⟨g, 0, none⟩, cap, L⟩) := Lib.hid fun u hu => by
          refine ⟨by rw [iv_length]; omega, hc1, .inr ⟨g, 0, rfl, Nat.lt_of_lt_of_le hg0 hu.size, fun i v hv => ?_⟩⟩
          obtain ⟨hi1, hi2⟩ := List.getElem?_eq_some_iff.1 hv
          rw [iv_length] at hi1
          rw [Nat.zero_add, HC.out u hu i hi1, ← hv, iv_at hi1]
        have hkL : (L.take k).length = k := by rw [List.length_take]; omega
        have D1 := Lib.hid (fun u (hu : Below wr.heap.size wr u) => by
          have := l1OwnAll_any ⟨some ⟨g, 0, none⟩, cap, L.take k⟩ u (at_take (HAT.out u hu) k) (by simp only; omega)
          simp only at this
          rw [hkL] at this
          refine this.mono ?_
          rintro e w' ⟨g1, cap1, rfl, ho, hb⟩
          exact ⟨g1, cap1, rfl, owns_from ho hu.size, hb⟩ : ∀ u, Below wr.heap.size wr u → Calls Try.prog 58 #[.slice (some ⟨g, 0, none⟩) k cap] u fun e w' => ∃ g1 cap1, e = .returned (.slice (some ⟨g1, 0, none⟩) k cap1) ∧ w'.ownsRow wr.heap.size 3 1 (.slice (some ⟨g1, 0, none⟩) k cap1) k (iv (L.take k)) ∧ Below u.heap.size u w')
        have HAL : Hid (∀ u o, Below wr.heap.size wr u → Below wr.heap.size wr (u.alloc o)) := Lib.hid fun u o hu => hu.alloc hu.size o
        have HGR : Hid (∀ (u u' : World) (v : Value) (n : Nat) (xs : List Value), u.grownBy u' v.ownBlock → u.ownsRow wr.heap.size 3 1 v n xs → Below wr.heap.size wr u → Below wr.heap.size wr u') := Lib.hid fun u u' v n xs hg ho hu => hu.grown hg hu.size (fun j hj => (ho.lt j hj).1)
        have HLK2 : Hid ((iv (L.drop k)).length = (L.length - k) * 1) := Lib.hid (by rw [iv_length, List.length_drop]; omega)
        have HONE2 : Hid (∀ u ∈ iv (L.drop k), u.oneCell' = true) := Lib.hid fun u hu => by unfold iv at hu; obtain ⟨y, _, rfl⟩ := List.mem_map.1 hu; rfl
        have b1 : Below wr.heap.size wr wr.drew := (Below.refl _ _).drew
        have HEND : Hid (∀ (w3 : World) (g3 cap3 : Nat), insD L x = L.take k ++ x :: L.drop k → w3.ownsRow wr.heap.size 3 1 (.slice (some ⟨g3, 0, none⟩) (L.length + 1) cap3) (L.length + 1) ((iv (L.take k) ++ [.int .i64 x]) ++ iv (L.drop k)) → Below wr.heap.size wr w3 → ∃ j2 g2 cap2 : Nat, j2 = j + 1 ∧ Value.slice (some ⟨g3, 0, none⟩) (L.length + 1) cap3 = .slice (some ⟨g2, 0, none⟩) (descA (M.take j2)).length cap2 ∧ Hid (Desc wA.heap.size w3 (.slice (some ⟨g3, 0, none⟩) (L.length + 1) cap3) (descA (M.take j2)) g2 cap2) ∧ Below wA.heap.size wA w3) := Lib.hid fun w3 g3 cap3 hp ho hb => by
          have hd := desc_put (B := wA.heap.size) (show wA.heap.size ≤ wr.heap.size from HB2.out.size) hp ho
          rw [← HST.out] at hd
          exact ⟨j + 1, g3, cap3, rfl, hd.val, Lib.hid hd, HB2.out.trans (hb.mono HB2.out.size)⟩
        by_cases hlt2 : k < L.length
        · have hlti2 : (k : Int) < (L.length : Int) := by omega
          obtain ⟨y, hy⟩ : ∃ y, y = L[k] := ⟨_, rfl⟩
          have hcl : wr.cell? ⟨g, k, none⟩ = some (.int .i64 y) := by rw [hy]; exact HC.out wr (Below.refl _ _) k hlt2
          by_cases hxy : x ≤ y
          · have HS : Hid (∀ i, (hi : i < L.length) → i < k + 1 → x ≤ L[i]) := Lib.hid fun i hi hik => by
              by_cases e : i = k
              · subst e; rw [← hy]; exact hxy
              · exact HALL.out i hi (by omega)
            clear hy
            go_wp2
            go_roundw
            case rel => exact ⟨k + 1, by omega, by go_num, HS.out, by first | rfl | trivial⟩
            case measure => simp [intOf]; omega
          · have HPS := Lib.hid (insD_split (x := x) L k hk HALL.out (.inr ⟨hlt2, by rw [← hy]; exact hxy⟩))
            have HNW2 : Hid (∀ u, Below wr.heap.size wr u → ∀ j z, (iv (L.drop k))[j]? = some z → u.cell? ((⟨g, k, none⟩ : Addr).add j) = some z) := Lib.hid fun u hu j z hz => by
              have hj := (List.getElem?_eq_some_iff.1 hz).1
              rw [HLK2.out] at hj
              have hjl : k + j < L.length := by omega
              rw [iv_at (by rw [List.length_drop]; omega)] at hz
              rw [show (⟨g, k, none⟩ : Addr).add j = ⟨g, k + j, none⟩ by unfold Addr.add; split <;> simp_all, HC.out u hu (k + j) hjl, ← hz, List.getElem_drop]
            have hc0n : ¬ cap = 0 := by omega
            have hckn : ¬ cap = k := by omega
            clear hy hkL
            go_wp2_with fail
            go_region_held3 (fun u => Below wr.heap.size wr u) (first | assumption | exact HAL.out _ _ (by assumption) | exact HAL.out _ _ (Below.refl _ _) | exact (HAL.out _ _ (Below.refl _ _)).drew | exact (HAL.out _ _ (by assumption)).drew | exact hbt) (first | (go_at_call 58; refine (show Calls _ _ _ _ _ from D1.out _ (by first | assumption | exact HAL.out _ _ (by assumption) | exact (HAL.out _ _ (Below.refl _ _)).drew | exact (HAL.out _ _ (by assumption)).drew)).mono ?_; rintro e u1 ⟨g1, cap1, rfl, hown1, hb1⟩; have hbx : Below wr.heap.size wr u1 := (show Below wr.heap.size wr _ by first | assumption | exact HAL.out _ _ (by assumption) | exact (HAL.out _ _ (Below.refl _ _)).drew | exact (HAL.out _ _ (by assumption)).drew).trans (hb1.mono (show wr.heap.size ≤ _ by simp)); have hbt := hbx) | (refine step_append_lies _ rfl (.tmp 40) (.tmp 42) 22 rfl wr.heap.size 3 i0 (.int .i64 0) 1 8 Try.underlying22 hi hz0 hz1 hz2 rfl (by decide) _ k (iv (L.take k)) rfl (hown1.alloc _) ⟨u1.heap.size, 0, none⟩ 1 1 [.int .i64 x] rfl rfl (one_cell _ _ _) (by simp [Value.oneCell']) (by omega) (by unfold maxLen; omega) (by omega) (by have := hbx.size; simp; omega) _ rfl ?_; intro g2 cap2 w1 hown2 hgrow2 hat2 hlt2; have hb9 := HGR.out _ _ _ _ _ hgrow2 (hown1.alloc _) (by first | exact hbx | exact HAL.out _ _ hbx); clear hgrow2 hat2) | (refine step_append_lies _ rfl (.tmp 40) (.tmp 42) 22 rfl wr.heap.size 3 i0 (.int .i64 0) 1 8 Try.underlying22 hi hz0 hz1 hz2 rfl (by decide) _ k (iv (L.take k)) rfl hown1 ⟨wr.heap.size, 0, none⟩ 1 1 [.int .i64 x] rfl rfl (by first | exact one_kept hb1 | exact one_drew hb1) (by simp [Value.oneCell']) (by omega) (by unfold maxLen; omega) (by omega) hbx.size _ rfl ?_; intro g2 cap2 w1 hown2 hgrow2 hat2 hlt2; have hb9 := HGR.out _ _ _ _ _ hgrow2 hown1 (by first | exact hbx | exact HAL.out _ _ hbx); clear hgrow2 hat2) | (refine step_append_some rfl (.tmp 43) (.tmp 46) 22 rfl wr.heap.size 3 i0 (.int .i64 0) 1 8 Try.underlying22 hi hz0 hz1 hz2 rfl (by decide) _ (k + 1) _ rfl hown2 (fun h => absurd (show Value.slice (some _) _ _ = Value.slice none 0 0 from h) (by simp)) ⟨g, k, none⟩ (L.length - k) (cap - k) (iv (L.drop k)) rfl HLK2.out (HNW2.out _ hb9) HONE2.out (by unfold maxLen; omega) (by omega) hb9.size (L.length + 1) (by omega) ?_; intro g3 cap3 w3 hown3 hgrow3 hat3; have hb3 := HGR.out _ _ _ _ _ hgrow3 hown2 hb9; clear hgrow3 hat3))
            all_goals
              obtain ⟨j2, g5, cap5, hj2, hv5, hd5, hb5⟩ := HEND.out _ _ _ HPS.out (by assumption) (by assumption)
              subst hj2
              have HV5 := Lib.hid hv5
              clear hv5
              go_wp2
              go_roundw
              case rel => exact ⟨j + 1, g5, cap5, by omega, by go_num, HV5.out, hd5, hb5⟩
              case measure => simp [intOf]; omega
        · have HPS := Lib.hid (insD_split (x := x) L k hk HALL.out (.inl (by omega)))
          have hge : decide ((k : Int) < (L.length : Int)) = false := decide_eq_false (by omega)
          have hkle : k = L.length := by omega
          have HKL := Lib.hid hkle
          have HDR : Hid (iv (L.drop k) = []) := Lib.hid (by rw [List.drop_of_length_le (by omega)]; rfl)
          have HNW2 : Hid (∀ (ad : Addr) (u : World), Below wr.heap.size wr u → ∀ j z, (iv (L.drop k))[j]? = some z → u.cell? (ad.add j) = some z) := Lib.hid fun ad u _ j z hz => by rw [HDR.out] at hz; simp at hz
          clear hkle hkL
          by_cases hc0n : cap = 0
          · obtain rfl : L = [] := List.eq_nil_of_length_eq_zero (by omega)
            obtain rfl : k = 0 := by have := HKL.out; simp at this; exact this
            subst hc0n
            go_wp2_with fail
            go_region_held3 (fun u => Below wr.heap.size wr u) (first | assumption | exact HAL.out _ _ (by assumption) | exact HAL.out _ _ (Below.refl _ _) | exact (HAL.out _ _ (Below.refl _ _)).drew | exact (HAL.out _ _ (by assumption)).drew | exact hbt) (first | (go_at_call 58; refine (show Calls _ _ _ _ _ from D1.out _ (by first | assumption | exact HAL.out _ _ (by assumption) | exact (HAL.out _ _ (Below.refl _ _)).drew | exact (HAL.out _ _ (by assumption)).drew)).mono ?_; rintro e u1 ⟨g1, cap1, rfl, hown1, hb1⟩; have hbx : Below wr.heap.size wr u1 := (show Below wr.heap.size wr _ by first | assumption | exact HAL.out _ _ (by assumption) | exact (HAL.out _ _ (Below.refl _ _)).drew | exact (HAL.out _ _ (by assumption)).drew).trans (hb1.mono (show wr.heap.size ≤ _ by simp)); have hbt := hbx) | (refine step_append_lies _ rfl (.tmp 40) (.tmp 42) 22 rfl wr.heap.size 3 i0 (.int .i64 0) 1 8 Try.underlying22 hi hz0 hz1 hz2 rfl (by decide) _ 0 (iv (([] : List Int).take 0)) rfl (hown1.alloc _) ⟨u1.heap.size, 0, none⟩ 1 1 [.int .i64 x] rfl rfl (one_cell _ _ _) (by simp [Value.oneCell']) (by omega) (by unfold maxLen; omega) (by omega) (by have := hbx.size; simp; omega) _ rfl ?_; intro g2 cap2 w1 hown2 hgrow2 hat2 hlt2; have hb9 := HGR.out _ _ _ _ _ hgrow2 (hown1.alloc _) (by first | exact hbx | exact HAL.out _ _ hbx); clear hgrow2 hat2) | (refine step_append_lies _ rfl (.tmp 40) (.tmp 42) 22 rfl wr.heap.size 3 i0 (.int .i64 0) 1 8 Try.underlying22 hi hz0 hz1 hz2 rfl (by decide) _ 0 (iv (([] : List Int).take 0)) rfl hown1 ⟨wr.heap.size, 0, none⟩ 1 1 [.int .i64 x] rfl rfl (by first | exact one_kept hb1 | exact one_drew hb1) (by simp [Value.oneCell']) (by omega) (by unfold maxLen; omega) (by omega) hbx.size _ rfl ?_; intro g2 cap2 w1 hown2 hgrow2 hat2 hlt2; have hb9 := HGR.out _ _ _ _ _ hgrow2 hown1 (by first | exact hbx | exact HAL.out _ _ hbx); clear hgrow2 hat2) | (refine step_append_some rfl (.tmp 43) (.tmp 46) 22 rfl wr.heap.size 3 i0 (.int .i64 0) 1 8 Try.underlying22 hi hz0 hz1 hz2 rfl (by decide) _ (0 + 1) _ rfl hown2 (fun h => absurd (show Value.slice (some _) _ _ = Value.slice none 0 0 from h) (by simp)) _ (0) _ (iv (([] : List Int).drop 0)) rfl HLK2.out (HNW2.out _ _ hb9) HONE2.out (by unfold maxLen; omega) (by omega) hb9.size (([] : List Int).length + 1) (by omega) ?_; intro g3 cap3 w3 hown3 hgrow3 hat3; have hb3 := HGR.out _ _ _ _ _ hgrow3 hown2 hb9; clear hgrow3 hat3))
            all_goals
              obtain ⟨j2, g5, cap5, hj2, hv5, hd5, hb5⟩ := HEND.out _ _ _ HPS.out (by assumption) (by assumption)
              subst hj2
              have HV5 := Lib.hid hv5
              clear hv5
              go_wp2
              go_roundw
              case rel => exact ⟨j + 1, g5, cap5, by omega, by go_num, HV5.out, hd5, hb5⟩
              case measure => simp [intOf]; omega
          · by_cases hckn : cap = k
            · subst hckn
              go_wp2_with fail
              go_region_held3 (fun u => Below wr.heap.size wr u) (first | assumption | exact HAL.out _ _ (by assumption) | exact HAL.out _ _ (Below.refl _ _) | exact (HAL.out _ _ (Below.refl _ _)).drew | exact (HAL.out _ _ (by assumption)).drew | exact hbt) (first | (go_at_call 58; refine (show Calls _ _ _ _ _ from D1.out _ (by first | assumption | exact HAL.out _ _ (by assumption) | exact (HAL.out _ _ (Below.refl _ _)).drew | exact (HAL.out _ _ (by assumption)).drew)).mono ?_; rintro e u1 ⟨g1, cap1, rfl, hown1, hb1⟩; have hbx : Below wr.heap.size wr u1 := (show Below wr.heap.size wr _ by first | assumption | exact HAL.out _ _ (by assumption) | exact (HAL.out _ _ (Below.refl _ _)).drew | exact (HAL.out _ _ (by assumption)).drew).trans (hb1.mono (show wr.heap.size ≤ _ by simp)); have hbt := hbx) | (refine step_append_lies _ rfl (.tmp 40) (.tmp 42) 22 rfl wr.heap.size 3 i0 (.int .i64 0) 1 8 Try.underlying22 hi hz0 hz1 hz2 rfl (by decide) _ cap (iv (L.take cap)) rfl (hown1.alloc _) ⟨u1.heap.size, 0, none⟩ 1 1 [.int .i64 x] rfl rfl (one_cell _ _ _) (by simp [Value.oneCell']) (by omega) (by unfold maxLen; omega) (by omega) (by have := hbx.size; simp; omega) _ rfl ?_; intro g2 cap2 w1 hown2 hgrow2 hat2 hlt2; have hb9 := HGR.out _ _ _ _ _ hgrow2 (hown1.alloc _) (by first | exact hbx | exact HAL.out _ _ hbx); clear hgrow2 hat2) | (refine step_append_lies _ rfl (.tmp 40) (.tmp 42) 22 rfl wr.heap.size 3 i0 (.int .i64 0) 1 8 Try.underlying22 hi hz0 hz1 hz2 rfl (by decide) _ cap (iv (L.take cap)) rfl hown1 ⟨wr.heap.size, 0, none⟩ 1 1 [.int .i64 x] rfl rfl (by first | exact one_kept hb1 | exact one_drew hb1) (by simp [Value.oneCell']) (by omega) (by unfold maxLen; omega) (by omega) hbx.size _ rfl ?_; intro g2 cap2 w1 hown2 hgrow2 hat2 hlt2; have hb9 := HGR.out _ _ _ _ _ hgrow2 hown1 (by first | exact hbx | exact HAL.out _ _ hbx); clear hgrow2 hat2) | (refine step_append_some rfl (.tmp 43) (.tmp 46) 22 rfl wr.heap.size 3 i0 (.int .i64 0) 1 8 Try.underlying22 hi hz0 hz1 hz2 rfl (by decide) _ (cap + 1) _ rfl hown2 (fun h => absurd (show Value.slice (some _) _ _ = Value.slice none 0 0 from h) (by simp)) _ (0) _ (iv (L.drop cap)) rfl (by rw [HDR.out]; rfl) (HNW2.out _ _ hb9) HONE2.out (by unfold maxLen; omega) (by omega) hb9.size (L.length + 1) (by have := HKL.out; omega) ?_; intro g3 cap3 w3 hown3 hgrow3 hat3; have hb3 := HGR.out _ _ _ _ _ hgrow3 hown2 hb9; clear hgrow3 hat3))
              all_goals
                obtain ⟨j2, g5, cap5, hj2, hv5, hd5, hb5⟩ := HEND.out _ _ _ HPS.out (by assumption) (by assumption)
                subst hj2
                have HV5 := Lib.hid hv5
                clear hv5
                go_wp2
                go_roundw
                case rel => exact ⟨j + 1, g5, cap5, by omega, by go_num, HV5.out, hd5, hb5⟩
                case measure => simp [intOf]; omega
            · go_wp2_with fail
              go_region_held3 (fun u => Below wr.heap.size wr u) (first | assumption | exact HAL.out _ _ (by assumption) | exact HAL.out _ _ (Below.refl _ _) | exact (HAL.out _ _ (Below.refl _ _)).drew | exact (HAL.out _ _ (by assumption)).drew | exact hbt) (first | (go_at_call 58; refine (show Calls _ _ _ _ _ from D1.out _ (by first | assumption | exact HAL.out _ _ (by assumption) | exact (HAL.out _ _ (Below.refl _ _)).drew | exact (HAL.out _ _ (by assumption)).drew)).mono ?_; rintro e u1 ⟨g1, cap1, rfl, hown1, hb1⟩; have hbx : Below wr.heap.size wr u1 := (show Below wr.heap.size wr _ by first | assumption | exact HAL.out _ _ (by assumption) | exact (HAL.out _ _ (Below.refl _ _)).drew | exact (HAL.out _ _ (by assumption)).drew).trans (hb1.mono (show wr.heap.size ≤ _ by simp)); have hbt := hbx) | (refine step_append_lies _ rfl (.tmp 40) (.tmp 42) 22 rfl wr.heap.size 3 i0 (.int .i64 0) 1 8 Try.underlying22 hi hz0 hz1 hz2 rfl (by decide) _ k (iv (L.take k)) rfl (hown1.alloc _) ⟨u1.heap.size, 0, none⟩ 1 1 [.int .i64 x] rfl rfl (one_cell _ _ _) (by simp [Value.oneCell']) (by omega) (by unfold maxLen; omega) (by omega) (by have := hbx.size; simp; omega) _ rfl ?_; intro g2 cap2 w1 hown2 hgrow2 hat2 hlt2; have hb9 := HGR.out _ _ _ _ _ hgrow2 (hown1.alloc _) (by first | exact hbx | exact HAL.out _ _ hbx); clear hgrow2 hat2) | (refine step_append_lies _ rfl (.tmp 40) (.tmp 42) 22 rfl wr.heap.size 3 i0 (.int .i64 0) 1 8 Try.underlying22 hi hz0 hz1 hz2 rfl (by decide) _ k (iv (L.take k)) rfl hown1 ⟨wr.heap.size, 0, none⟩ 1 1 [.int .i64 x] rfl rfl (by first | exact one_kept hb1 | exact one_drew hb1) (by simp [Value.oneCell']) (by omega) (by unfold maxLen; omega) (by omega) hbx.size _ rfl ?_; intro g2 cap2 w1 hown2 hgrow2 hat2 hlt2; have hb9 := HGR.out _ _ _ _ _ hgrow2 hown1 (by first | exact hbx | exact HAL.out _ _ hbx); clear hgrow2 hat2) | (refine step_append_some rfl (.tmp 43) (.tmp 46) 22 rfl wr.heap.size 3 i0 (.int .i64 0) 1 8 Try.underlying22 hi hz0 hz1 hz2 rfl (by decide) _ (k + 1) _ rfl hown2 (fun h => absurd (show Value.slice (some _) _ _ = Value.slice none 0 0 from h) (by simp)) _ (L.length - k) _ (iv (L.drop k)) rfl HLK2.out (HNW2.out _ _ hb9) HONE2.out (by unfold maxLen; omega) (by omega) hb9.size (L.length + 1) (by omega) ?_; intro g3 cap3 w3 hown3 hgrow3 hat3; have hb3 := HGR.out _ _ _ _ _ hgrow3 hown2 hb9; clear hgrow3 hat3))
              all_goals
                obtain ⟨j2, g5, cap5, hj2, hv5, hd5, hb5⟩ := HEND.out _ _ _ HPS.out (by assumption) (by assumption)
                subst hj2
                have HV5 := Lib.hid hv5
                clear hv5
                go_wp2
                go_roundw
                case rel => exact ⟨j + 1, g5, cap5, by omega, by go_num, HV5.out, hd5, hb5⟩
                case measure => simp [intOf]; omega
    · obtain rfl : j = n := by omega
      have hLj : L = descA M := by have := HLL.out; rw [List.take_of_length_le (by rw [HML.out]; exact Nat.le_refl _)] at this; exact this
      have HLJ := Lib.hid hLj
      have hlen : L.length = j := by rw [hLj, desc_len, HML.out]
      have hLl : L.length ≤ j ∧ j ≤ L.length := by omega
      obtain ⟨hg0, hc0, hc1, hgB⟩ := owns_lt HD.out.own
      have HB := Lib.hid (hbA.trans (hnx.mono hbA.size))
      clear hLj hlen hnx
      by_cases hge : L.length ≤ z
      · have hgi : (L.length : Int) ≤ (z : Int) := by omega
        have HE : Hid (partT F z T = 0) := Lib.hid (by rw [HP.out]; unfold partV; rw [if_pos (by rw [HML.out]; omega)])
        clear hge
        go_wp2
        go_ret
        exact ⟨by rw [HE.out]; rfl, HB.out⟩
      · have hgi : ¬ (L.length : Int) ≤ (z : Int) := by omega
        have hzl : z < L.length := by omega
        have hzli : (z : Int) < (L.length : Int) := by omega
        obtain ⟨q, hq⟩ : ∃ q, q = L.getD z 0 := ⟨_, rfl⟩
        have hcl : wr.cell? ⟨g, z, none⟩ = some (.int .i64 q) := by rw [hq, getD_at hzl]; exact (HD.out.own.cellAt z (by omega)).trans (iv_at hzl)
        have HE : Hid (partT F z T = q) := Lib.hid (by rw [HP.out, hq, HLJ.out, desc_at M (by rw [HML.out]; omega)])
        clear hge hq
        go_wp2
        go_ret
        exact ⟨by rw [HE.out]; rfl, HB.out⟩
end Go.Proofs.Ythabpdfbpdokjaa
