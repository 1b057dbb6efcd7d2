/- The numbers of a list that another one has not (without), on the program's side. Condition: the lists read as such, the first with at most seven numbers. -/
import Derived.Test.YtmbgipllkbahpaaDelete
import Derived.Test.YtmbgipllkbahpaaSwap
import Derived.Test.YtmbgipllkbahpaaShelf
namespace Go.Proofs.Ytmbgipllkbahpaa
open Go.RowKit Go.Shelf

theorem contL_any (s : Row) (x : Int) (w : World) (hs : s.At w) (hsm : s.l.length ≤ 1048576) :
    Calls Try.prog 67 #[.slice s.a s.l.length s.c, .int .i64 x] w fun e w' => e = .returned (.bool (hasI s.l x)) ∧ w' = w := by
  obtain ⟨a, c, l⟩ := s
  obtain ⟨h1, h2, h3⟩ := hs
  simp only at h1 h2 h3 hsm ⊢
  by_cases h0 : l = []
  · subst h0
    exact Try.slices_Contains_int_empty a c x w
  rcases h3 with h3 | ⟨b, o, rfl, hb, hcell⟩
  · exact absurd (iv_nil h3) h0
  have := Try.slices_Contains_int b o l.length c l x w (Nat.le_refl _) (by omega) (fun j hj => by rw [hcell j _ (iv_at hj), List.getD_eq_getElem?_getD, List.getElem?_eq_getElem hj]; rfl)
  rw [List.take_length] at this; exact this
/-- A copy, of an empty list too. -/
theorem cloneL_any (s : Row) (w : World) (hs : s.At w) (hn : s.l.length ≤ 1048576) :
    Calls Try.prog 65 #[.slice s.a s.l.length s.c] w fun e w' => ∃ t : Row, e = .returned (.slice t.a t.l.length t.c) ∧ t.l = s.l ∧ t.Own 3 w' ∧ t.In w.heap.size w'.heap.size w' ∧ Below w.heap.size w w' := by
  obtain ⟨a, c, l⟩ := s
  obtain ⟨q1, q2, q3⟩ := hs
  simp only at q1 q2 q3 hn ⊢
  by_cases h0 : l = []
  · subst h0
    cases a with
    | none =>
      refine (Try.slices_Clone_int_nil 0 c w).mono ?_
      rintro e w' ⟨rfl, rfl⟩
      exact ⟨⟨none, 0, []⟩, rfl, rfl, .inl rfl, ⟨by simp [iv], by decide, .inl rfl⟩, Below.refl _ _⟩
    | some x =>
      refine (Try.slices_Clone_int_zero x c w).mono ?_
      rintro e w' ⟨v', rfl, h2, _, h3⟩
      obtain ⟨t, rfl, htl, hto, hti⟩ := row_of_own (l := []) h2
      exact ⟨t, rfl, htl, hto, hti, h3⟩
  · rcases q3 with h3 | ⟨bk, of, rfl, hbb, hcell⟩
    · exact absurd (iv_nil h3) h0
    have HC : ∀ j, j < l.length → w.cell? ⟨bk, of + j, none⟩ = some (.int .i64 (l.getD j 0)) := fun j hj => by
      rw [hcell j _ (iv_at hj), List.getD_eq_getElem?_getD, List.getElem?_eq_getElem hj]; rfl
    refine (Try.slices_Clone_int bk of l.length c l w (Nat.le_refl _) (by omega) HC).mono ?_
    rintro e w' ⟨v', rfl, ho, _, hb⟩
    rw [List.take_length] at ho
    obtain ⟨t, rfl, htl, hto, hti⟩ := row_of_own (l := l) ho
    exact ⟨t, rfl, htl, hto, hti, hb⟩

theorem less1_any (o : Row) (x : Int) (g : Nat) (w : World) (ho : o.At w) (hsm : o.l.length ≤ 1048576) (hg : w.cell? ⟨g, 0, none⟩ = some (.slice o.a o.l.length o.c)) :
    Calls Try.prog 66 #[.int .i64 x, .pointer (some ⟨g, 0, none⟩)] w fun e w' => e = .returned (.bool (hasI o.l x)) ∧ Below w.heap.size w w' := by
  have CC := Lib.hid (contL_any o x w ho hsm)
  clear ho
  go_enter Try.func66, Try.ntmps66
  go_wp2_with fail
  refine (show Calls _ _ _ _ _ from CC.out).mono ?_
  rintro e W ⟨rfl, rfl⟩
  go_wp2
  go_ret
  exact ⟨rfl, Below.refl _ _⟩

set_option maxRecDepth 16000 in
set_option maxHeartbeats 1500000 in
theorem indexLess_any (r : Row) (g1 : Nat) (P : Int → Bool) (w : World) (hr : r.At w) (hm : r.l.length ≤ 7)
    (hP : ∀ x ∈ r.l, ∀ u, Below w.heap.size w u → Calls Try.prog 66 #[.int .i64 x, .pointer (some ⟨g1, 0, none⟩)] u fun e w' => e = .returned (.bool (P x)) ∧ Below u.heap.size u w') :
    Calls Try.prog 70 #[.slice r.a r.l.length r.c, .func (.func 66) #[] #[.pointer (some ⟨g1, 0, none⟩)]] w fun e w' => (∃ i : Int, e = .returned (.int .i64 i) ∧ ((i = -1 ∧ ∀ j, j < r.l.length → P (r.l.getD j 0) = false) ∨ (∃ p : Nat, i = (p : Int) ∧ p < r.l.length ∧ P (r.l.getD p 0) = true ∧ ∀ j, j < p → P (r.l.getD j 0) = false))) ∧ Below w.heap.size w w' := by
  obtain ⟨a, c, l⟩ := r
  obtain ⟨h1, h2, h3⟩ := hr
  simp only at h1 h2 h3 hP hm ⊢
  have hni : (l.length : Int) ≤ 9223372036854775807 := by omega
  have HR := Lib.hid h3
  have CO := Lib.hid hP
  clear h3 hP
  show Calls _ _ #[_, .func (.func 66) #[] #[.pointer (some ⟨g1, 0, none⟩)]] _ _
  go_enter Try.func70, Try.ntmps70
  go_wp2
  go_loopw [8] (fun i wr => ∃ k : Nat, k ≤ l.length ∧ i = .int .i64 k ∧ Below w.heap.size w wr ∧ Hid (∀ j, j < l.length → j < k → P (l.getD j 0) = false)) (fun i _ => l.length - (intOf i).toNat)
  case atStart => exact ⟨0, Nat.zero_le _, rfl, Below.refl _ _, Lib.hid (fun j _ h => absurd h (Nat.not_lt_zero _))⟩
  case round =>
    obtain ⟨k, hk, rfl, hnx, HALL⟩ := hrel
    by_cases hlt : k < l.length
    · have hlti : (k : Int) < (l.length : Int) := by omega
      rcases HR.out with h3 | ⟨b, o, rfl, hb, hcell⟩
      · have h3' := congrArg List.length (iv_nil h3); rw [List.length_nil] at h3'; omega
      obtain ⟨x, hx⟩ : ∃ x, x = l[k] := ⟨_, rfl⟩
      have hcl : wr.cell? ⟨b, o + k, none⟩ = some (.int .i64 x) := (hnx.cell (p := ⟨b, o + k, none⟩) hb).trans (by rw [hx]; exact hcell k _ (iv_at hlt))
      have ci := CO.out x (by rw [hx]; exact List.getElem_mem hlt) wr hnx
      obtain ⟨v, hv⟩ : ∃ v, v = P x := ⟨_, rfl⟩
      rw [← hv] at ci
      have CI := Lib.hid ci
      have HV : Hid (P (l.getD k 0) = v) := Lib.hid (by rw [getD_at hlt, hv, hx])
      have HNX := Lib.hid hnx
      have hszr := hnx.size
      clear hx hcell ci hv hnx
      go_wp2_with fail
      refine (show Calls _ _ _ _ _ from CI.out).mono ?_
      rintro e W ⟨rfl, hb1⟩
      have HN2 := Lib.hid (HNX.out.trans (hb1.mono hszr))
      clear hb1 hcl
      cases v with
      | false =>
        have HS : Hid (∀ j, j < l.length → j < k + 1 → P (l.getD j 0) = false) := Lib.hid (fun j hj h => by
          by_cases e : j = k
          · subst e; exact HV.out
          · exact HALL.out j hj (by omega))
        go_wp2
        go_roundw
        case rel => exact ⟨k + 1, by omega, by go_num, HN2.out, HS⟩
        case measure => simp [intOf]; omega
      | true =>
        go_wp2
        go_ret
        exact ⟨⟨(k : Int), rfl, .inr ⟨k, rfl, hlt, HV.out, fun j hj => HALL.out j (by omega) hj⟩⟩, HN2.out⟩
    · obtain rfl : k = l.length := by omega
      have HNX := Lib.hid hnx
      clear hnx
      go_wp2
      go_ret
      exact ⟨⟨-1, rfl, .inl ⟨rfl, fun j hj => HALL.out j hj hj⟩⟩, HNX.out⟩

set_option maxRecDepth 16000 in
set_option maxHeartbeats 2000000 in
theorem deleteLess_any (r : Row) (lo hi g1 : Nat) (P : Int → Bool) (w : World) (ho : r.Own 3 w) (hI : r.In lo hi w) (hh : hi ≤ w.heap.size) (hm : r.l.length ≤ 7)
    (hP : ∀ x ∈ r.l, ∀ u, Touch lo hi w u → Calls Try.prog 66 #[.int .i64 x, .pointer (some ⟨g1, 0, none⟩)] u fun e w' => e = .returned (.bool (P x)) ∧ Below u.heap.size u w') :
    Calls Try.prog 64 #[.slice r.a r.l.length r.c, .func (.func 66) #[] #[.pointer (some ⟨g1, 0, none⟩)]] w fun e w' => ∃ t : Row, e = .returned (.slice t.a t.l.length t.c) ∧ t.l = keepL P r.l ∧ t.Own 3 w' ∧ t.In lo hi w' ∧ Touch lo hi w w' := by
  have CI := Lib.hid (indexLess_any r g1 P w hI.at hm (fun x hx u hu => hP x hx u (Touch.of_below hu)))
  have HP := Lib.hid hP
  have HO := Lib.hid ho
  have HI := Lib.hid hI
  obtain ⟨a, c, l⟩ := r
  simp only at hm CI HP ⊢
  obtain ⟨n, hn⟩ : ∃ n, n = l.length := ⟨_, rfl⟩
  have hni : (n : Int) ≤ 7 := by omega
  have HN := Lib.hid hn
  rw [← hn] at CI ⊢
  have CI1 := CI
  clear ho hI hP hm CI hn
  show Calls _ _ #[_, .func (.func 66) #[] #[.pointer (some ⟨g1, 0, none⟩)]] _ _
  go_enter Try.func64, Try.ntmps64
  go_wp2_with fail
  refine (show Calls _ _ _ _ _ from CI1.out).mono ?_
  rintro e W ⟨⟨i, rfl, hcase⟩, hbW⟩
  have HBW := Lib.hid (Touch.of_below (lo := lo) (hi := hi) hbW)
  have HOW := Lib.hid (HO.out.on hbW)
  have HIW := Lib.hid (HI.out.on hbW)
  have hhW : hi ≤ W.heap.size := Nat.le_trans hh hbW.size
  clear hbW
  rcases hcase with ⟨rfl, hnone⟩ | ⟨p, rfl, hp, hpt, hpn⟩
  · have HE : Hid (keepL P l = l) := Lib.hid (keep_none fun j hj => by have := hnone j (by rw [HN.out]; exact hj); rw [getD_at hj] at this; exact this)
    clear hnone
    go_wp2
    go_ret
    exact ⟨⟨a, c, l⟩, by rw [HN.out]; rfl, HE.out.symm, HOW.out, HIW.out, HBW.out⟩
  · rw [HN.out] at hp
    rw [getD_at hp] at hpt
    have hpn : ∀ j (hj : j < p), P (l[j]'(by omega)) = false := fun j hj => by have := hpn j hj; rw [getD_at (by omega)] at this; exact this
    have hne : l ≠ [] := fun h => by rw [h] at hp; simp at hp
    obtain ⟨b, hba, hob⟩ := HOW.out.resolve_left hne
    simp only at hba
    subst hba
    have hpn2 : p < n := by rw [HN.out]; exact hp
    have hpi : (p : Int) < (n : Int) := by omega
    have H0 : Hid (l.take p = keepL P (l.take (p + 1))) := Lib.hid (by
      rw [keep_step hp, hpt, if_pos rfl, List.append_nil]
      exact (keep_head (Nat.le_of_lt hp) hpn).symm)
    obtain ⟨q1, q2, -⟩ := id HIW.out
    simp only [iv_length] at q1 q2
    have hnc : (n : Int) ≤ (c : Int) := by have := HN.out; omega
    have hnc' : n ≤ c := by omega
    have hpe : ((p : Int) == -1) = false := beq_false_of_ne (by omega)
    -- a write, and what is read
    have HWR := Lib.hid (fun (xs : List Int) (k : Nat) (hk : k < xs.length) (U : World) (o1 : (Row.mk (some ⟨b, 0, none⟩) c xs).Own 3 U) (i1 : (Row.mk (some ⟨b, 0, none⟩) c xs).In lo hi U) (x : Int) => (show
        U.frozen? ⟨b, k, none⟩ = false ∧ U.cell? ⟨b, k, none⟩ = some (.int .i64 xs[k]) ∧ (Row.mk (some ⟨b, 0, none⟩) c (xs.set k x)).Own 3 (U.setCell ⟨b, k, none⟩ (.int .i64 x)) ∧ (Row.mk (some ⟨b, 0, none⟩) c (xs.set k x)).In lo hi (U.setCell ⟨b, k, none⟩ (.int .i64 x)) ∧ Touch lo hi U (U.setCell ⟨b, k, none⟩ (.int .i64 x)) from by
      obtain ⟨g', e1, h1, h2, h3, h4, h5, h6, h7, h8⟩ := row_write o1 i1 (a := k) (by simp only; exact hk) x
      simp only [Option.some.injEq, Addr.mk.injEq, and_true] at e1
      subst e1
      exact ⟨h4, h5, h6, h7, h8.touch i1⟩))
    clear hne hob hp hpt hpn q1 q2
    go_wp2
    go_loopw [5, 6, 7] (fun ik jk _ wr => ∃ (k j : Nat) (xs : List Int), p ≤ k ∧ k < j ∧ j ≤ n ∧ ik = .int .i64 (k : Int) ∧ jk = .int .i64 (j : Int) ∧ Hid (xs.length = n) ∧ Hid (xs.take k = keepL P (l.take j)) ∧ Hid (xs.drop j = l.drop j) ∧ (Row.mk (some ⟨b, 0, none⟩) c xs).Own 3 wr ∧ (Row.mk (some ⟨b, 0, none⟩) c xs).In lo hi wr ∧ Touch lo hi w wr) (fun _ jk _ _ => n - (intOf jk).toNat)
    case atStart => exact ⟨p, p + 1, l, Nat.le_refl _, by omega, by omega, rfl, by go_num, Lib.hid HN.out.symm, H0, Lib.hid rfl, HOW.out, HIW.out, HBW.out⟩
    case round =>
      obtain ⟨k, j, xs, hpk, hkj, hjn, rfl, rfl, HXN, HXT, HXD, o1, i1, t1⟩ := hrel
      have O1 := Lib.hid o1
      have I1 := Lib.hid i1
      have T1 := Lib.hid t1
      clear o1 i1 t1 hpe
      by_cases hlt : j < n
      · have hlti : (j : Int) < (n : Int) := by omega
        have hki : (k : Int) < (n : Int) := by omega
        have hjl : j < l.length := by rw [← HN.out]; exact hlt
        have hjx : j < xs.length := by rw [HXN.out]; exact hlt
        obtain ⟨x, hx⟩ : ∃ x, x = l[j] := ⟨_, rfl⟩
        have hxj : xs[j] = x := by
          have h1 := congrArg (fun L : List Int => L[0]?) HXD.out
          simp only [List.getElem?_drop, Nat.add_zero] at h1
          rw [List.getElem?_eq_getElem hjx, List.getElem?_eq_getElem hjl, Option.some.injEq] at h1
          rw [h1, hx]
        have hcx := (HWR.out xs j hjx wr O1.out I1.out 0).2.1
        rw [hxj] at hcx
        have ci := HP.out x (by rw [hx]; exact List.getElem_mem hjl) wr T1.out
        obtain ⟨v, hv⟩ : ∃ v, v = P x := ⟨_, rfl⟩
        rw [← hv] at ci
        have CI2 := Lib.hid ci
        have HKS : Hid (keepL P (l.take (j + 1)) = keepL P (l.take j) ++ (if v = true then [] else [x])) := Lib.hid (by rw [keep_step hjl, hv, hx])
        have HXD2 : Hid (xs.drop (j + 1) = l.drop (j + 1)) := Lib.hid (by
          have h1 := congrArg (List.drop 1) HXD.out
          rw [List.drop_drop, List.drop_drop] at h1
          exact h1)
        clear ci hv hx hxj
        go_wp2_with fail
        refine (show Calls _ _ _ _ _ from CI2.out).mono ?_
        rintro e W2 ⟨rfl, hb2⟩
        have T2 := Lib.hid (T1.out.trans (Touch.of_below (lo := lo) (hi := hi) hb2))
        have O2 := Lib.hid (O1.out.on hb2)
        have I2 := Lib.hid (I1.out.on hb2)
        clear hb2 hcx
        cases v with
        | true =>
          have HXT2 : Hid (xs.take k = keepL P (l.take (j + 1))) := Lib.hid (by rw [HKS.out, if_pos rfl, List.append_nil]; exact HXT.out)
          go_wp2
          go_roundw
          case rel => exact ⟨k, j + 1, xs, hpk, by omega, by omega, rfl, by go_num, HXN, HXT2, HXD2, O2.out, I2.out, T2.out⟩
          case measure => simp [intOf]; omega
        | false =>
          have hkx : k < xs.length := by rw [HXN.out]; omega
          obtain ⟨f1, c1, o3, i3, t3⟩ := HWR.out xs k hkx W2 O2.out I2.out x
          obtain ⟨y, hy⟩ : ∃ y, y = xs[k] := ⟨_, rfl⟩
          rw [← hy] at c1
          have O3 := Lib.hid o3
          have I3 := Lib.hid i3
          have T3 := Lib.hid (T2.out.trans t3)
          have HXN3 : Hid ((xs.set k x).length = n) := Lib.hid (by rw [List.length_set]; exact HXN.out)
          have HXT3 : Hid ((xs.set k x).take (k + 1) = keepL P (l.take (j + 1))) := Lib.hid (by
            rw [HKS.out, if_neg (by simp), ← HXT.out, List.take_succ_eq_append_getElem (by rw [List.length_set]; exact hkx), List.take_set_of_le (Nat.le_refl _), List.getElem_set_self])
          have HXD3 : Hid ((xs.set k x).drop (j + 1) = l.drop (j + 1)) := Lib.hid (by rw [List.drop_set_of_lt (by omega)]; exact HXD2.out)
          clear o3 i3 t3 hy
          go_wp2
          go_roundw
          case rel => exact ⟨k + 1, j + 1, xs.set k x, by omega, by omega, by omega, by go_num, by go_num, HXN3, HXT3, HXD3, O3.out, I3.out, T3.out⟩
          case measure => simp [intOf]; omega
      · obtain rfl : j = n := by omega
        obtain ⟨zs, z1, z2, z3, z4, z5⟩ := row_zeros (a := some ⟨b, 0, none⟩) (c := c) (lo := lo) (hi := hi) rfl (j - k) k xs wr (by rw [HXN.out]; omega) O1.out I1.out
        have hkl : xs.take k = keepL P l := by have := HXT.out; rw [HN.out, List.take_length] at this; rw [HN.out] at *; exact this
        have hkn : (keepL P l).length = k := by rw [← hkl, List.length_take, HXN.out]; omega
        have HR := Lib.hid (row_take9 z3 z4 (m := k) (by simp only; rw [z1, HXN.out]; omega) ⟨some ⟨b, 0, none⟩, c, keepL P l⟩ (by rw [← hkl, ← z2]))
        have HT := Lib.hid (T1.out.trans z5)
        have HKN := Lib.hid hkn
        have hcl : ∀ ty, (Builtin.clear_ #[29] ty #[.slice (some ⟨b, k, none⟩) (j - k) (c - k)]).run Try.prog wr = .ok (.tuple #[]) (wr.setCells b k (List.replicate (j - k) (.int .i64 0))) := fun ty => by
          have k0 : ∀ i, i < j - k → k + i < xs.length := fun i hi' => by rw [HXN.out]; omega
          have k1 : ∀ i, i < j - k → (wr.cell? ⟨b, k + i, none⟩).isSome = true := fun i hi' => by
            rw [(HWR.out xs (k + i) (k0 i hi') wr O1.out I1.out 0).2.1]; rfl
          have k2 : ∀ i, i < j - k → wr.frozen? ⟨b, k + i, none⟩ = false := fun i hi' => (HWR.out xs (k + i) (k0 i hi') wr O1.out I1.out 0).1
          exact Lib.run_clear_slice wr 29 3 ty (.int .i64 0) Try.underlying29 zeroInt9 rfl rfl b k (j - k) (c - k) (by omega) k1 k2
        have hki : (k : Int) ≤ (j : Int) := by omega
        have hkc : (k : Int) < (c : Int) := by omega
        have hkc2 : ¬ (c = k) := by omega
        clear z1 z2 z3 z4 z5 hkl hkn
        go_wp2_with (simp only [hcl])
        go_ret
        exact ⟨⟨some ⟨b, 0, none⟩, c, keepL P l⟩, by rw [HKN.out]; rfl, rfl, HR.out.1, HR.out.2, HT.out⟩

set_option maxHeartbeats 1000000 in
theorem less_any (s o : Row) (w : World) (hs : s.At w) (ho : o.At w) (h7 : s.l.length ≤ 7) (hsm : o.l.length ≤ 1048576) :
    Calls Try.prog 57 #[.slice s.a s.l.length s.c, .slice o.a o.l.length o.c] w fun e w' => ∃ t : Row, e = .returned (.slice t.a t.l.length t.c) ∧ t.l = keepL (hasI o.l) s.l ∧ t.Own 3 w' ∧ t.In w.heap.size w'.heap.size w' ∧ Below w.heap.size w w' := by
  obtain ⟨wA, hA⟩ : ∃ u, u = w.alloc (.cells #[.slice o.a o.l.length o.c] 29) := ⟨_, rfl⟩
  have hbA : Below w.heap.size w wA := by rw [hA]; exact below_alloc _ _
  have hszA : wA.heap.size = w.heap.size + 1 := by rw [hA]; exact size_alloc _ _
  have hc : wA.cell? ⟨w.heap.size, 0, none⟩ = some (.slice o.a o.l.length o.c) := by rw [hA]; simp
  have CL := Lib.hid (cloneL_any s wA (hs.on hbA) (by omega))
  have HOA := Lib.hid (ho.in.on hbA)
  have HA := Lib.hid hA
  have HC := Lib.hid hc
  clear hs ho hA hc
  go_enter Try.func57, Try.ntmps57
  go_wp2_with fail
  rw [← HA.out]
  refine (show Calls _ _ _ _ _ from CL.out).mono ?_
  rintro e W1 ⟨r, rfl, hrl, hro, hri, hb1⟩
  have hs1 : wA.heap.size ≤ W1.heap.size := hb1.size
  have CD := Lib.hid (deleteLess_any r wA.heap.size W1.heap.size w.heap.size (hasI o.l) W1 hro hri (Nat.le_refl _) (by rw [hrl]; exact h7) (fun x _ u hu =>
    less1_any o x w.heap.size u (((HOA.out.on hb1).touch hu (.inl (by omega))).at) hsm (by
      rw [hu.cell (p := ⟨w.heap.size, 0, none⟩) (by simp only; omega) (by simp only; omega), hb1.cell (p := ⟨w.heap.size, 0, none⟩) (by simp only; omega)]; exact HC.out)))
  have HB1 := Lib.hid (hbA.trans (hb1.mono hbA.size))
  have HRL := Lib.hid hrl
  clear hrl hro hri hb1
  go_wp2_with fail
  refine (show Calls _ _ _ _ _ from CD.out).mono ?_
  rintro e W2 ⟨t, rfl, htl, hto, hti, ht⟩
  have HT := Lib.hid ht
  have HTL := Lib.hid htl
  have HTO := Lib.hid hto
  have HTI := Lib.hid hti
  clear ht htl hto hti
  go_wp2
  go_ret
  exact ⟨t, rfl, by rw [HTL.out, HRL.out], HTO.out, HTI.out.wide (by omega) HT.out.size, HB1.out.trans (HT.out.below (by omega) HB1.out.size)⟩

end Go.Proofs.Ytmbgipllkbahpaa
