/- slices.DeleteFunc in a list of the call's own, for one closure (UnbeatenSites$1). Condition: at most seven numbers; the closure writes nothing old. -/
import Derived.Test.YtfiijfgclfoeoaaWriteI
import Derived.Test.YtfiijfgclfoeoaaSysMem
import Derived.Lib.SliceRun
namespace Go.Proofs.Ytfiijfgclfoeoaa
open Go.RowKit

theorem zeroInt9 (u : World) : (zeroValue 3).run Try.prog u = .ok (.int .i64 0) u := by kernel_rfl
/-- What is kept. -/
def keepL (P : Int → Bool) (l : List Int) : List Int := l.filter fun x => !P x
theorem keep_step {P : Int → Bool} {l : List Int} {j : Nat} (h : j < l.length) : keepL P (l.take (j + 1)) = keepL P (l.take j) ++ (if P l[j] = true then [] else [l[j]]) := by
  unfold keepL
  rw [List.take_succ_eq_append_getElem h, List.filter_append]
  cases hp : P l[j] <;> simp [hp]
theorem keep_none {P : Int → Bool} {l : List Int} (h : ∀ j (hj : j < l.length), P l[j] = false) : keepL P l = l := by
  unfold keepL
  rw [List.filter_eq_self]
  intro x hx
  obtain ⟨j, hj, rfl⟩ := List.mem_iff_getElem.1 hx
  rw [h j hj]; rfl
theorem keep_head {P : Int → Bool} {l : List Int} {p : Nat} (hp : p ≤ l.length) (h : ∀ j (hj : j < p), P (l[j]'(by omega)) = false) : keepL P (l.take p) = l.take p := by
  refine keep_none fun j hj => ?_
  rw [List.length_take] at hj
  rw [List.getElem_take]
  exact h j (by omega)

set_option maxRecDepth 16000 in
set_option maxHeartbeats 1500000 in
theorem indexDel_any (r : Row) (g1 g2 : Nat) (P : Int → Bool) (w : World) (hr : r.At w) (hm : r.l.length ≤ 7)
    (hP : ∀ x ∈ r.l, ∀ u, Below w.heap.size w u → Calls Try.prog 38 #[.int .i64 x, .pointer (some ⟨g1, 0, none⟩), .pointer (some ⟨g2, 0, none⟩)] u fun e w' => e = .returned (.bool (P x)) ∧ Below u.heap.size u w') :
    Calls Try.prog 60 #[.slice r.a r.l.length r.c, .func (.func 38) #[] #[.pointer (some ⟨g1, 0, none⟩), .pointer (some ⟨g2, 0, none⟩)]] w fun e w' => (∃ i : Int, e = .returned (.int .i64 i) ∧ ((i = -1 ∧ ∀ j, j < r.l.length → P (r.l.getD j 0) = false) ∨ (∃ p : Nat, i = (p : Int) ∧ p < r.l.length ∧ P (r.l.getD p 0) = true ∧ ∀ j, j < p → P (r.l.getD j 0) = false))) ∧ Below w.heap.size w w' := by
  obtain ⟨a, c, l⟩ := r
  obtain ⟨h1, h2, h3⟩ := hr
  simp only at h1 h2 h3 hP hm ⊢
  have hni : (l.length : Int) ≤ 9223372036854775807 := by omega
  have HR := Lib.hid h3
  have CO := Lib.hid hP
  clear h3 hP
  show Calls _ _ #[_, .func (.func 38) #[] #[.pointer (some ⟨g1, 0, none⟩), .pointer (some ⟨g2, 0, none⟩)]] _ _
  go_enter Try.func60, Try.ntmps60
  go_wp2
  go_loopw [8] (fun i wr => ∃ k : Nat, k ≤ l.length ∧ i = .int .i64 k ∧ Below w.heap.size w wr ∧ Hid (∀ j, j < l.length → j < k → P (l.getD j 0) = false)) (fun i _ => l.length - (intOf i).toNat)
  case atStart => exact ⟨0, Nat.zero_le _, rfl, Below.refl _ _, Lib.hid (fun j _ h => absurd h (Nat.not_lt_zero _))⟩
  case round =>
    obtain ⟨k, hk, rfl, hnx, HALL⟩ := hrel
    by_cases hlt : k < l.length
    · have hlti : (k : Int) < (l.length : Int) := by omega
      rcases HR.out with h3 | ⟨b, o, rfl, hb, hcell⟩
      · have h3' := congrArg List.length (iv_nil h3); rw [List.length_nil] at h3'; omega
      obtain ⟨x, hx⟩ : ∃ x, x = l[k] := ⟨_, rfl⟩
      have hcl : wr.cell? ⟨b, o + k, none⟩ = some (.int .i64 x) := (hnx.cell (p := ⟨b, o + k, none⟩) hb).trans (by rw [hx]; exact hcell k _ (iv_at hlt))
      have ci := CO.out x (by rw [hx]; exact List.getElem_mem hlt) wr hnx
      obtain ⟨v, hv⟩ : ∃ v, v = P x := ⟨_, rfl⟩
      rw [← hv] at ci
      have CI := Lib.hid ci
      have HV : Hid (P (l.getD k 0) = v) := Lib.hid (by rw [getD_at hlt, hv, hx])
      have HNX := Lib.hid hnx
      have hszr := hnx.size
      clear hx hcell ci hv hnx
      go_wp2_with fail
      refine (show Calls _ _ _ _ _ from CI.out).mono ?_
      rintro e W ⟨rfl, hb1⟩
      have HN2 := Lib.hid (HNX.out.trans (hb1.mono hszr))
      clear hb1 hcl
      cases v with
      | false =>
        have HS : Hid (∀ j, j < l.length → j < k + 1 → P (l.getD j 0) = false) := Lib.hid (fun j hj h => by
          by_cases e : j = k
          · subst e; exact HV.out
          · exact HALL.out j hj (by omega))
        go_wp2
        go_roundw
        case rel => exact ⟨k + 1, by omega, by go_num, HN2.out, HS⟩
        case measure => simp [intOf]; omega
      | true =>
        go_wp2
        go_ret
        exact ⟨⟨(k : Int), rfl, .inr ⟨k, rfl, hlt, HV.out, fun j hj => HALL.out j (by omega) hj⟩⟩, HN2.out⟩
    · obtain rfl : k = l.length := by omega
      have HNX := Lib.hid hnx
      clear hnx
      go_wp2
      go_ret
      exact ⟨⟨-1, rfl, .inl ⟨rfl, fun j hj => HALL.out j hj hj⟩⟩, HNX.out⟩

/-- Some cells of an own row are written over by zeros. -/
theorem row_zeros {a : Option Addr} {c : Nat} {lo hi b : Nat} (ha : a = some ⟨b, 0, none⟩) : ∀ (m k : Nat) (xs : List Int) (W : World), k + m ≤ xs.length → (Row.mk a c xs).Own 3 W → (Row.mk a c xs).In lo hi W →
    ∃ zs : List Int, zs.length = xs.length ∧ zs.take k = xs.take k ∧ (Row.mk a c zs).Own 3 (W.setCells b k (List.replicate m (.int .i64 0))) ∧ (Row.mk a c zs).In lo hi (W.setCells b k (List.replicate m (.int .i64 0))) ∧ Touch lo hi W (W.setCells b k (List.replicate m (.int .i64 0)))
  | 0, k, xs, W, _, ho, hi' => ⟨xs, rfl, rfl, ho, hi', Touch.refl _ _ _⟩
  | m + 1, k, xs, W, hk, ho, hi' => by
    obtain ⟨g', e1, h1, h2, h3, h4, h5, h6, h7, h8⟩ := row_write ho hi' (a := k) (by simp only; omega) 0
    simp only [ha, Option.some.injEq, Addr.mk.injEq, and_true] at e1
    subst e1
    simp only at h6 h7
    obtain ⟨zs, z1, z2, z3, z4, z5⟩ := row_zeros ha m (k + 1) (xs.set k 0) _ (by rw [List.length_set]; omega) h6 h7
    refine ⟨zs, by rw [z1, List.length_set], ?_, z3, z4, (h8.touch hi').trans z5⟩
    have := congrArg (List.take k) z2
    rw [List.take_take, List.take_take, Nat.min_eq_left (by omega), List.take_set_of_le (Nat.le_refl _)] at this
    exact this

theorem owns_take9 {w : World} {B : Nat} {e : TypeId} {g c n m : Nat} {xs : List Value} (h : w.ownsRow B e 1 (.slice (some ⟨g, 0, none⟩) n c) n xs) (hm : m ≤ n) : w.ownsRow B e 1 (.slice (some ⟨g, 0, none⟩) m c) m (xs.take m) := by
  obtain ⟨h1, h2⟩ := h
  refine ⟨by rw [List.length_take]; omega, ?_⟩
  rcases h2 with ⟨h2, _⟩ | ⟨g', cap, cur, e1, hB, hg, hl, hm1, hs, ht⟩
  · cases h2
  · simp only [Value.slice.injEq, Option.some.injEq, Addr.mk.injEq, and_true, true_and] at e1
    obtain ⟨rfl, rfl⟩ := e1
    refine .inr ⟨g, c, cur, rfl, hB, hg, by omega, hm1, hs, ?_⟩
    rw [← ht, List.take_take]; congr 1; omega
theorem row_take9 {r : Row} {lo hi m : Nat} {w : World} (ho : r.Own 3 w) (hi' : r.In lo hi w) (hm : m ≤ r.l.length) (t : Row) (ht : t = ⟨r.a, r.c, r.l.take m⟩) : t.Own 3 w ∧ t.In lo hi w := by
  subst ht
  have hl : (r.l.take m).length = m := by rw [List.length_take]; omega
  by_cases h0 : r.l.take m = []
  · exact ⟨.inl h0, by have := hi'.1; rw [iv_length] at this; exact ⟨by rw [iv_length]; simp only; omega, hi'.2.1, .inl (by simp only; rw [h0]; rfl)⟩⟩
  · have hne : r.l ≠ [] := fun h => h0 (by rw [h]; exact List.take_nil)
    obtain ⟨g, hga, hown⟩ := ho.resolve_left hne
    have h1 := owns_take9 hown hm
    refine ⟨.inr ⟨g, hga, ?_⟩, ?_⟩
    · simp only
      rw [hl, show iv (r.l.take m) = (iv r.l).take m by unfold iv; rw [List.map_take]]
      exact h1
    · obtain ⟨q1, q2, q3⟩ := hi'
      rw [iv_length] at q1
      refine ⟨by rw [iv_length]; simp only; omega, q2, ?_⟩
      rcases q3 with q3 | ⟨b, o, e, a1, a2, a3, a4⟩
      · exact absurd (iv_nil q3) hne
      · refine .inr ⟨b, o, e, a1, a2, a3, fun j x hj => a4 j x ?_⟩
        simp only [iv, List.map_take] at hj
        rw [List.getElem?_take] at hj
        split at hj
        · exact hj
        · cases hj

set_option maxRecDepth 16000 in
set_option maxHeartbeats 2000000 in
theorem deleteFunc_any (r : Row) (lo hi g1 g2 : Nat) (P : Int → Bool) (w : World) (ho : r.Own 3 w) (hI : r.In lo hi w) (hh : hi ≤ w.heap.size) (hm : r.l.length ≤ 7)
    (hP : ∀ x ∈ r.l, ∀ u, Touch lo hi w u → Calls Try.prog 38 #[.int .i64 x, .pointer (some ⟨g1, 0, none⟩), .pointer (some ⟨g2, 0, none⟩)] u fun e w' => e = .returned (.bool (P x)) ∧ Below u.heap.size u w') :
    Calls Try.prog 39 #[.slice r.a r.l.length r.c, .func (.func 38) #[] #[.pointer (some ⟨g1, 0, none⟩), .pointer (some ⟨g2, 0, none⟩)]] w fun e w' => ∃ t : Row, e = .returned (.slice t.a t.l.length t.c) ∧ t.l = keepL P r.l ∧ t.Own 3 w' ∧ t.In lo hi w' ∧ Touch lo hi w w' := by
  have CI := Lib.hid (indexDel_any r g1 g2 P w hI.at hm (fun x hx u hu => hP x hx u (Touch.of_below hu)))
  have HP := Lib.hid hP
  have HO := Lib.hid ho
  have HI := Lib.hid hI
  obtain ⟨a, c, l⟩ := r
  simp only at hm CI HP ⊢
  obtain ⟨n, hn⟩ : ∃ n, n = l.length := ⟨_, rfl⟩
  have hni : (n : Int) ≤ 7 := by omega
  have HN := Lib.hid hn
  rw [← hn] at CI ⊢
  have CI1 := CI
  clear ho hI hP hm CI hn
  show Calls _ _ #[_, .func (.func 38) #[] #[.pointer (some ⟨g1, 0, none⟩), .pointer (some ⟨g2, 0, none⟩)]] _ _
  go_enter Try.func39, Try.ntmps39
  go_wp2_with fail
  refine (show Calls _ _ _ _ _ from CI1.out).mono ?_
  rintro e W ⟨⟨i, rfl, hcase⟩, hbW⟩
  have HBW := Lib.hid (Touch.of_below (lo := lo) (hi := hi) hbW)
  have HOW := Lib.hid (HO.out.on hbW)
  have HIW := Lib.hid (HI.out.on hbW)
  have hhW : hi ≤ W.heap.size := Nat.le_trans hh hbW.size
  clear hbW
  rcases hcase with ⟨rfl, hnone⟩ | ⟨p, rfl, hp, hpt, hpn⟩
  · have HE : Hid (keepL P l = l) := Lib.hid (keep_none fun j hj => by have := hnone j (by rw [HN.out]; exact hj); rw [getD_at hj] at this; exact this)
    clear hnone
    go_wp2
    go_ret
    exact ⟨⟨a, c, l⟩, by rw [HN.out]; rfl, HE.out.symm, HOW.out, HIW.out, HBW.out⟩
  · rw [HN.out] at hp
    rw [getD_at hp] at hpt
    have hpn : ∀ j (hj : j < p), P (l[j]'(by omega)) = false := fun j hj => by have := hpn j hj; rw [getD_at (by omega)] at this; exact this
    have hne : l ≠ [] := fun h => by rw [h] at hp; simp at hp
    obtain ⟨b, hba, hob⟩ := HOW.out.resolve_left hne
    simp only at hba
    subst hba
    have hpn2 : p < n := by rw [HN.out]; exact hp
    have hpi : (p : Int) < (n : Int) := by omega
    have H0 : Hid (l.take p = keepL P (l.take (p + 1))) := Lib.hid (by
      rw [keep_step hp, hpt, if_pos rfl, List.append_nil]
      exact (keep_head (Nat.le_of_lt hp) hpn).symm)
    obtain ⟨q1, q2, -⟩ := id HIW.out
    simp only [iv_length] at q1 q2
    have hnc : (n : Int) ≤ (c : Int) := by have := HN.out; omega
    have hnc' : n ≤ c := by omega
    have hpe : ((p : Int) == -1) = false := beq_false_of_ne (by omega)
    -- a write, and what is read
    have HWR := Lib.hid (fun (xs : List Int) (k : Nat) (hk : k < xs.length) (U : World) (o1 : (Row.mk (some ⟨b, 0, none⟩) c xs).Own 3 U) (i1 : (Row.mk (some ⟨b, 0, none⟩) c xs).In lo hi U) (x : Int) => (show
        U.frozen? ⟨b, k, none⟩ = false ∧ U.cell? ⟨b, k, none⟩ = some (.int .i64 xs[k]) ∧ (Row.mk (some ⟨b, 0, none⟩) c (xs.set k x)).Own 3 (U.setCell ⟨b, k, none⟩ (.int .i64 x)) ∧ (Row.mk (some ⟨b, 0, none⟩) c (xs.set k x)).In lo hi (U.setCell ⟨b, k, none⟩ (.int .i64 x)) ∧ Touch lo hi U (U.setCell ⟨b, k, none⟩ (.int .i64 x)) from by
      obtain ⟨g', e1, h1, h2, h3, h4, h5, h6, h7, h8⟩ := row_write o1 i1 (a := k) (by simp only; exact hk) x
      simp only [Option.some.injEq, Addr.mk.injEq, and_true] at e1
      subst e1
      exact ⟨h4, h5, h6, h7, h8.touch i1⟩))
    clear hne hob hp hpt hpn q1 q2
    go_wp2
    go_loopw [5, 6, 7] (fun ik jk _ wr => ∃ (k j : Nat) (xs : List Int), p ≤ k ∧ k < j ∧ j ≤ n ∧ ik = .int .i64 (k : Int) ∧ jk = .int .i64 (j : Int) ∧ Hid (xs.length = n) ∧ Hid (xs.take k = keepL P (l.take j)) ∧ Hid (xs.drop j = l.drop j) ∧ (Row.mk (some ⟨b, 0, none⟩) c xs).Own 3 wr ∧ (Row.mk (some ⟨b, 0, none⟩) c xs).In lo hi wr ∧ Touch lo hi w wr) (fun _ jk _ _ => n - (intOf jk).toNat)
    case atStart => exact ⟨p, p + 1, l, Nat.le_refl _, by omega, by omega, rfl, by go_num, Lib.hid HN.out.symm, H0, Lib.hid rfl, HOW.out, HIW.out, HBW.out⟩
    case round =>
      obtain ⟨k, j, xs, hpk, hkj, hjn, rfl, rfl, HXN, HXT, HXD, o1, i1, t1⟩ := hrel
      have O1 := Lib.hid o1
      have I1 := Lib.hid i1
      have T1 := Lib.hid t1
      clear o1 i1 t1 hpe
      by_cases hlt : j < n
      · have hlti : (j : Int) < (n : Int) := by omega
        have hki : (k : Int) < (n : Int) := by omega
        have hjl : j < l.length := by rw [← HN.out]; exact hlt
        have hjx : j < xs.length := by rw [HXN.out]; exact hlt
        obtain ⟨x, hx⟩ : ∃ x, x = l[j] := ⟨_, rfl⟩
        have hxj : xs[j] = x := by
          have h1 := congrArg (fun L : List Int => L[0]?) HXD.out
          simp only [List.getElem?_drop, Nat.add_zero] at h1
          rw [List.getElem?_eq_getElem hjx, List.getElem?_eq_getElem hjl, Option.some.injEq] at h1
          rw [h1, hx]
        have hcx := (HWR.out xs j hjx wr O1.out I1.out 0).2.1
        rw [hxj] at hcx
        have ci := HP.out x (by rw [hx]; exact List.getElem_mem hjl) wr T1.out
        obtain ⟨v, hv⟩ : ∃ v, v = P x := ⟨_, rfl⟩
        rw [← hv] at ci
        have CI2 := Lib.hid ci
        have HKS : Hid (keepL P (l.take (j + 1)) = keepL P (l.take j) ++ (if v = true then [] else [x])) := Lib.hid (by rw [keep_step hjl, hv, hx])
        have HXD2 : Hid (xs.drop (j + 1) = l.drop (j + 1)) := Lib.hid (by
          have h1 := congrArg (List.drop 1) HXD.out
          rw [List.drop_drop, List.drop_drop] at h1
          exact h1)
        clear ci hv hx hxj
        go_wp2_with fail
        refine (show Calls _ _ _ _ _ from CI2.out).mono ?_
        rintro e W2 ⟨rfl, hb2⟩
        have T2 := Lib.hid (T1.out.trans (Touch.of_below (lo := lo) (hi := hi) hb2))
        have O2 := Lib.hid (O1.out.on hb2)
        have I2 := Lib.hid (I1.out.on hb2)
        clear hb2 hcx
        cases v with
        | true =>
          have HXT2 : Hid (xs.take k = keepL P (l.take (j + 1))) := Lib.hid (by rw [HKS.out, if_pos rfl, List.append_nil]; exact HXT.out)
          go_wp2
          go_roundw
          case rel => exact ⟨k, j + 1, xs, hpk, by omega, by omega, rfl, by go_num, HXN, HXT2, HXD2, O2.out, I2.out, T2.out⟩
          case measure => simp [intOf]; omega
        | false =>
          have hkx : k < xs.length := by rw [HXN.out]; omega
          obtain ⟨f1, c1, o3, i3, t3⟩ := HWR.out xs k hkx W2 O2.out I2.out x
          obtain ⟨y, hy⟩ : ∃ y, y = xs[k] := ⟨_, rfl⟩
          rw [← hy] at c1
          have O3 := Lib.hid o3
          have I3 := Lib.hid i3
          have T3 := Lib.hid (T2.out.trans t3)
          have HXN3 : Hid ((xs.set k x).length = n) := Lib.hid (by rw [List.length_set]; exact HXN.out)
          have HXT3 : Hid ((xs.set k x).take (k + 1) = keepL P (l.take (j + 1))) := Lib.hid (by
            rw [HKS.out, if_neg (by simp), ← HXT.out, List.take_succ_eq_append_getElem (by rw [List.length_set]; exact hkx), List.take_set_of_le (Nat.le_refl _), List.getElem_set_self])
          have HXD3 : Hid ((xs.set k x).drop (j + 1) = l.drop (j + 1)) := Lib.hid (by rw [List.drop_set_of_lt (by omega)]; exact HXD2.out)
          clear o3 i3 t3 hy
          go_wp2
          go_roundw
          case rel => exact ⟨k + 1, j + 1, xs.set k x, by omega, by omega, by omega, by go_num, by go_num, HXN3, HXT3, HXD3, O3.out, I3.out, T3.out⟩
          case measure => simp [intOf]; omega
      · obtain rfl : j = n := by omega
        obtain ⟨zs, z1, z2, z3, z4, z5⟩ := row_zeros (a := some ⟨b, 0, none⟩) (c := c) (lo := lo) (hi := hi) rfl (j - k) k xs wr (by rw [HXN.out]; omega) O1.out I1.out
        have hkl : xs.take k = keepL P l := by have := HXT.out; rw [HN.out, List.take_length] at this; rw [HN.out] at *; exact this
        have hkn : (keepL P l).length = k := by rw [← hkl, List.length_take, HXN.out]; omega
        have HR := Lib.hid (row_take9 z3 z4 (m := k) (by simp only; rw [z1, HXN.out]; omega) ⟨some ⟨b, 0, none⟩, c, keepL P l⟩ (by rw [← hkl, ← z2]))
        have HT := Lib.hid (T1.out.trans z5)
        have HKN := Lib.hid hkn
        have hcl : ∀ ty, (Builtin.clear_ #[22] ty #[.slice (some ⟨b, k, none⟩) (j - k) (c - k)]).run Try.prog wr = .ok (.tuple #[]) (wr.setCells b k (List.replicate (j - k) (.int .i64 0))) := fun ty => by
          have k0 : ∀ i, i < j - k → k + i < xs.length := fun i hi' => by rw [HXN.out]; omega
          have k1 : ∀ i, i < j - k → (wr.cell? ⟨b, k + i, none⟩).isSome = true := fun i hi' => by
            rw [(HWR.out xs (k + i) (k0 i hi') wr O1.out I1.out 0).2.1]; rfl
          have k2 : ∀ i, i < j - k → wr.frozen? ⟨b, k + i, none⟩ = false := fun i hi' => (HWR.out xs (k + i) (k0 i hi') wr O1.out I1.out 0).1
          exact Lib.run_clear_slice wr 22 3 ty (.int .i64 0) Try.underlying22 zeroInt9 rfl rfl b k (j - k) (c - k) (by omega) k1 k2
        have hki : (k : Int) ≤ (j : Int) := by omega
        have hkc : (k : Int) < (c : Int) := by omega
        have hkc2 : ¬ (c = k) := by omega
        clear z1 z2 z3 z4 z5 hkl hkn
        go_wp2_with (simp only [hcl])
        go_ret
        exact ⟨⟨some ⟨b, 0, none⟩, c, keepL P l⟩, by rw [HKN.out]; rfl, rfl, HR.out.1, HR.out.2, HT.out⟩
end Go.Proofs.Ytfiijfgclfoeoaa
