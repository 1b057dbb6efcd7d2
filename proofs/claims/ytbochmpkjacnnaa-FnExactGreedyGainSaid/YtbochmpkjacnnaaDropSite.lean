/- slices.DeleteFunc of a site that occurs, in a list of the call's own. Condition: no number occurs twice, at most seven. -/
import Derived.Test.YtbochmpkjacnnaaWrite
import Derived.Test.YtbochmpkjacnnaaSysMem
import Derived.Lib.SliceRun
namespace Go.Proofs.Ytbochmpkjacnnaa
open Go.RowKit

theorem zeroInt1 (u : World) : (zeroValue 3).run Try.prog u = .ok (.int .i64 0) u := by kernel_rfl

set_option maxHeartbeats 1000000 in
theorem isSite_any (g : Nat) (s y : Int) (w : World) (hg : w.cell? ⟨g, 0, none⟩ = some (.int .i64 s)) :
    Calls Try.prog 80 #[.int .i64 y, .pointer (some ⟨g, 0, none⟩)] w fun e w' => e = .returned (.bool (y == s)) ∧ w' = w := by
  go_enter Try.func80, Try.ntmps80
  go_wp2
  go_ret
  exact ⟨rfl, rfl⟩

set_option maxRecDepth 16000 in
set_option maxHeartbeats 1000000 in
theorem indexSite_any (r : Row) (g p : Nat) (s : Int) (w : World) (hr : r.At w) (hg : w.cell? ⟨g, 0, none⟩ = some (.int .i64 s)) (hp : p < r.l.length) (hps : r.l[p] = s) (hno : ∀ j (h : j < p), r.l[j]'(by omega) ≠ s) :
    Calls Try.prog 94 #[.slice r.a r.l.length r.c, .func (.func 80) #[] #[.pointer (some ⟨g, 0, none⟩)]] w fun e w' => e = .returned (.int .i64 (p : Int)) ∧ w' = w := by
  obtain ⟨a, c, l⟩ := r
  obtain ⟨h1, h2, h3⟩ := hr
  simp only at h1 h2 h3 hp hps hno ⊢
  rw [iv_length] at h1
  unfold maxLen at h2
  have hni : (l.length : Int) ≤ 9223372036854775807 := by omega
  rcases h3 with h3 | ⟨b, o, rfl, hb, hcell⟩
  · have h3' := congrArg List.length (iv_nil h3); rw [List.length_nil] at h3'; omega
  have HC := Lib.hid hcell
  have CO := Lib.hid fun x => isSite_any g s x w hg
  have HPS := Lib.hid hps
  have HNO := Lib.hid hno
  clear hcell hg hb hps hno
  show Calls _ _ #[_, .func (.func 80) #[] #[.pointer (some ⟨g, 0, none⟩)]] _ _
  go_enter Try.func94, Try.ntmps94
  go_wp2
  go_loopw [8] (fun i wr => ∃ k : Nat, k ≤ p ∧ i = .int .i64 k ∧ w = wr) (fun i _ => l.length - (intOf i).toNat)
  case atStart => exact ⟨0, Nat.zero_le _, rfl, rfl⟩
  case round =>
    obtain ⟨k, hk, rfl, rfl⟩ := hrel
    have hlt : k < l.length := by omega
    have hlti : (k : Int) < (l.length : Int) := by omega
    obtain ⟨x, hx⟩ : ∃ x, x = l[k] := ⟨_, rfl⟩
    have hcl : w.cell? ⟨b, o + k, none⟩ = some (.int .i64 x) := by rw [hx]; exact HC.out k _ (iv_at hlt)
    by_cases he : k = p
    · have ci1 := Lib.hid (by have := CO.out x; rw [show (x == s) = true by subst he; rw [hx, HPS.out]; simp] at this; exact this : Calls Try.prog 80 #[.int .i64 x, .pointer (some ⟨g, 0, none⟩)] w fun e w' => e = .returned (.bool true) ∧ w' = w)
      have HE : Hid (k = p) := Lib.hid he
      clear hx he
      go_wp2_with fail
      refine ci1.out.mono ?_
      rintro e W ⟨rfl, rfl⟩
      go_wp2
      go_ret
      exact ⟨by rw [HE.out]; rfl, rfl⟩
    · have ci1 := Lib.hid (by have := CO.out x; rw [show (x == s) = false by rw [hx]; exact beq_false_of_ne (HNO.out k (by omega))] at this; exact this : Calls Try.prog 80 #[.int .i64 x, .pointer (some ⟨g, 0, none⟩)] w fun e w' => e = .returned (.bool false) ∧ w' = w)
      have hkp : k + 1 ≤ p := by omega
      clear hx he
      go_wp2_with fail
      refine ci1.out.mono ?_
      rintro e W ⟨rfl, rfl⟩
      go_wp2
      go_roundw
      case rel => exact ⟨k + 1, hkp, by go_num, by first | rfl | trivial⟩
      case measure => simp [intOf]; omega

/-- A list that is closed up behind the place p, as far as the place d. -/
def sh (l : List Int) (p d : Nat) : List Int := (l.eraseIdx p).take (d - 1) ++ l.drop (d - 1)
theorem sh_start {l : List Int} {p : Nat} (h : p < l.length) : sh l p (p + 1) = l := by
  unfold sh
  rw [Nat.add_sub_cancel, List.eraseIdx_eq_take_drop_succ, List.take_append_of_le_length (by rw [List.length_take]; omega), List.take_take, Nat.min_self, List.take_append_drop]
theorem sh_len {l : List Int} {p d : Nat} (hp : p < l.length) (hd : d ≤ l.length) : (sh l p d).length = l.length := by
  unfold sh
  rw [List.length_append, List.length_take, List.length_drop, List.length_eraseIdx, if_pos hp]; omega
theorem sh_at {l : List Int} {p d : Nat} (hp : p < l.length) (h1 : 1 ≤ d) (hd : d < l.length) : (sh l p d)[d]'(by rw [sh_len hp (by omega)]; exact hd) = l[d] := by
  have h2 : ((l.eraseIdx p).take (d - 1)).length = d - 1 := by rw [List.length_take, List.length_eraseIdx, if_pos hp]; omega
  unfold sh
  rw [List.getElem_append_right (by omega), List.getElem_drop]
  congr 1; omega
theorem sh_set {l : List Int} {p d : Nat} (hp : p < d) (hd : d < l.length) : (sh l p d).set (d - 1) l[d] = sh l p (d + 1) := by
  have h2 : ((l.eraseIdx p).take (d - 1)).length = d - 1 := by rw [List.length_take, List.length_eraseIdx, if_pos (by omega)]; omega
  have h3 : d - 1 < (l.eraseIdx p).length := by rw [List.length_eraseIdx, if_pos (by omega)]; omega
  have h4 : (l.eraseIdx p)[d - 1] = l[d] := by
    rw [List.getElem_eraseIdx_of_ge h3 (by omega)]
    congr 1; omega
  unfold sh
  rw [List.set_append_right _ _ (by omega), h2, Nat.sub_self, Nat.add_sub_cancel, show (l.eraseIdx p).take d = (l.eraseIdx p).take (d - 1) ++ [l[d]] by
    rw [← h4, List.take_append_getElem h3, Nat.sub_add_cancel (by omega)], List.append_assoc]
  congr 1
  rw [List.drop_eq_getElem_cons (by omega), List.set_cons_zero, Nat.sub_add_cancel (by omega)]
  rfl
theorem sh_end {l : List Int} {p : Nat} (hp : p < l.length) (x : Int) : ((sh l p l.length).set (l.length - 1) x).take (l.length - 1) = l.eraseIdx p := by
  have h2 : (l.eraseIdx p).length = l.length - 1 := by rw [List.length_eraseIdx, if_pos hp]
  rw [List.take_set_of_le (Nat.le_refl _)]
  unfold sh
  rw [List.take_append_of_le_length (by rw [List.length_take, h2]; omega), List.take_take, Nat.min_self, List.take_of_length_le (by omega)]

theorem owns_take {w : World} {B : Nat} {e : TypeId} {g c n m : Nat} {xs : List Value} (h : w.ownsRow B e 1 (.slice (some ⟨g, 0, none⟩) n c) n xs) (hm : m ≤ n) : w.ownsRow B e 1 (.slice (some ⟨g, 0, none⟩) m c) m (xs.take m) := by
  obtain ⟨h1, h2⟩ := h
  refine ⟨by rw [List.length_take]; omega, ?_⟩
  rcases h2 with ⟨h2, _⟩ | ⟨g', cap, cur, e1, hB, hg, hl, hm1, hs, ht⟩
  · cases h2
  · simp only [Value.slice.injEq, Option.some.injEq, Addr.mk.injEq, and_true, true_and] at e1
    obtain ⟨rfl, rfl⟩ := e1
    refine .inr ⟨g, c, cur, rfl, hB, hg, by omega, hm1, hs, ?_⟩
    rw [← ht, List.take_take]; congr 1; omega
theorem row_take {r : Row} {lo hi m : Nat} {w : World} (ho : r.Own 3 w) (hi' : r.In lo hi w) (hm : m ≤ r.l.length) (t : Row) (ht : t = ⟨r.a, r.c, r.l.take m⟩) : t.Own 3 w ∧ t.In lo hi w := by
  subst ht
  have hl : (r.l.take m).length = m := by rw [List.length_take]; omega
  by_cases h0 : r.l.take m = []
  · exact ⟨.inl h0, by have := hi'.1; rw [iv_length] at this; exact ⟨by rw [iv_length]; simp only; omega, hi'.2.1, .inl (by simp only; rw [h0]; rfl)⟩⟩
  · have hne : r.l ≠ [] := fun h => h0 (by rw [h]; exact List.take_nil)
    obtain ⟨g, hga, hown⟩ := ho.resolve_left hne
    have h1 := owns_take hown hm
    refine ⟨.inr ⟨g, hga, ?_⟩, ?_⟩
    · simp only
      rw [hl, show iv (r.l.take m) = (iv r.l).take m by unfold iv; rw [List.map_take]]
      exact h1
    · obtain ⟨q1, q2, q3⟩ := hi'
      rw [iv_length] at q1
      refine ⟨by rw [iv_length]; simp only; omega, q2, ?_⟩
      rcases q3 with q3 | ⟨b, o, e, a1, a2, a3, a4⟩
      · exact absurd (iv_nil q3) hne
      · refine .inr ⟨b, o, e, a1, a2, a3, fun j x hj => a4 j x ?_⟩
        simp only [iv, List.map_take] at hj
        rw [List.getElem?_take] at hj
        split at hj
        · exact hj
        · cases hj
set_option maxRecDepth 16000 in
set_option maxHeartbeats 1500000 in
theorem deleteSite_any (r : Row) (lo hi g p : Nat) (s : Int) (w : World) (ho : r.Own 3 w) (hI : r.In lo hi w) (hg : w.cell? ⟨g, 0, none⟩ = some (.int .i64 s)) (hgl : g < lo ∨ hi ≤ g) (hgw : g < w.heap.size) (hp : p < r.l.length) (hps : r.l[p] = s) (hnd : r.l.Nodup) (hm : r.l.length ≤ 7) :
    Calls Try.prog 79 #[.slice r.a r.l.length r.c, .func (.func 80) #[] #[.pointer (some ⟨g, 0, none⟩)]] w fun e w' => ∃ t : Row, e = .returned (.slice t.a t.l.length t.c) ∧ t.l = r.l.eraseIdx p ∧ t.Own 3 w' ∧ t.In lo hi w' ∧ Touch lo hi w w' := by
  have hpw := List.pairwise_iff_getElem.1 (show r.l.Pairwise (· ≠ ·) from hnd)
  have hno : ∀ j (h : j < p), r.l[j]'(by omega) ≠ s := fun j h e => hpw j p (by omega) hp h (by rw [e, hps])
  have hno2 : ∀ j (h1 : p < j) (h : j < r.l.length), r.l[j] ≠ s := fun j h1 h e => hpw p j hp h h1 (by rw [e, hps])
  clear hpw
  have CI := Lib.hid (indexSite_any r g p s w hI.at hg hp hps hno)
  obtain ⟨a, c, l⟩ := r
  simp only at hp hm hps hno2 CI ⊢
  have hne : l ≠ [] := fun h => by rw [h] at hp; simp at hp
  obtain ⟨b, hb, hob⟩ := ho.resolve_left hne
  simp only at hb
  subst hb
  obtain ⟨q1, q2, -⟩ := id hI
  simp only [iv_length] at q1 q2
  obtain ⟨n, hn⟩ : ∃ n, n = l.length := ⟨_, rfl⟩
  have hnc : (n : Int) ≤ (c : Int) := by omega
  have hpi : (p : Int) < (n : Int) := by omega
  have hni : (n : Int) ≤ 7 := by omega
  -- what a row that is closed up so far gives
  have HR := Lib.hid (fun (k : Nat) (hk : p ≤ k) (hkn : k < n) (W : World) (o1 : (Row.mk (some ⟨b, 0, none⟩) c (sh l p (k + 1))).Own 3 W) (i1 : (Row.mk (some ⟨b, 0, none⟩) c (sh l p (k + 1))).In lo hi W) (x : Int) => (show
      W.frozen? ⟨b, k, none⟩ = false ∧ (∃ v, W.cell? ⟨b, k, none⟩ = some v) ∧ (Row.mk (some ⟨b, 0, none⟩) c ((sh l p (k + 1)).set k x)).Own 3 (W.setCell ⟨b, k, none⟩ (.int .i64 x)) ∧ (Row.mk (some ⟨b, 0, none⟩) c ((sh l p (k + 1)).set k x)).In lo hi (W.setCell ⟨b, k, none⟩ (.int .i64 x)) ∧ Touch lo hi W (W.setCell ⟨b, k, none⟩ (.int .i64 x)) from by
    obtain ⟨g', e1, h1, h2, h3, h4, h5, h6, h7, h8⟩ := row_write o1 i1 (a := k) (by simp only; rw [sh_len hp (by omega)]; omega) x
    simp only [Option.some.injEq, Addr.mk.injEq, and_true] at e1
    subst e1
    exact ⟨h4, ⟨_, h5⟩, h6, h7, h8.touch i1⟩))
  have HC := Lib.hid (fun (k : Nat) (hk : p ≤ k) (hkn : k + 1 < n) (W : World) (o1 : (Row.mk (some ⟨b, 0, none⟩) c (sh l p (k + 1))).Own 3 W) (i1 : (Row.mk (some ⟨b, 0, none⟩) c (sh l p (k + 1))).In lo hi W) => (show
      W.cell? ⟨b, k + 1, none⟩ = some (.int .i64 (l.getD (k + 1) 0)) from by
    obtain ⟨g', e1, h1, h2, h3, h4, h5, -⟩ := row_write o1 i1 (a := k + 1) (by simp only; rw [sh_len hp (by omega)]; omega) 0
    simp only [Option.some.injEq, Addr.mk.injEq, and_true] at e1
    subst e1
    simp only at h5
    rw [sh_at hp (by omega) (by omega)] at h5
    rw [h5, List.getD_eq_getElem?_getD, List.getElem?_eq_getElem (by omega)]; rfl))
  have HNO := Lib.hid (fun (k : Nat) (hk : p ≤ k) (hkn : k + 1 < n) => (show ((l.getD (k + 1) 0) == s) = false from by
    rw [List.getD_eq_getElem?_getD, List.getElem?_eq_getElem (by omega)]
    exact beq_false_of_ne (hno2 _ (by omega) (by omega))))
  have HSET := Lib.hid (fun (k : Nat) (hk : p ≤ k) (hkn : k + 1 < n) => (show (sh l p (k + 1)).set k (l.getD (k + 1) 0) = sh l p (k + 1 + 1) from by
    have := sh_set (l := l) (p := p) (d := k + 1) (by omega) (by omega)
    rw [Nat.add_sub_cancel] at this
    rw [← this, List.getD_eq_getElem?_getD, List.getElem?_eq_getElem (by omega)]; rfl))
  have HG := Lib.hid (fun W (h : Touch lo hi w W) => (h.cell (p := ⟨g, 0, none⟩) hgw (by simp only; omega)).trans hg)
  have CO := Lib.hid (fun x W (h : Touch lo hi w W) => isSite_any g s x W (HG.out W h))
  have H0o : Hid ((Row.mk (some ⟨b, 0, none⟩) c (sh l p (p + 1))).Own 3 w) := Lib.hid (by rw [sh_start hp]; exact ho)
  have H0i : Hid ((Row.mk (some ⟨b, 0, none⟩) c (sh l p (p + 1))).In lo hi w) := Lib.hid (by rw [sh_start hp]; exact hI)
  have HEND := Lib.hid (fun (W : World) (k : Nat) (hk : k + 1 = n) (o1 : (Row.mk (some ⟨b, 0, none⟩) c ((sh l p (k + 1)).set k 0)).Own 3 W) (i1 : (Row.mk (some ⟨b, 0, none⟩) c ((sh l p (k + 1)).set k 0)).In lo hi W) => (show
      (Row.mk (some ⟨b, 0, none⟩) c (l.eraseIdx p)).Own 3 W ∧ (Row.mk (some ⟨b, 0, none⟩) c (l.eraseIdx p)).In lo hi W from by
    refine row_take o1 i1 (m := k) (by simp only; rw [List.length_set, sh_len hp (by omega)]; omega) _ ?_
    have := sh_end hp 0
    rw [← hn, ← hk, Nat.add_sub_cancel] at this
    rw [← this]))
  have HLE : Hid (∀ k, k + 1 = n → k = (l.eraseIdx p).length) := Lib.hid fun k hk => by rw [List.length_eraseIdx, if_pos hp]; omega
  have hp' : p < n := by omega
  have hnc' : n ≤ c := by omega
  rw [← hn] at CI ⊢
  clear hI ho hob hno hno2 hps hnd hg hgl hgw hn hne hp q1 q2
  show Calls _ _ #[_, .func (.func 80) #[] #[.pointer (some ⟨g, 0, none⟩)]] _ _
  go_enter Try.func79, Try.ntmps79
  go_wp2_with fail
  refine (show Calls _ _ _ _ _ from CI.out).mono ?_
  rintro e W ⟨rfl, rfl⟩
  have hpe : ((p : Int) == -1) = false := beq_false_of_ne (by omega)
  go_wp2
  go_loopw [5, 6, 7] (fun ik jk _ wr => ∃ k j : Nat, j = k + 1 ∧ p ≤ k ∧ k < n ∧ ik = .int .i64 (k : Int) ∧ jk = .int .i64 (j : Int) ∧ (Row.mk (some ⟨b, 0, none⟩) c (sh l p (k + 1))).Own 3 wr ∧ (Row.mk (some ⟨b, 0, none⟩) c (sh l p (k + 1))).In lo hi wr ∧ Touch lo hi W wr) (fun _ jk _ _ => n - (intOf jk).toNat)
  case atStart => exact ⟨p, p + 1, rfl, Nat.le_refl _, by omega, rfl, by go_num, H0o.out, H0i.out, Touch.refl _ _ _⟩
  case round =>
    obtain ⟨k, j, hj, hk, hkn, rfl, rfl, o1, i1, t1⟩ := hrel
    have HJ := Lib.hid hj
    have O1 := Lib.hid o1
    have I1 := Lib.hid i1
    have T1 := Lib.hid t1
    have hjk : j ≤ k + 1 := by omega
    have hkj : k + 1 ≤ j := by omega
    clear hj o1 i1 t1 hpe
    by_cases hlt : j < n
    · have hlti : (j : Int) < (n : Int) := by omega
      have hki : (k : Int) < (n : Int) := by omega
      obtain ⟨x, hx⟩ : ∃ x, x = l.getD (k + 1) 0 := ⟨_, rfl⟩
      obtain ⟨f1, ⟨v1, c1⟩, o2, i2, t2⟩ := HR.out k hk hkn wr O1.out I1.out x
      have cj : wr.cell? ⟨b, j, none⟩ = some (.int .i64 x) := by rw [HJ.out, hx]; exact HC.out k hk (by omega) wr O1.out I1.out
      have ci1 := Lib.hid (by have := CO.out x wr T1.out; rw [hx, HNO.out k hk (by omega), ← hx] at this; exact this : Calls Try.prog 80 #[.int .i64 x, .pointer (some ⟨g, 0, none⟩)] wr fun e w' => e = .returned (.bool false) ∧ w' = wr)
      have O2 := Lib.hid (by rw [hx, HSET.out k hk (by omega), ← hx] at o2; exact o2)
      have I2 := Lib.hid (by rw [hx, HSET.out k hk (by omega), ← hx] at i2; exact i2)
      have T2 := Lib.hid (T1.out.trans t2)
      clear hx o2 i2 t2
      go_wp2_with fail
      refine ci1.out.mono ?_
      rintro e W2 ⟨rfl, rfl⟩
      go_wp2
      go_roundw
      case rel => exact ⟨k + 1, j + 1, by omega, by omega, by omega, by go_num, by go_num, O2.out, I2.out, T2.out⟩
      case measure => simp [intOf]; omega
    · obtain ⟨f1, ⟨v1, c1⟩, o2, i2, t2⟩ := HR.out k hk hkn wr O1.out I1.out 0
      have hkn1 : k + 1 = n := by omega
      have hjn : j ≤ n := by omega
      have F := Lib.hid (HEND.out _ k hkn1 o2 i2)
      have T2 := Lib.hid (T1.out.trans t2)
      have HL := Lib.hid (HLE.out k hkn1)
      have hcl : ∀ ty, (Builtin.clear_ #[22] ty #[.slice (some ⟨b, k, none⟩) (n - k) (c - k)]).run Try.prog wr = .ok (.tuple #[]) (wr.setCell ⟨b, k, none⟩ (.int .i64 0)) := fun ty => by
        rw [show n - k = 1 by omega]
        have k1 : ∀ i, i < 1 → (wr.cell? ⟨b, k + i, none⟩).isSome = true := fun i hi => by
          obtain rfl : i = 0 := by omega
          rw [Nat.add_zero, c1]; rfl
        have k2 : ∀ i, i < 1 → wr.frozen? ⟨b, k + i, none⟩ = false := fun i hi => by
          obtain rfl : i = 0 := by omega
          rw [Nat.add_zero]; exact f1
        exact Lib.run_clear_slice wr 22 3 ty (.int .i64 0) Try.underlying22 zeroInt1 rfl rfl b k 1 (c - k) (by omega) k1 k2
      have hki : (k : Int) ≤ (n : Int) := by omega
      have hkc : (k : Int) < (c : Int) := by omega
      have hkc2 : ¬ (c = k) := by omega
      clear o2 i2 t2 hkn1
      go_wp2_with (simp only [hcl])
      go_ret
      exact ⟨⟨some ⟨b, 0, none⟩, c, l.eraseIdx p⟩, by rw [HL.out]; rfl, rfl, F.out.1, F.out.2, T2.out⟩

end Go.Proofs.Ytbochmpkjacnnaa
