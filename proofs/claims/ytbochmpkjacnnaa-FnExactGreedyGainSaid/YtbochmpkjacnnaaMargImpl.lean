/- The marginal gain on the program's side. Condition: a valid Field and worth, a list of its sites that is not nil, a site. -/
import Derived.Test.YtbochmpkjacnnaaMarg
import Derived.Deep.AppendLies
namespace Go.Proofs.Ytbochmpkjacnnaa
open Go.RowKit Go.Shelf

theorem owns_low {w : World} {B B' : Nat} {e : TypeId} {v : Value} {n : Nat} {xs : List Value} (h : w.ownsRow B e 1 v n xs) (hB : B' ≤ B) : w.ownsRow B' e 1 v n xs := by
  obtain ⟨h1, h2⟩ := id h
  refine ⟨h1, ?_⟩
  rcases h2 with h2 | ⟨g, cap, cur, rfl, hb, r⟩
  · exact .inl h2
  · exact .inr ⟨g, cap, cur, rfl, Nat.le_trans hB hb, r⟩
theorem one_on {W u1 : World} {x : Value} {e : TypeId} (hb : Below (W.alloc (.cells #[x] e)).heap.size (W.alloc (.cells #[x] e)) u1) : ∀ j u, [x][j]? = some u → u1.cell? ((⟨W.heap.size, 0, none⟩ : Addr).add j) = some u := by
  intro j u hj
  have h0 := one_cell W x e j u hj
  match j, hj with
  | 0, hj => exact (hb.cell (p := (⟨W.heap.size, 0, none⟩ : Addr).add 0) (by simp [Addr.add])).trans h0
theorem one_onD {W u1 : World} {x : Value} {e : TypeId} (hb : Below (W.alloc (.cells #[x] e)).drew.heap.size (W.alloc (.cells #[x] e)).drew u1) : ∀ j u, [x][j]? = some u → u1.cell? ((⟨W.heap.size, 0, none⟩ : Addr).add j) = some u :=
  one_on ((Below.refl (W.alloc (.cells #[x] e)).heap.size (W.alloc (.cells #[x] e))).drew.trans hb)
set_option maxRecDepth 16000 in
set_option maxHeartbeats 1500000 in
theorem marginal_any (F : Fld) (u : Int) (s : Row) (T : List Nat) (i : Nat) (w : World) (hF : F.At w) (hs : s.At w) (hn : s.a ≠ none) (hf : Worthy F u s T) (hT : T.length ≤ 100) (hi' : i < F.o.l.length) :
    Calls Try.prog 60 #[.agg #[.slice F.o.a F.o.l.length F.o.c, .slice F.t.a F.t.R.length F.t.c, .int .i64 u], .slice s.a s.l.length s.c, .int .i64 i] w fun e w' => e = .returned (.int .i64 (moreT F u T i)) ∧ Below w.heap.size w w' := by
  obtain ⟨i0, hi, hz0, hz1, hz2⟩ := info_parts infoInt
  obtain ⟨wA, hA, hbA, bx, hFA, hszA⟩ := laid_val F u w 50 hF
  have HA := Lib.hid hA
  have b1 := gainT_bound hf.good T
  have b2 := gainT_bound hf.good (T ++ [i])
  obtain ⟨x, hx⟩ : ∃ x, x = gainT F u (T ++ [i]) := ⟨_, rfl⟩
  obtain ⟨y, hy⟩ : ∃ y, y = gainT F u T := ⟨_, rfl⟩
  have HM : Hid (moreT F u T i = x - y) := Lib.hid (by rw [hx, hy]; rfl)
  have hF1 := hF.on hbA
  have hs1 := hs.on hbA
  have hsn : s.l.length = T.length := by rw [hf.set, up_length]
  obtain ⟨n, hn'⟩ : ∃ n, n = T.length := ⟨_, rfl⟩
  have hn100 : n ≤ 100 := by omega
  have CC := Lib.hid (fun W (h : Below wA.heap.size wA W) => (by
    have := cloneW_any s W (hs1.on h) hn (by omega)
    rw [hf.set, up_length, ← hn', ← hf.set] at this
    exact this.mono (fun e w' ⟨v', h1, h2, h3⟩ => ⟨v', h1, owns_low h2 h.size, h3⟩) : Calls Try.prog 78 #[.slice s.a n s.c] W fun e w' => ∃ v', e = .returned v' ∧ w'.ownsRow wA.heap.size 3 1 v' n (iv s.l) ∧ Below W.heap.size W w'))
  have C1 := Lib.hid (fun W (h : Below wA.heap.size wA W) (v : Value) (hv : ∃ t : Row, v = .slice t.a t.l.length t.c ∧ t.l = up (T ++ [i]) ∧ t.At W) => (by
    obtain ⟨t, rfl, htl, hta⟩ := hv
    have := gain_any F u t (T ++ [i]) W (hF1.on h) hta (hf.snoc hi' hT htl (List.Perm.refl _))
    rw [← hx] at this
    exact this : Calls Try.prog 66 #[.agg #[.slice F.o.a F.o.l.length F.o.c, .slice F.t.a F.t.R.length F.t.c, .int .i64 u], v] W fun e w' => e = .returned (.int .i64 x) ∧ Below W.heap.size W w'))
  have C2 := Lib.hid (fun W (h : Below wA.heap.size wA W) => (by
    have := gain_any F u s T W (hF1.on h) (hs1.on h) hf
    rw [← hy, hsn, ← hn'] at this
    exact this : Calls Try.prog 66 #[.agg #[.slice F.o.a F.o.l.length F.o.c, .slice F.t.a F.t.R.length F.t.c, .int .i64 u], .slice s.a n s.c] W fun e w' => e = .returned (.int .i64 y) ∧ Below W.heap.size W w'))
  have HROW : Hid (∀ (W W' : World) (v : Value) (B : Nat), W'.ownsRow B 3 1 v (n + 1) (iv s.l ++ [.int .i64 i]) → ∃ t : Row, v = .slice t.a t.l.length t.c ∧ t.l = up (T ++ [i]) ∧ t.At W') := Lib.hid fun W W' v B h => by
    have e : iv s.l ++ [.int .i64 i] = iv (up (T ++ [i])) := by rw [hf.set, ← up_snocM]; simp [iv]
    rw [e] at h
    have hl : n + 1 = (up (T ++ [i])).length := by rw [up_length, List.length_append, hn']; rfl
    rw [hl] at h
    obtain ⟨t, h1, h2, _, h4⟩ := row_of_own h
    exact ⟨t, h1, h2, h4.at⟩
  have HB0 : Hid (Below w.heap.size w wA) := Lib.hid hbA
  rw [← hx] at b2
  rw [← hy] at b1
  have e1 : -9223372036854775808 ≤ x - y := by omega
  have e2 : x - y ≤ 9223372036854775807 := by omega
  have HS : Hid (∀ U, Below wA.heap.size wA U → ((U.cell? ⟨w.heap.size, 0, none⟩ = some (.slice F.o.a F.o.l.length F.o.c) ∧ U.cell? ⟨w.heap.size, 1, none⟩ = some (.slice F.t.a F.t.R.length F.t.c) ∧ U.cell? ⟨w.heap.size, 2, none⟩ = some (.int .i64 u)) ∧ Below wA.heap.size wA U)) := Lib.hid fun U hu => ⟨⟨(bx.on hu).c0, (bx.on hu).c1, (bx.on hu).c2⟩, hu⟩
  have HAL : Hid (∀ U o, Below wA.heap.size wA U → Below wA.heap.size wA (U.alloc o)) := Lib.hid fun U o hu => hu.alloc hu.size o
  have HGR : Hid (∀ (U U' : World) (v : Value) (B : Nat) (xs : List Value) (m : Nat), U.grownBy U' v.ownBlock → Below wA.heap.size wA U → U.ownsRow B 3 1 v m xs → wA.heap.size ≤ B → Below wA.heap.size wA U') := Lib.hid fun U U' v B xs m hg hu ho hB => hu.grown hg hu.size (fun j hj => Nat.le_trans hB (ho.lt j hj).1)
  have s0 := HS.out wA.drew (Below.refl _ _).drew
  rw [hsn, ← hn']
  clear hszA hF hs hn hf hi' bx hFA hA hx hy hF1 hs1 hbA b1 b2 hsn hn' hT
  go_enter Try.func60, Try.ntmps60
  go_wp2_with fail
  rw [← HA.out]
  go_region_held3 (fun U => ((U.cell? ⟨w.heap.size, 0, none⟩ = some (.slice F.o.a F.o.l.length F.o.c) ∧ U.cell? ⟨w.heap.size, 1, none⟩ = some (.slice F.t.a F.t.R.length F.t.c) ∧ U.cell? ⟨w.heap.size, 2, none⟩ = some (.int .i64 u)) ∧ Below wA.heap.size wA U)) (first | exact s0 | exact HS.out _ (by assumption) | exact HS.out _ (HAL.out _ _ (by assumption)) | exact HS.out _ (HAL.out _ _ (by exact And.right (by assumption))) | exact HS.out _ (HAL.out _ _ (Below.refl _ _)).drew) (first
    | (go_at_call 78; refine (show Calls _ _ _ _ _ from CC.out _ (by first | assumption | exact And.right (by assumption))).mono ?_; rintro e u1 ⟨vc, rfl, hoc, hb1⟩; have hB1 : Below wA.heap.size wA u1 := Below.trans (show Below wA.heap.size wA _ by first | assumption | exact And.right (by assumption)) (hb1.mono (Below.size (show Below wA.heap.size wA _ by first | assumption | exact And.right (by assumption)))); have hzu := Below.size (show Below wA.heap.size wA _ by first | assumption | exact And.right (by assumption)))
    | (refine step_append_lies _ rfl (.tmp 9) (.tmp 11) 22 rfl wA.heap.size 3 i0 (.int .i64 0) 1 8 Try.underlying22 hi hz0 hz1 hz2 rfl (by decide) _ _ _ rfl (by first | exact hoc | exact hoc.alloc _ | exact owns_below hoc (by assumption) | exact (owns_below hoc (by assumption)).alloc _) _ 1 1 [.int .i64 (i : Int)] rfl rfl (by first | exact one_cell _ _ _ | exact one_onD hb1 | exact one_on hb1 | exact one_on (hb1.trans (hb2.mono hb1.size)) | exact one_onD (hb1.trans (hb2.mono hb1.size)) | exact one_onD (hb2.trans (hb1.mono hb2.size)) | exact one_on (hb2.trans (hb1.mono hb2.size))) (by simp [Value.oneCell']) (by omega) (by unfold maxLen; omega) (by omega) (by first | omega | (simp; omega)) _ rfl ?_; intro g cap w1 hown' hgrow hat hlt1; have hB3 : Below wA.heap.size wA w1 := HGR.out _ _ _ _ _ _ hgrow (by first | assumption | exact And.right (by assumption) | exact HAL.out _ _ (by assumption) | exact HAL.out _ _ (And.right (by assumption))) (by first | exact hoc | exact hoc.alloc _ | exact owns_below hoc (by assumption) | exact (owns_below hoc (by assumption)).alloc _) (Nat.le_refl _); have HTA := Lib.hid (HROW.out w1 w1 _ _ hown'))
    | (go_at_call 66; with_reducible change Calls _ _ #[_, .slice s.a n s.c] _ _; refine (show Calls _ _ _ _ _ from C2.out _ (by first | assumption | exact And.right (by assumption))).mono ?_; rintro e u2 ⟨rfl, hb2⟩; have hB2 : Below wA.heap.size wA u2 := Below.trans (show Below wA.heap.size wA _ by first | assumption | exact And.right (by assumption)) (hb2.mono (Below.size (show Below wA.heap.size wA _ by first | assumption | exact And.right (by assumption)))))
    | (go_at_call 66; refine (show Calls _ _ _ _ _ from C1.out _ (by first | assumption | exact And.right (by assumption)) _ HTA.out).mono ?_; rintro e u3 ⟨rfl, hb3⟩; have hB4 : Below wA.heap.size wA u3 := Below.trans (show Below wA.heap.size wA _ by first | assumption | exact And.right (by assumption)) (hb3.mono (Below.size (show Below wA.heap.size wA _ by first | assumption | exact And.right (by assumption))))))
  all_goals
    refine at_exit (W := wA) (by first | assumption | exact And.right (by assumption)) ?_
    intro W8 hb8
    have hw : IntKind.i64.wrap (x - y) = x - y := IntWalk.i64_in _ (by omega)
    go_wp2
    go_ret
    exact ⟨by rw [HM.out]; exact congrArg (fun z => Ending.returned (.int .i64 z)) hw, HB0.out.trans (hb8.mono HB0.out.size)⟩
end Go.Proofs.Ytbochmpkjacnnaa
