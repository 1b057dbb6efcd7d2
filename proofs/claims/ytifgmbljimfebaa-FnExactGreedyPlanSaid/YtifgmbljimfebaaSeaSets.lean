/- The model's list of all sets of a Season's sites, that without sites first. Condition: a valid Season. -/
import Derived.Test.YtifgmbljimfebaaChoices
import Derived.Test.YtifgmbljimfebaaEigSetsOf
import Derived.Test.YtifgmbljimfebaaSeaGood
import Derived.Lib.SliceRun
import Derived.Lib.AppendZeros
namespace Go.Proofs.Ytifgmbljimfebaa
open Go.RowKit Go.Shelf

set_option maxRecDepth 100000 in
/-- Rows that are appended to an own table, at least one of them. -/
theorem append_tabS (B : Nat) (v : Value) (n : Nat) (xs : List Value) (w : World) (hown : w.ownsRow B 22 1 v n xs) (a : Option Addr) (c m : Nat) (news : List Value) (hm : m = news.length) (hn : news ≠ []) (hx : RowAt w a c news) (h1 : ∀ u ∈ news, u.oneCell' = true)
    (hb : n + m ≤ 100000) (hB : B ≤ w.heap.size) : ∃ v' w', (Builtin.append_ #[26, 26] 26 #[v, .slice a m c]).run Try.prog w = .ok v' w' ∧ w'.ownsRow B 22 1 v' (n + m) (xs ++ news) ∧ w.grownBy w' v.ownBlock := by
  obtain ⟨i0, hi, hz0, hz1, hz2⟩ := info_parts infoInts
  subst hm
  obtain ⟨_, _, h3⟩ := hx
  have hp : 0 < news.length := List.length_pos_iff.2 hn
  rcases h3 with h3 | ⟨b, o, rfl, _, h4⟩
  · exact absurd h3 hn
  · obtain ⟨v', w', hr, ho, hg, hv, hl⟩ := run_append_own_at (P := Try.prog) (w := w) B 26 26 22 i0 (.slice none 0 0) 1 24 rfl hi hz0 hz1 hz2 rfl (by decide) v n xs hown ⟨b, o, none⟩ news.length c news (by omega) (fun j u hj => by have h5 := h4 j u hj; by_cases e : j = 0 <;> simp_all [Addr.add]) h1 (by unfold maxLen; omega) (by omega) hB
    exact ⟨v', w', hr, ho, hg⟩

/-- The table of all choices, with rows of its own. -/
structure ChoTab (N B : Nat) (w : World) (g cap : Nat) (Q : List Row) : Prop where
  cell : ∀ k, (hk : k < Q.length) → w.cell? ⟨g, k, none⟩ = some (.slice Q[k].a Q[k].l.length Q[k].c)
  lt : g < w.heap.size
  rows : ∀ r ∈ Q, r.In B w.heap.size w ∧ r.Own 3 w
  row : Q.map Row.l = (choL N N).map up
  cap : Q.length ≤ cap ∧ cap ≤ maxLen
  ge : B ≤ g
theorem ChoTab.on {N B : Nat} {w w' : World} {g cap : Nat} {Q : List Row} (h : ChoTab N B w g cap Q) (t : Below w.heap.size w w') : ChoTab N B w' g cap Q :=
  ⟨fun k hk => (t.cell (p := ⟨g, k, none⟩) h.lt).trans (h.cell k hk), Nat.lt_of_lt_of_le h.lt t.size, fun r hr => ⟨((h.rows r hr).1.on t).wide (Nat.le_refl _) t.size, (h.rows r hr).2.on t⟩, h.row, h.cap, h.ge⟩
theorem ChoTab.len {N B : Nat} {w : World} {g cap : Nat} {Q : List Row} (h : ChoTab N B w g cap Q) : Q.length = (choL N N).length := by
  have := congrArg List.length h.row; rw [List.length_map, List.length_map] at this; exact this
theorem ChoTab.at {N B : Nat} {w : World} {g cap : Nat} {Q : List Row} (h : ChoTab N B w g cap Q) {k : Nat} (hk : k < Q.length) (h2 : k < (choL N N).length) : Q[k].l = up (choL N N)[k] := by
  have h1 : (Q.map Row.l)[k]? = some Q[k].l := by rw [List.getElem?_map, List.getElem?_eq_getElem hk]; rfl
  rw [h.row, List.getElem?_map, List.getElem?_eq_getElem h2] at h1
  simpa using h1.symm
theorem cho_all : ∀ n ≤ 8, (choL n n).all (fun T => setB n (up T) && decide (T.length ≤ 8) && T.all (fun x => decide (x < n))) = true ∧ (choL n n).length ≤ 256 := by decide +kernel
theorem cho_ok {n : Nat} (hn : n ≤ 8) {T : List Nat} (hT : T ∈ choL n n) : setB n (up T) = true ∧ T.length ≤ 8 ∧ ∀ x ∈ T, x < n := by
  have := List.all_eq_true.1 (cho_all n hn).1 T hT
  simpa [and_assoc] using this
/-- The sets that may be open with some clients, in order. -/
def candS (n m : Nat) : List (List Nat) := if m = 0 then choL n n else E8.allSets n
theorem candS_ok {n m : Nat} (hn : n ≤ 8) {T : List Nat} (hT : T ∈ candS n m) : T.length ≤ 8 ∧ (∀ x ∈ T, x < n) ∧ setB n (up T) = true ∧ (0 < T.length ∨ m = 0) := by
  unfold candS at hT
  by_cases h : m = 0
  · rw [if_pos h] at hT
    obtain ⟨h1, h2, h3⟩ := cho_ok hn hT
    exact ⟨h2, h3, h1, .inr h⟩
  · rw [if_neg h] at hT
    have hc : T ∈ choL n n := by unfold choL; rw [E8.preS_all]; exact List.mem_cons_of_mem _ hT
    obtain ⟨h1, h2, h3⟩ := cho_ok hn hc
    have := List.all_eq_true.1 (E8.sets_good n hn).1 T hT
    simp only [Bool.and_eq_true, decide_eq_true_eq] at this
    exact ⟨h2, h3, h1, .inl this.1⟩
theorem allS_some : ∀ n ≤ 8, n = 0 ∨ (E8.allSets n).length ≠ 0 := by decide +kernel
theorem candS_some {n m : Nat} (h1 : 1 ≤ n) (h8 : n ≤ 8) : candS n m ≠ [] := by
  unfold candS
  by_cases h : m = 0
  · rw [if_pos h]; unfold choL; exact List.cons_ne_nil _ _
  · rw [if_neg h]
    intro e
    rcases allS_some n h8 with h2 | h2
    · omega
    · rw [e] at h2; exact h2 rfl
theorem tv_one (R : List Row) : ∀ u ∈ tv R, u.oneCell' = true := fun u hu => by
  unfold tv at hu; obtain ⟨r, _, rfl⟩ := List.mem_map.1 hu; rfl

set_option maxRecDepth 16000 in
set_option maxHeartbeats 2000000 in
theorem l10Sets_any (S : Sea) (n : Nat) (w : World) (hS : S.At w) (hSn : S.o.l.length = n) (h1n : 1 ≤ n) (hn : n ≤ 8) :
    Calls Try.prog 41 #[.agg #[.slice S.o.a S.o.l.length S.o.c, .slice S.x.a S.x.l.length S.x.c, .slice S.k.a S.k.l.length S.k.c, .slice S.r.a S.r.T.length S.r.c]] w fun e w' => ∃ g cap Q, e = .returned (.slice (some ⟨g, 0, none⟩) (choL n n).length cap) ∧ ChoTab n w.heap.size w' g cap Q ∧ Below w.heap.size w w' := by
  obtain ⟨w0, hw0, hb00, bx, hSA, hsz0⟩ := laid_sea S w 31 hS
  obtain ⟨wA, hA⟩ : ∃ wA, wA = (w0.alloc (.cells #[] 3)).alloc (.cells #[.slice (some ⟨w.heap.size + 1, 0, none⟩) 0 0] 22) := ⟨_, rfl⟩
  have hb0A : Below w0.heap.size w0 wA := by rw [hA]; exact ((Below.refl _ w0).alloc (Nat.le_refl _) _).alloc (by simp) _
  have hbA : Below w.heap.size w wA := hb00.trans (hb0A.mono hb00.size)
  have hszA : wA.heap.size = w.heap.size + 1 + 1 + 1 := by rw [hA, size_alloc, size_alloc, hsz0]
  have x0 : wA.cell? ⟨w.heap.size, 0, none⟩ = some (.slice S.o.a n S.o.c) := by rw [← hSn]; exact (bx.on hb0A).c0
  obtain ⟨x, hx⟩ : ∃ x : Row, x = ⟨some ⟨w.heap.size + 1, 0, none⟩, 0, []⟩ := ⟨_, rfl⟩
  have hown0 : wA.ownsRow w.heap.size 22 1 (.slice (some ⟨w.heap.size + 1 + 1, 0, none⟩) 1 1) 1 (tv [x]) := by
    have h1 := heap_alloc_new (w0.alloc (.cells #[] 3)) (.cells #[.slice (some ⟨w.heap.size + 1, 0, none⟩) 0 0] 22)
    rw [size_alloc, hsz0] at h1
    rw [hA, hx]
    exact ⟨by simp [tv], .inr ⟨w.heap.size + 1 + 1, 1, #[.slice (some ⟨w.heap.size + 1, 0, none⟩) 0 0], rfl, by omega, h1, Nat.le_refl _, by decide, rfl, by simp [tv, Row.val]⟩⟩
  have CL := Lib.hid (E8.l2Sets_any n wA hn)
  have HA : Hid (wA = ((w.alloc (Obj.cells #[.slice S.o.a n S.o.c, .slice S.x.a S.x.l.length S.x.c, .slice S.k.a S.k.l.length S.k.c, .slice S.r.a S.r.T.length S.r.c] 31)).alloc (.cells #[] 3)).alloc (.cells #[.slice (some ⟨w.heap.size + 1, 0, none⟩) 0 0] 22)) := Lib.hid (by rw [hA, hw0, hSn])
  have HO := Lib.hid hown0
  have HX := Lib.hid hx
  rw [HA.out] at x0
  rw [hSn]
  clear hA hown0 hx hS hSn hw0 hb00 bx hSA hsz0 hb0A
  go_enter Try.func41, Try.ntmps41
  go_wp2_with fail
  rw [← HA.out]
  refine (show Calls _ _ _ _ _ from CL.out).mono ?_
  rintro e W1 ⟨v, g, cap, Q, rfl, hT, hb1⟩
  have hv := hT.val
  subst hv
  have hown1 := owns_below HO.out hb1
  have hQ := hT.len
  have hcon := hT.con
  rw [E8.sets_all n hn] at hcon
  have hrow : RowAt W1 (some ⟨g, 0, none⟩) cap (tv Q) := by
    have h1 := hT.lt
    refine ⟨by rw [tv_length]; omega, h1.2.2.1, .inr ⟨g, 0, rfl, h1.1, fun j y hj => ?_⟩⟩
    have hjl : j < Q.length := by have := (List.getElem?_eq_some_iff.1 hj).1; rwa [tv_length] at this
    rw [Nat.zero_add, hT.cell hjl]
    rw [tv_at hjl] at hj
    simpa using hj
  have hQl : Q.length ≤ 256 := by
    have := (cho_all n hn).2
    have h2 := congrArg List.length hcon
    rw [List.length_map, List.length_map] at h2
    unfold choL at this
    rw [List.length_cons, E8.preS_all] at this
    omega
  have hQne : tv Q ≠ [] := fun h => by
    have h2 := congrArg List.length h
    rw [tv_length, List.length_nil, hQ] at h2
    have : 2 ≤ 2 ^ n := by
      have := Nat.pow_le_pow_right (show 1 ≤ 2 by decide) h1n
      simpa using this
    omega
  obtain ⟨v', w', hr, ho', hg'⟩ := append_tabS w.heap.size (.slice (some ⟨w.heap.size + 1 + 1, 0, none⟩) 1 1) 1 (tv [x]) W1 hown1 (some ⟨g, 0, none⟩) cap Q.length (tv Q) (tv_length Q).symm hQne hrow (tv_one Q) (by omega) (Nat.le_trans hbA.size hb1.size)
  rw [hQ] at hr
  have HEND : Hid (∃ g2 cap2 Q2, v' = .slice (some ⟨g2, 0, none⟩) (choL n n).length cap2 ∧ ChoTab n w.heap.size w' g2 cap2 Q2 ∧ Below w.heap.size w w') := Lib.hid (by
    have hl : 1 + Q.length = (x :: Q).length := by rw [List.length_cons]; omega
    have hmap : (x :: Q).map Row.l = (choL n n).map up := by
      rw [List.map_cons, hcon, HX.out]
      unfold choL
      rw [List.map_cons, E8.preS_all]; rfl
    have hlen : (x :: Q).length = (choL n n).length := by have := congrArg List.length hmap; rwa [List.length_map, List.length_map] at this
    have ho2 : w'.ownsRow w.heap.size 22 1 v' (x :: Q).length (tv (x :: Q)) := by rw [← hl]; exact ho'
    rcases id ho2.2 with ⟨_, h0⟩ | ⟨g2, cap2, cur, rfl, hB2, _⟩
    · simp at h0
    · have h3 := owns_lt ho2
      refine ⟨g2, cap2, x :: Q, by rw [← hlen], ⟨fun k hk => (ho2.cellAt k (by omega)).trans (tv_at hk), h3.1, fun r hr => ?_, hmap, ⟨h3.2.1, h3.2.2.1⟩, hB2⟩, ?_⟩
      · have hgs := hg'.size
        rcases List.mem_cons.1 hr with hr | hr
        · subst hr
          rw [HX.out]
          exact ⟨by unfold Row.In RowIn; exact ⟨Nat.le_refl _, Nat.zero_le _, .inl rfl⟩, .inl rfl⟩
        · have hri := hT.grows.ins r hr
          have hro := hT.grows.lots.1 r hr
          have hk : ∀ b, b < W1.heap.size → wA.heap.size ≤ b → w'.heap[b]? = W1.heap[b]? := fun b hb1 hb2 => hg'.block b hb1 (fun e => by have e2 : b = w.heap.size + 1 + 1 := Option.some.inj e; omega)
          refine ⟨?_, hro.keep fun b hl hb => ?_⟩
          · obtain ⟨q1, q2, q3⟩ := hri
            refine ⟨q1, q2, ?_⟩
            rcases q3 with q3 | ⟨b, o, e, p1, p2, p3, p4⟩
            · exact .inl q3
            · exact .inr ⟨b, o, e, by omega, by omega, by omega, fun j y hj => (World.cell?_of_block (a := ⟨b, o + j, none⟩) (hk b p3 p1)).trans (p4 j y hj)⟩
          · obtain ⟨_, _, q3⟩ := hri
            rcases q3 with q3 | ⟨b', o, e, p1, p2, p3, _⟩
            · exact absurd (iv_nil q3) hl
            · rw [hb] at e
              simp only [Option.some.injEq, Addr.mk.injEq] at e
              obtain ⟨rfl, _⟩ := e
              exact hk b p3 p1
      · have hb01 := hbA.trans (hb1.mono hbA.size)
        exact ⟨hg'.os.trans hb01.os, hg'.tape.trans hb01.tape, hg'.output.trans hb01.output, Nat.le_trans hb01.size hg'.size, fun k hk => (hg'.block k (by have := hb01.size; omega) (fun e => by have e2 : k = w.heap.size + 1 + 1 := Option.some.inj e; omega)).trans (hb01.block k hk)⟩)
  have HR := Lib.hid hr
  clear hown1 hcon hrow ho' hg' hr hT hb1 hQ hQl hQne x0
  have hr2 := HR.out
  go_wp2_with (at_builtin; refine Lib.wpList_append_run _ rfl _ _ _ _ rfl _ _ rfl rfl _ _ hr2 ?_)
  obtain ⟨g2, cap2, Q2, hv2, hT2, hB2⟩ := HEND.out
  subst hv2
  clear hr2
  go_wp2
  go_ret
  exact ⟨g2, cap2, Q2, rfl, hT2, hB2⟩
end Go.Proofs.Ytifgmbljimfebaa
