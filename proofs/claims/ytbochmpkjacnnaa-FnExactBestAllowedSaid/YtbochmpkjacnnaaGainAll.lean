/- The model's list of all sets of a Field's sites. Condition: at most eight sites. -/
import Derived.Test.YtbochmpkjacnnaaPlainBestG
namespace Go.Proofs.Ytbochmpkjacnnaa
open Go.RowKit Go.Shelf

theorem ChoTab.low {N B B' : Nat} {w : World} {g cap : Nat} {Q : List Row} (h : ChoTab N B w g cap Q) (hB : B' ≤ B) : ChoTab N B' w g cap Q :=
  ⟨h.cell, h.lt, fun r hr => ⟨(h.rows r hr).1.wide hB (Nat.le_refl _), (h.rows r hr).2⟩, h.row, h.cap⟩

set_option maxRecDepth 16000 in
set_option maxHeartbeats 2000000 in
theorem l8All_any (F : Fld) (w : World) (n : Nat) (hno : n = F.o.l.length) (hn : n ≤ 8) :
    Calls Try.prog 39 #[.agg #[.slice F.o.a F.o.l.length F.o.c, .slice F.t.a F.t.R.length F.t.c]] w fun e w' => ∃ g cap Q, e = .returned (.slice (some ⟨g, 0, none⟩) (choL n n).length cap) ∧ ChoTab n w.heap.size w' g cap Q ∧ Below w.heap.size w w' := by
  obtain ⟨w0, hw0⟩ : ∃ w0, w0 = w.alloc (Obj.cells #[.slice F.o.a F.o.l.length F.o.c, .slice F.t.a F.t.R.length F.t.c] 29) := ⟨_, rfl⟩
  have hb0 : Below w.heap.size w w0 := by rw [hw0]; exact below_alloc _ _
  have bx0 : Box2 w0 w.heap.size (.slice F.o.a F.o.l.length F.o.c) (.slice F.t.a F.t.R.length F.t.c) 29 := by rw [hw0]; exact Box2.made w _ _ _
  have hsz0 : w0.heap.size = w.heap.size + 1 := by rw [hw0]; exact size_alloc _ _
  have hoi : (F.o.l.length : Int) ≤ 8 := by omega
  have x0 : ((w0.alloc (.cells #[] 3)).alloc (.cells #[.slice (some ⟨w.heap.size + 1, 0, none⟩) 0 0] 22)).cell? ⟨w.heap.size, 0, none⟩ = some (.slice F.o.a F.o.l.length F.o.c) := by
    exact ((bx0.later _).later _).c0
  rw [hw0] at x0
  have HW0 := Lib.hid hw0
  have HBW := Lib.hid hb0
  have HSZ := Lib.hid hsz0
  clear hw0 bx0 hb0
  obtain ⟨wA, hA⟩ : ∃ wA, wA = (w0.alloc (.cells #[] 3)).alloc (.cells #[.slice (some ⟨w0.heap.size, 0, none⟩) 0 0] 22) := ⟨_, rfl⟩
  have hbA : Below w0.heap.size w0 wA := by rw [hA]; exact ((Below.refl _ w0).alloc (Nat.le_refl _) _).alloc (by simp) _
  have hszA : wA.heap.size = w0.heap.size + 1 + 1 := by rw [hA, size_alloc, size_alloc]
  obtain ⟨x, hx⟩ : ∃ x : Row, x = ⟨some ⟨w0.heap.size, 0, none⟩, 0, []⟩ := ⟨_, rfl⟩
  have hown0 : wA.ownsRow w0.heap.size 22 1 (.slice (some ⟨w0.heap.size + 1, 0, none⟩) 1 1) 1 (tv [x]) := by
    have h1 := heap_alloc_new (w0.alloc (.cells #[] 3)) (.cells #[.slice (some ⟨w0.heap.size, 0, none⟩) 0 0] 22)
    rw [size_alloc] at h1
    rw [hA, hx]
    exact ⟨by simp [tv], .inr ⟨w0.heap.size + 1, 1, #[.slice (some ⟨w0.heap.size, 0, none⟩) 0 0], rfl, by omega, h1, Nat.le_refl _, by decide, rfl, by simp [tv, Row.val]⟩⟩
  have CL := Lib.hid (by have := E8.l2Sets_any n wA hn; rw [show ((n : Nat) : Int) = (F.o.l.length : Int) by omega] at this; exact this)
  clear hno
  have HA := Lib.hid hA
  have HO := Lib.hid hown0
  have HX := Lib.hid hx
  clear hA hown0 hx hsz0
  go_enter Try.func39, Try.ntmps39
  go_wp2_with fail
  rw [show ((w.alloc (Obj.cells #[.slice F.o.a F.o.l.length F.o.c, .slice F.t.a F.t.R.length F.t.c] 29)).alloc (.cells #[] 3)).alloc (.cells #[.slice (some ⟨w.heap.size + 1, 0, none⟩) 0 0] 22) = wA by rw [HA.out, HW0.out, size_alloc]]
  clear x0
  refine (show Calls _ _ _ _ _ from CL.out).mono ?_
  rintro e W1 ⟨v, g, cap, Q, rfl, hT, hb1⟩
  have hv := hT.val
  subst hv
  have hown1 := owns_below HO.out hb1
  have hQ := hT.len
  have hcon := hT.con
  rw [E8.sets_all n hn] at hcon
  have hrow : RowAt W1 (some ⟨g, 0, none⟩) cap (tv Q) := by
    have h1 := hT.lt
    refine ⟨by rw [tv_length]; omega, h1.2.2.1, .inr ⟨g, 0, rfl, h1.1, fun j y hj => ?_⟩⟩
    have hjl : j < Q.length := by have := (List.getElem?_eq_some_iff.1 hj).1; rwa [tv_length] at this
    rw [Nat.zero_add, hT.cell hjl]
    rw [tv_at hjl] at hj
    simpa using hj
  have hQl : Q.length ≤ 256 := by
    have := (cho_all n hn).2
    have h2 := congrArg List.length hcon
    rw [List.length_map, List.length_map] at h2
    unfold choL at this
    rw [List.length_cons, E8.preS_all] at this
    omega
  obtain ⟨v', w', hr, ho', hg'⟩ := append_tabK w0.heap.size (.slice (some ⟨w0.heap.size + 1, 0, none⟩) 1 1) 1 (tv [x]) W1 hown1 (some ⟨g, 0, none⟩) cap Q.length (tv Q) (tv_length Q).symm hrow (tv_one Q) (by omega) (Nat.le_trans hbA.size hb1.size)
  rw [hQ] at hr
  have HEND : Hid (∃ g2 cap2 Q2, v' = .slice (some ⟨g2, 0, none⟩) (choL n n).length cap2 ∧ ChoTab n w0.heap.size w' g2 cap2 Q2 ∧ Below w0.heap.size w0 w') := Lib.hid (by
    have hl : 1 + Q.length = (x :: Q).length := by rw [List.length_cons]; omega
    have hmap : (x :: Q).map Row.l = (choL n n).map up := by
      rw [List.map_cons, hcon, HX.out]
      unfold choL
      rw [List.map_cons, E8.preS_all]; rfl
    have hlen : (x :: Q).length = (choL n n).length := by have := congrArg List.length hmap; rwa [List.length_map, List.length_map] at this
    have ho2 : w'.ownsRow w0.heap.size 22 1 v' (x :: Q).length (tv (x :: Q)) := by rw [← hl]; exact ho'
    rcases id ho2.2 with ⟨_, h0⟩ | ⟨g2, cap2, cur, rfl, hB2, _⟩
    · simp at h0
    · have h3 := owns_lt ho2
      refine ⟨g2, cap2, x :: Q, by rw [← hlen], ⟨fun k hk => (ho2.cellAt k (by omega)).trans (tv_at hk), h3.1, fun r hr => ?_, hmap, ⟨h3.2.1, h3.2.2.1⟩⟩, ?_⟩
      · have hgs := hg'.size
        rcases List.mem_cons.1 hr with hr | hr
        · subst hr
          rw [HX.out]
          exact ⟨by unfold Row.In RowIn; exact ⟨Nat.le_refl _, Nat.zero_le _, .inl rfl⟩, .inl rfl⟩
        · have hri := hT.grows.ins r hr
          have hro := hT.grows.lots.1 r hr
          have hk : ∀ b, b < W1.heap.size → wA.heap.size ≤ b → w'.heap[b]? = W1.heap[b]? := fun b hb1 hb2 => hg'.block b hb1 (fun e => by have e2 : b = w0.heap.size + 1 := Option.some.inj e; omega)
          refine ⟨?_, hro.keep fun b hl hb => ?_⟩
          · obtain ⟨q1, q2, q3⟩ := hri
            refine ⟨q1, q2, ?_⟩
            rcases q3 with q3 | ⟨b, o, e, p1, p2, p3, p4⟩
            · exact .inl q3
            · exact .inr ⟨b, o, e, by omega, by omega, by omega, fun j y hj => (World.cell?_of_block (a := ⟨b, o + j, none⟩) (hk b p3 p1)).trans (p4 j y hj)⟩
          · obtain ⟨_, _, q3⟩ := hri
            rcases q3 with q3 | ⟨b', o, e, p1, p2, p3, _⟩
            · exact absurd (iv_nil q3) hl
            · rw [hb] at e
              simp only [Option.some.injEq, Addr.mk.injEq] at e
              obtain ⟨rfl, _⟩ := e
              exact hk b p3 p1
      · have hb01 := hbA.trans (hb1.mono hbA.size)
        exact ⟨hg'.os.trans hb01.os, hg'.tape.trans hb01.tape, hg'.output.trans hb01.output, Nat.le_trans hb01.size hg'.size, fun k hk => (hg'.block k (by have := hb01.size; omega) (fun e => by have e2 : k = w0.heap.size + 1 := Option.some.inj e; omega)).trans (hb01.block k hk)⟩)
  have HR := Lib.hid hr
  clear hown1 hcon hrow ho' hg' hr hT hb1 hQ hQl
  have hr2 := HR.out
  rw [HSZ.out] at hr2
  go_wp2_with (at_builtin; refine Lib.wpList_append_run _ rfl _ _ _ _ rfl _ _ rfl rfl _ _ hr2 ?_)
  obtain ⟨g2, cap2, Q2, hv2, hT2, hB2⟩ := HEND.out
  subst hv2
  clear hr2
  go_wp2
  go_ret
  exact ⟨g2, cap2, Q2, rfl, hT2.low HBW.out.size, HBW.out.trans (hB2.mono HBW.out.size)⟩
end Go.Proofs.Ytbochmpkjacnnaa
