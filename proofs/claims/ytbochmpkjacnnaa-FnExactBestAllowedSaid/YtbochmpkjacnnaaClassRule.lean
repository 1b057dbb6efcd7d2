/- The program's rule of classes: its two tests. Condition: the lists read as such. -/
import Derived.Test.YtbochmpkjacnnaaClasses
import Derived.Test.YtbochmpkjacnnaaSortRow
namespace Go.Proofs.Ytbochmpkjacnnaa
open Go.RowKit Go.Shelf

/-- A rule of classes in a block of its own: four cells. -/
def BoxC (w : World) (g : Nat) (F : Fld) (c m : Row) : Prop := w.heap[g]? = some (Obj.cells #[.slice F.o.a F.o.l.length F.o.c, .slice F.t.a F.t.R.length F.t.c, .slice c.a c.l.length c.c, .slice m.a m.l.length m.c] 57)
theorem BoxC.lt {w : World} {g : Nat} {F : Fld} {c m : Row} (h : BoxC w g F c m) : g < w.heap.size := (Array.getElem?_eq_some_iff.1 h).1
theorem BoxC.c0 {w : World} {g : Nat} {F : Fld} {c m : Row} (h : BoxC w g F c m) : w.cell? ⟨g, 0, none⟩ = some (.slice F.o.a F.o.l.length F.o.c) := by unfold World.cell?; simp only [show w.heap[g]? = _ from h]; rfl
theorem BoxC.c1 {w : World} {g : Nat} {F : Fld} {c m : Row} (h : BoxC w g F c m) : w.cell? ⟨g, 1, none⟩ = some (.slice F.t.a F.t.R.length F.t.c) := by unfold World.cell?; simp only [show w.heap[g]? = _ from h]; rfl
theorem BoxC.c2 {w : World} {g : Nat} {F : Fld} {c m : Row} (h : BoxC w g F c m) : w.cell? ⟨g, 2, none⟩ = some (.slice c.a c.l.length c.c) := by unfold World.cell?; simp only [show w.heap[g]? = _ from h]; rfl
theorem BoxC.c3 {w : World} {g : Nat} {F : Fld} {c m : Row} (h : BoxC w g F c m) : w.cell? ⟨g, 3, none⟩ = some (.slice m.a m.l.length m.c) := by unfold World.cell?; simp only [show w.heap[g]? = _ from h]; rfl
theorem BoxC.on {w w' : World} {g : Nat} {F : Fld} {c m : Row} (h : BoxC w g F c m) (b : Below w.heap.size w w') : BoxC w' g F c m := (b.block g h.lt).trans h
theorem BoxC.made (w : World) (F : Fld) (c m : Row) : BoxC (w.alloc (Obj.cells #[.slice F.o.a F.o.l.length F.o.c, .slice F.t.a F.t.R.length F.t.c, .slice c.a c.l.length c.c, .slice m.a m.l.length m.c] 57)) w.heap.size F c m := by
  show (w.heap.push _)[w.heap.size]? = _
  simp
theorem laid_class (F : Fld) (c m : Row) (w : World) : ∃ wA, wA = w.alloc (Obj.cells #[.slice F.o.a F.o.l.length F.o.c, .slice F.t.a F.t.R.length F.t.c, .slice c.a c.l.length c.c, .slice m.a m.l.length m.c] 57) ∧ Below w.heap.size w wA ∧ BoxC wA w.heap.size F c m :=
  ⟨_, rfl, below_alloc _ _, BoxC.made _ _ _ _⟩

set_option maxRecDepth 100000 in
set_option maxHeartbeats 1500000 in
theorem classValid_any (F : Fld) (c m : Row) (w : World) (hF : F.At w) (hc : c.At w) (hm : m.At w) :
    Calls Try.prog 141 #[.agg #[.slice F.o.a F.o.l.length F.o.c, .slice F.t.a F.t.R.length F.t.c, .slice c.a c.l.length c.c, .slice m.a m.l.length m.c]] w fun e w' => e = .returned (.bool (classB F.o.l.length c.l m.l)) ∧ Below w.heap.size w w' := by
  obtain ⟨wA, hA, hbA, bx⟩ := laid_class F c m w
  have x0 := bx.c0
  have x2 := bx.c2
  have x3 := bx.c3
  rw [hA] at x0 x2 x3
  have hoi := rowLim hF.1
  have hci := rowLim hc
  have hmi := rowLim hm
  obtain ⟨u1, hu1⟩ : ∃ u, u = c.l.all (upTo 6) := ⟨_, rfl⟩
  obtain ⟨u2, hu2⟩ : ∃ u, u = m.l.all (upTo 7) := ⟨_, rfl⟩
  have C1 := Lib.hid (by have := allWithinM_any 6 c wA (hc.on hbA); rw [← hu1] at this; exact this)
  have C2 := Lib.hid (fun W (hW : Below wA.heap.size wA W) => by have := allWithinM_any 7 m W ((hm.on hbA).on hW); rw [← hu2] at this; exact this)
  have HE : Hid (classB F.o.l.length c.l m.l = ((u1 && decide (c.l.length = F.o.l.length)) && (u2 && decide (m.l.length = 7)))) := Lib.hid (by rw [hu1, hu2]; rfl)
  have HA := Lib.hid hA.symm
  have HB := Lib.hid hbA
  have HBX := Lib.hid bx
  clear hF hc hm hA bx hu1 hu2 hbA
  by_cases h1 : c.l.length = F.o.l.length
  · have h1i : (c.l.length : Int) = (F.o.l.length : Int) := by omega
    have HE1 : Hid (classB F.o.l.length c.l m.l = (u1 && (u2 && decide (m.l.length = 7)))) := Lib.hid (by rw [HE.out, decide_eq_true h1, Bool.and_true])
    have he : ((c.l.length : Int) == (F.o.l.length : Int)) = true := by simp [h1]
    clear h1 h1i
    go_enter Try.func141, Try.ntmps141
    go_wp2_with fail
    rw [HA.out]
    clear x0 x2 x3
    refine (show Calls _ _ _ _ _ from C1.out).mono ?_
    rintro e W1 ⟨rfl, hb1⟩
    have hbw := HB.out.trans (hb1.mono HB.out.size)
    cases u1 with
    | false =>
      go_wp2
      go_ret
      exact ⟨by rw [HE1.out]; rfl, hbw⟩
    | true =>
      have y3 := (HBX.out.on hb1).c3
      by_cases h7 : m.l.length = 7
      · have h7i : (m.l.length : Int) = 7 := by omega
        have he2 : ((m.l.length : Int) == 7) = true := by simp [h7i]
        have C21 := Lib.hid (C2.out W1 hb1)
        have HE2 : Hid (classB F.o.l.length c.l m.l = u2) := Lib.hid (by rw [HE1.out, decide_eq_true h7]; simp)
        clear h7 h7i hb1
        go_wp2_with fail
        refine (show Calls _ _ _ _ _ from C21.out).mono ?_
        rintro e W2 ⟨rfl, hb2⟩
        go_wp2
        go_ret
        exact ⟨by rw [HE2.out]; rfl, hbw.trans (hb2.mono hbw.size)⟩
      · have he2 : ((m.l.length : Int) == 7) = false := by simp; omega
        have HE2 : Hid (classB F.o.l.length c.l m.l = false) := Lib.hid (by rw [HE1.out, decide_eq_false h7]; simp)
        clear h7 hb1
        go_wp2
        go_ret
        exact ⟨by rw [HE2.out]; rfl, hbw⟩
  · have he : ((c.l.length : Int) == (F.o.l.length : Int)) = false := by simp; omega
    have HE1 : Hid (classB F.o.l.length c.l m.l = false) := Lib.hid (by rw [HE.out, decide_eq_false h1]; simp)
    have HB2 : Hid (Below w.heap.size w (w.alloc (Obj.cells #[.slice F.o.a F.o.l.length F.o.c, .slice F.t.a F.t.R.length F.t.c, .slice c.a c.l.length c.c, .slice m.a m.l.length m.c] 57))) := Lib.hid (below_alloc _ _)
    clear h1
    go_enter Try.func141, Try.ntmps141
    go_wp2
    go_ret
    exact ⟨by rw [HE1.out]; rfl, HB2.out⟩

theorem cloneC_any (s : Row) (w : World) (hs : s.At w) (h0 : 0 < s.l.length) (hn : s.l.length ≤ 1048576) :
    Calls Try.prog 78 #[.slice s.a s.l.length s.c] w fun e w' => ∃ g cap, e = .returned (.slice (some ⟨g, 0, none⟩) s.l.length cap) ∧ w'.ownsRow w.heap.size 3 1 (.slice (some ⟨g, 0, none⟩) s.l.length cap) s.l.length (iv s.l) ∧ Below w.heap.size w w' := by
  obtain ⟨b, o, ha, _, hc⟩ := rowCells hs h0
  rw [ha]
  refine (Try.slices_Clone_int b o s.l.length s.c s.l w (Nat.le_refl _) (by omega) hc).mono ?_
  rintro e w' ⟨v', rfl, ho, _, hb⟩
  rw [List.take_length] at ho
  rcases id ho.2 with ⟨_, h⟩ | ⟨g, cap, cur, rfl, _⟩
  · omega
  · exact ⟨g, cap, rfl, ho, hb⟩
theorem own_store {w : World} {B g cap n i : Nat} {l : List Int} {x : Int} (h : w.ownsRow B 3 1 (.slice (some ⟨g, 0, none⟩) n cap) n (iv l)) : (w.setCell ⟨g, i, none⟩ (.int .i64 x)).ownsRow B 3 1 (.slice (some ⟨g, 0, none⟩) n cap) n (iv (l.set i x)) := by
  have hst := (h.stored i (.int .i64 x)).1
  rw [show (iv l).set i (.int .i64 x) = iv (l.set i x) by unfold iv; rw [List.map_set]] at hst
  exact hst

set_option maxRecDepth 100000 in
set_option maxHeartbeats 2000000 in
theorem classAllows_any (F : Fld) (c m x : Row) (T : List Nat) (w : World) (hc : c.At w) (hm : m.At w) (hx : x.At w) (hf : Classed F.o.l.length c m x T) :
    Calls Try.prog 140 #[.agg #[.slice F.o.a F.o.l.length F.o.c, .slice F.t.a F.t.R.length F.t.c, .slice c.a c.l.length c.c, .slice m.a m.l.length m.c], .slice x.a x.l.length x.c] w fun e w' => e = .returned (.bool (allowB c.l m.l T)) ∧ Below w.heap.size w w' := by
  obtain ⟨⟨-, hcl⟩, -, hml⟩ := classB_iff.1 hf.ok
  obtain ⟨wA, hA, hbA, bx⟩ := laid_class F c m w
  have x3 := bx.c3
  rw [hA] at x3
  have hxl : x.l.length = T.length := by rw [hf.set, up_length]
  have hxA := hx.on hbA
  have hcA := hc.on hbA
  have CC := Lib.hid (by have := cloneC_any m wA (hm.on hbA) (by omega) (by omega); exact this)
  have HC : Hid (∀ k (hk : k < T.length) (W : World), Below wA.heap.size wA W → ∃ b o b2 o2, x.a = some ⟨b, o, none⟩ ∧ c.a = some ⟨b2, o2, none⟩ ∧ W.cell? ⟨b, o + k, none⟩ = some (.int .i64 (T[k] : Int)) ∧ W.cell? ⟨b2, o2 + T[k], none⟩ = some (.int .i64 (c.l.getD T[k] 0))) := Lib.hid fun k hk W hW => by
    obtain ⟨b, o, h1, h1b, h2⟩ := rowCells hxA (by omega)
    have hT := hf.lt _ (List.getElem_mem hk)
    obtain ⟨b2, o2, h3, h3b, h4⟩ := rowCells hcA (by omega)
    refine ⟨b, o, b2, o2, h1, h3, ?_, (hW.cell (p := ⟨b2, o2 + T[k], none⟩) h3b).trans (h4 _ (by omega))⟩
    have := h2 k (by omega)
    rw [hW.cell (p := ⟨b, o + k, none⟩) h1b, this]; congr 2
    rw [getD_at (by omega)]
    simp only [hf.set, up_at hk]
  have hTi : (T.length : Int) ≤ 1048576 := by have := hf.few; omega
  have hcli := rowLim hc
  have HF := Lib.hid hf
  have HLT : Hid (∀ k (hk : k < T.length), (T[k] : Int) < (c.l.length : Int)) := Lib.hid fun k hk => by have := hf.lt _ (List.getElem_mem hk); omega
  have HML := Lib.hid hml
  have HL0 : Hid (leftL c.l m.l T 0 = m.l) := Lib.hid (left_zero hml)
  have HA := Lib.hid hA.symm
  have HBA := Lib.hid hbA
  have HBX := Lib.hid bx
  rw [hxl]
  clear hc hm hx hf hcl hml hA bx hxl hxA hcA hbA
  go_enter Try.func140, Try.ntmps140
  go_wp2_with fail
  rw [HA.out]
  clear x3
  refine (show Calls _ _ _ _ _ from CC.out).mono ?_
  rintro e W1 ⟨g, cap, rfl, hown, hb1⟩
  rw [HML.out] at hown ⊢
  have hg := owns_lt hown
  have hgA : wA.heap.size ≤ g := hg.2.2.2
  have HOWN : Hid (W1.ownsRow wA.heap.size 3 1 (.slice (some ⟨g, 0, none⟩) 7 cap) 7 (iv (leftL c.l m.l T 0))) := Lib.hid (by rw [HL0.out]; exact hown)
  have HB1 := Lib.hid hb1
  clear hown hb1 hg
  go_wp2
  go_loopw [7, 13] (fun _ iv' wr => ∃ k : Nat, k ≤ T.length ∧ iv' = .int .i64 k ∧ Hid (wr.ownsRow wA.heap.size 3 1 (.slice (some ⟨g, 0, none⟩) 7 cap) 7 (iv (leftL c.l m.l T k))) ∧ Below wA.heap.size wA wr) (fun _ iv' _ => T.length - (intOf iv').toNat)
  case atStart => exact ⟨0, Nat.zero_le _, rfl, HOWN, HB1.out⟩
  case round =>
    obtain ⟨k, hk, rfl, HO, hnx⟩ := hrel
    by_cases hlt : k < T.length
    · have hlti : (k : Int) < (T.length : Int) := by omega
      obtain ⟨b, o, b2, o2, ha, ha2, hc1, hc2⟩ := HC.out k hlt wr hnx
      obtain ⟨q, hq, hq7⟩ := HF.out.cls (HF.out.lt _ (List.getElem_mem hlt))
      have hml := HLT.out k hlt
      have HNEW := Lib.hid (left_step (lm := m.l) hlt hq hq7)
      obtain ⟨z, hz⟩ : ∃ z, z = (leftL c.l m.l T k)[q]'(by rw [left_len]; exact hq7) := ⟨_, rfl⟩
      have hzb : -1048576 ≤ z ∧ z ≤ 7 := by
        rw [hz, left_at _ _ _ _ hq7]
        have h1 := HF.out.lim hq7
        have h2 := cntC_le c.l T q k
        omega
      have hcz : wr.cell? ⟨g, q, none⟩ = some (.int .i64 z) := by
        rw [hz]
        exact (HO.out.cellAt q (by omega)).trans (iv_at (by rw [left_len]; exact hq7))
      have hfz : wr.frozen? ⟨g, q, none⟩ = false := HO.out.frozenAt q
      rw [← hz] at HNEW
      rw [hq] at hc2
      obtain ⟨t, ht⟩ : ∃ t, t = T[k] := ⟨_, rfl⟩
      rw [← ht] at hc1 hc2 hml
      have y2 := (HBX.out.on hnx).c2
      rw [ha2] at y2
      have hqi : (q : Int) < 7 := by omega
      have e1 : -9223372036854775808 ≤ z - 1 := by omega
      have e2 : z - 1 ≤ 9223372036854775807 := by omega
      have HSET : Hid (∀ W', W' = wr.setCell ⟨g, q, none⟩ (.int .i64 (z - 1)) → Hid (W'.ownsRow wA.heap.size 3 1 (.slice (some ⟨g, 0, none⟩) 7 cap) 7 (iv (leftL c.l m.l T (k + 1)))) ∧ Below wA.heap.size wA W') := Lib.hid fun W' hW' => by
        rw [hW', ← HNEW.out]
        exact ⟨Lib.hid (own_store HO.out), hnx.setCell hgA _⟩
      have HSET2 := Lib.hid (HSET.out _ rfl)
      rw [ha]
      clear hq hz ht ha ha2 hnx hzb
      go_wp2
      go_roundw
      case rel => exact ⟨k + 1, by omega, by go_num, HSET2.out.1, HSET2.out.2⟩
      case measure => simp [intOf]; omega
    · obtain rfl : k = T.length := by omega
      have hon := HO.out
      obtain ⟨t, ht, htl, _, hti⟩ := rowN_of_own (l := leftL c.l m.l T T.length) (n := 7) (by rw [left_len]) hon
      have CM := Lib.hid (by
        have := minS_any t wr hti.at (by rw [htl, left_len]; omega) (by rw [htl, left_len]; omega)
        rw [← ht, htl] at this; exact this)
      have HE : Hid (allowB c.l m.l T = decide (0 ≤ Lib.minOf (leftL c.l m.l T T.length))) := Lib.hid (left_min _ _ _).symm
      obtain ⟨z, hz⟩ : ∃ z, z = Lib.minOf (leftL c.l m.l T T.length) := ⟨_, rfl⟩
      rw [← hz] at CM HE
      have HNX := Lib.hid hnx
      clear hon ht htl hti hz hnx
      go_wp2_with fail
      refine (show Calls _ _ _ _ _ from CM.out).mono ?_
      rintro e W2 ⟨rfl, rfl⟩
      go_wp2
      go_ret
      exact ⟨by rw [HE.out]; rfl, HBA.out.trans (HNX.out.mono HBA.out.size)⟩
end Go.Proofs.Ytbochmpkjacnnaa
