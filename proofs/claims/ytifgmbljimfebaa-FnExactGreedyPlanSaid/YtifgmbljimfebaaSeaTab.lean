/- The contracts of the laws' helpers on Seasons: their size, their copy, their comparison. Condition: they read as such. -/
import Derived.Test.YtifgmbljimfebaaSeaMem
import Derived.Test.YtifgmbljimfebaaTabLaw
namespace Go.Proofs.Ytifgmbljimfebaa
open Go.RowKit

set_option maxHeartbeats 1000000 in
theorem szCube_any (K : Cube) (left : Int) (w : World) (hK : K.At w) (hl0 : 0 ≤ left) (hl1 : left ≤ 1048576) :
    Calls Try.prog 25 #[.slice K.a K.T.length K.c, .int .i64 left] w fun e w' => (∃ r : Int, e = .returned (.int .i64 r) ∧ (0 ≤ r → r + K.T.length + tot3 K.con ≤ left) ∧ r ≤ 1048576) ∧ w' = w := by
  obtain ⟨a, c, R⟩ := K
  obtain ⟨⟨h1, h2, h3⟩, hrows⟩ := hK
  simp only at h1 h2 h3 hrows
  rw [cv_length] at h1
  have hlim : R.length ≤ 9223372036854775807 := by unfold maxLen at h2; omega
  have hni : (R.length : Int) ≤ 9223372036854775807 := by omega
  have HW := Lib.hid hrows
  have H3 := Lib.hid h3
  have hcon : Hid (∀ k (h : k < R.length), tot3 ((Cube.con ⟨a, c, R⟩).take (k + 1)) = tot3 ((Cube.con ⟨a, c, R⟩).take k) + (R[k].R.length + tot R[k].con)) := Lib.hid fun k h => by
    rw [tot3_step (by simpa [Cube.con] using h)]; simp [Cube.con, Tab.con_length]
  have hall : Hid (tot3 ((Cube.con ⟨a, c, R⟩).take R.length) = tot3 (Cube.con ⟨a, c, R⟩)) := Lib.hid (by have := tot3_all (Cube.con ⟨a, c, R⟩); simpa [Cube.con] using this)
  obtain ⟨T, hT⟩ : ∃ T, T = Cube.con ⟨a, c, R⟩ := ⟨_, rfl⟩
  show Calls _ _ #[.slice a R.length c, .int .i64 left] w _
  rw [← hT] at hcon hall ⊢
  clear h1 h2 h3 hrows hT
  have CS := Lib.hid fun (t : Tab) (left' : Int) (ht : t.At w) (h0 : 0 ≤ left') (h1 : left' ≤ 1048576) => (show Calls Try.prog 8 #[.slice t.a t.R.length t.c, .int .i64 left'] w _ from szTab_any t left' w ht h0 h1)
  by_cases hneg : left - (R.length : Int) < 0
  · go_enter Try.func25, Try.ntmps25
    go_wp2
    go_ret
    exact ⟨⟨-1, rfl, fun h => by omega, by omega⟩, rfl⟩
  go_enter Try.func25, Try.ntmps25
  go_wp2
  go_loopw [1, 5] (fun x i wr => ∃ (k : Nat) (r : Int), k ≤ R.length ∧ i = .int .i64 k ∧ x = .int .i64 r ∧ 0 ≤ r ∧ r ≤ 1048576 ∧ r + R.length + tot3 (T.take k) ≤ left ∧ w = wr) (fun _ i _ => R.length - (intOf i).toNat)
  case atStart => exact ⟨0, left - R.length, Nat.zero_le _, rfl, rfl, by omega, by omega, by simp [tot3], rfl⟩
  case round =>
    obtain ⟨k, r, hk, rfl, rfl, hr0, hr1, hsum, rfl⟩ := hrel
    have HS := Lib.hid hsum
    clear hsum
    by_cases hlt : k < R.length
    · have hlti : (k : Int) < (R.length : Int) := by omega
      rcases H3.out with h3 | ⟨b, o, rfl, hb, hcell⟩
      · have h3' := congrArg List.length h3; rw [cv_length, List.length_nil] at h3'; omega
      obtain ⟨x, hx⟩ : ∃ x, x = R[k] := ⟨_, rfl⟩
      have hcl : w.cell? ⟨b, o + k, none⟩ = some (.slice x.a x.R.length x.c) := by rw [hx]; exact hcell k _ (cv_at hlt)
      have hxA : Hid (x.At w) := Lib.hid (HW.out x (by rw [hx]; exact List.getElem_mem hlt))
      have HX := hcon.out k hlt
      rw [← hx] at HX
      have HXX := Lib.hid HX
      clear hx hcell HX H3
      go_wp2_with fail
      refine (CS.out x r hxA.out hr0 hr1).mono ?_
      rintro e W ⟨⟨r', rfl, hr', hr1'⟩, rfl⟩
      by_cases hng : r' < 0
      · go_wp2
        go_ret
        exact ⟨⟨-1, rfl, fun h => by omega, by omega⟩, rfl⟩
      · have hr2 := hr' (by omega)
        go_wp2
        go_roundw
        case rel => exact ⟨k + 1, r', by omega, by go_num, rfl, by omega, hr1', by have := HS.out; have := HXX.out; omega, by first | rfl | trivial⟩
        case measure => simp [intOf]; omega
    · obtain rfl : k = R.length := by omega
      go_wp2
      go_ret
      exact ⟨⟨r, rfl, fun _ => by have := HS.out; rw [hall.out] at this; omega, hr1⟩, rfl⟩

set_option maxHeartbeats 1000000 in
theorem szSea_law (S : Sea) (left : Int) (w : World) (hS : S.At w) (hl0 : 0 ≤ left) (hl1 : left ≤ 1048576) :
    Calls Try.prog 7 #[.agg #[.slice S.o.a S.o.l.length S.o.c, .slice S.x.a S.x.l.length S.x.c, .slice S.k.a S.k.l.length S.k.c, .slice S.r.a S.r.T.length S.r.c], .int .i64 left] w fun e w' => (∃ r : Int, e = .returned (.int .i64 r) ∧ (0 ≤ r → r + S.size ≤ left) ∧ r ≤ 1048576) ∧ Below w.heap.size w w' := by
  obtain ⟨w1, hw1⟩ : ∃ w1, w1 = w.alloc (Obj.cells #[.slice S.o.a S.o.l.length S.o.c, .slice S.x.a S.x.l.length S.x.c, .slice S.k.a S.k.l.length S.k.c, .slice S.r.a S.r.T.length S.r.c] 25) := ⟨_, rfl⟩
  have hb : Below w.heap.size w w1 := by rw [hw1]; exact below_alloc _ _
  have hS' : S.At w1 := hS.on hb
  have len : ∀ (r : Row), r.At w1 → r.l.length ≤ maxLen := fun r hr => by obtain ⟨q1, q2, _⟩ := hr; rw [iv_length] at q1; omega
  have C0 := Lib.hid fun r (h0 : 0 ≤ r) (h1 : r ≤ 1048576) => szInts_any S.o.a S.o.c S.o.l.length r w1 (len _ hS'.1) h0 h1
  have C1 := Lib.hid fun r (h0 : 0 ≤ r) (h1 : r ≤ 1048576) => szInts_any S.x.a S.x.c S.x.l.length r w1 (len _ hS'.2.1) h0 h1
  have C2 := Lib.hid fun r (h0 : 0 ≤ r) (h1 : r ≤ 1048576) => szInts_any S.k.a S.k.c S.k.l.length r w1 (len _ hS'.2.2.1) h0 h1
  have C3 := Lib.hid fun r (h0 : 0 ≤ r) (h1 : r ≤ 1048576) => szCube_any S.r r w1 hS'.2.2.2 h0 h1
  have bx : Box4 w1 w.heap.size (.slice S.o.a S.o.l.length S.o.c) (.slice S.x.a S.x.l.length S.x.c) (.slice S.k.a S.k.l.length S.k.c) (.slice S.r.a S.r.T.length S.r.c) 25 := by rw [hw1]; exact Box4.made _ _ _ _ _ _
  have x0 := bx.c0
  have x1 := bx.c1
  have x2 := bx.c2
  have x3 := bx.c3
  have HW := Lib.hid hw1
  have HSZ : Hid (S.size = S.o.l.length + S.x.l.length + S.k.l.length + S.r.T.length + tot3 S.r.con) := Lib.hid rfl
  rw [HW.out] at x0
  clear hS hw1 hS' bx len
  go_enter Try.func7, Try.ntmps7
  go_wp2_with fail
  rw [← HW.out]
  refine (C0.out left hl0 hl1).mono ?_
  rintro e W ⟨⟨r0, rfl, h1, h2⟩, rfl⟩
  by_cases hng : r0 < 0
  · go_wp2
    go_ret
    exact ⟨⟨-1, rfl, fun h => by omega, by omega⟩, hb⟩
  have g0 := h1 (by omega)
  clear h1
  go_wp2_with fail
  refine (C1.out r0 (by omega) h2).mono ?_
  rintro e W ⟨⟨r1, rfl, h1, h2⟩, rfl⟩
  by_cases hng : r1 < 0
  · go_wp2
    go_ret
    exact ⟨⟨-1, rfl, fun h => by omega, by omega⟩, hb⟩
  have g1 := h1 (by omega)
  clear h1
  go_wp2_with fail
  refine (C2.out r1 (by omega) h2).mono ?_
  rintro e W ⟨⟨r2, rfl, h1, h2⟩, rfl⟩
  by_cases hng : r2 < 0
  · go_wp2
    go_ret
    exact ⟨⟨-1, rfl, fun h => by omega, by omega⟩, hb⟩
  have g2 := h1 (by omega)
  clear h1
  go_wp2_with fail
  refine (C3.out r2 (by omega) h2).mono ?_
  rintro e W ⟨⟨r3, rfl, h1, h2⟩, rfl⟩
  by_cases hng : r3 < 0
  · go_wp2
    go_ret
    exact ⟨⟨-1, rfl, fun h => by omega, by omega⟩, hb⟩
  have g3 := h1 (by omega)
  clear h1
  go_wp2
  go_ret
  exact ⟨⟨r3, rfl, fun _ => by rw [HSZ.out]; push_cast; omega, h2⟩, hb⟩

theorem infoTab : (Try.prog.info? 26).map (fun i => (i.zero, i.size, i.bytes)) = some (some (.slice none 0 0), 1, 24) := by kernel_rfl

set_option maxHeartbeats 1000000 in
/-- The copy of a table of tables: tables of its own. -/
theorem toCube_any (K : Cube) (w : World) (hT : K.At w) (hn : K.T.length ≤ 1048576) (hm : ∀ T ∈ K.T, T.Small) :
    Calls Try.prog 30 #[.slice K.a K.T.length K.c] w fun e w' => ∃ S : Cube, e = .returned (.slice S.a S.T.length S.c) ∧ S.con = K.con ∧ S.Own w.heap.size w'.heap.size w' ∧ Below w.heap.size w w' := by
  obtain ⟨a, c, R⟩ := K
  obtain ⟨⟨h1, h2, h3⟩, hrows⟩ := hT
  simp only at h1 h2 h3 hn hm hrows
  rw [cv_length] at h1
  unfold maxLen at h2
  obtain ⟨i0, hi, hz0, hz1, hz2⟩ := info_parts infoTab
  obtain ⟨B, hB⟩ : ∃ B, B = w.heap.size := ⟨_, rfl⟩
  have HB := Lib.hid hB
  have hni : (R.length : Int) ≤ 1048576 := by omega
  have HR := Lib.hid h3
  have HW := Lib.hid hrows
  have HM := Lib.hid hm
  clear h3 hrows hm
  show Calls _ _ #[.slice a R.length c] w _
  go_enter Try.func30, Try.ntmps30
  go_wp2_with (at_make; refine wpList_make_full _ rfl _ _ 23 rfl w.heap.size 26 i0 (.slice none 0 0) 1 Try.underlying23 hi hz0 hz1 .i64 .i64 _ _ R.length rfl rfl rfl rfl (by rw [hz2]; omega) (by unfold maxLen; omega) (Nat.le_refl _) ?_; intro w1 hown1 hgrow1)
  have hrow : w1.ownsRow w.heap.size 26 1 (.slice (some ⟨w.heap.size, 0, none⟩) R.length R.length) R.length (List.replicate R.length (.slice none 0 0)) := by
    rw [← made_row]; rw [Nat.mul_one] at hown1; exact hown1
  have hb1 : Below w.heap.size w w1 := (Below.refl _ _).grown hgrow1 (Nat.le_refl _) (fun k h => by cases h)
  have hg1 := (owns_lt hrow).1
  clear hown1 hgrow1
  rw [← hB] at hrow hb1 hg1 ⊢
  clear hB
  go_loopw [4] (fun i wr => ∃ (k : Nat) (Q : List Tab), k ≤ R.length ∧ i = .int .i64 k ∧ Q.length = k ∧ Q.map Tab.con = (R.take k).map Tab.con ∧ wr.ownsRow B 26 1 (.slice (some ⟨B, 0, none⟩) R.length R.length) R.length (cv Q ++ List.replicate (R.length - k) (.slice none 0 0)) ∧ Below B w wr ∧ Tabs wr (B + 1) wr.heap.size Q ∧ B + 1 ≤ wr.heap.size) (fun i _ => R.length - (intOf i).toNat)
  case atStart => exact ⟨0, [], Nat.zero_le _, rfl, rfl, rfl, by simpa [cv] using hrow, hb1, hg1, hg1⟩
  case round =>
    obtain ⟨k, Q, hk, rfl, hQl, hQm, hown, hnx, htabs, hsz⟩ := hrel
    clear hrow hb1 hg1
    by_cases hlt : k < R.length
    · rcases HR.out with h3 | ⟨b, o, rfl, hb, hcell⟩
      · have h3' := congrArg List.length h3; rw [cv_length, List.length_nil] at h3'; omega
      obtain ⟨x, hx⟩ : ∃ x, x = R[k] := ⟨_, rfl⟩
      have hxm : x ∈ R := by rw [hx]; exact List.getElem_mem hlt
      have hcl : wr.cell? ⟨b, o + k, none⟩ = some (.slice x.a x.R.length x.c) := (hnx.cell (p := ⟨b, o + k, none⟩) (by rw [HB.out]; exact hb)).trans (by rw [hx]; exact hcell k _ (cv_at hlt))
      have hxw : x.At wr := (HW.out x hxm).on (by have := hnx; rw [HB.out] at this; exact this)
      have ct := toTab_law x wr hxw (HM.out x hxm)
      have HCT := Lib.hid ct
      have HX : Hid (Q.map Tab.con ++ [x.con] = (R.take (k + 1)).map Tab.con) := Lib.hid (by rw [hQm, hx, List.take_succ_eq_append_getElem hlt, List.map_append]; rfl)
      have HO := Lib.hid hown
      have HL := Lib.hid htabs
      have HQL := Lib.hid hQl
      clear hx hcell hxw ct hown htabs hQm hQl hxm
      go_wp2_with fail
      refine HCT.out.mono ?_
      rintro e w1 ⟨s, rfl, hsl, hso, hsi, hsb⟩
      have hown1 := owns_below HO.out hsb
      have hf := hown1.frozenAt k
      have hst := (hown1.stored k (.slice s.a s.R.length s.c)).1
      have hQL := HQL.out
      rw [List.set_append_right _ _ (by rw [cv_length]; omega), cv_length, hQL, Nat.sub_self, show R.length - k = (R.length - (k + 1)) + 1 by omega, List.replicate_succ, List.set_cons_zero] at hst
      have hst' : (w1.setCell ⟨B, k, none⟩ (.slice s.a s.R.length s.c)).ownsRow B 26 1 (.slice (some ⟨B, 0, none⟩) R.length R.length) R.length (cv (Q ++ [s]) ++ List.replicate (R.length - (k + 1)) (.slice none 0 0)) := by
        have : cv (Q ++ [s]) ++ List.replicate (R.length - (k + 1)) (.slice none 0 0) = cv Q ++ Value.slice s.a s.R.length s.c :: List.replicate (R.length - (k + 1)) (.slice none 0 0) := by simp [cv, Tab.val]
        rw [this]; exact hst
      have R1 := Lib.hid hst'
      have hu : ∃ u, w1.cell? ⟨B, k, none⟩ = some u := by
        refine ⟨_, (hown1.cellAt k (by omega)).trans (List.getElem?_eq_getElem (by rw [List.length_append, cv_length, List.length_replicate]; omega))⟩
      obtain ⟨u, hu⟩ := hu
      have t1 := set_touch w1 B k (.slice s.a s.R.length s.c)
      have R2 : Below B w (w1.setCell ⟨B, k, none⟩ (.slice s.a s.R.length s.c)) := (hnx.trans (hsb.mono (by omega))).setCell (p := ⟨B, k, none⟩) (Nat.le_refl _) _
      have R3 : Tabs (w1.setCell ⟨B, k, none⟩ (.slice s.a s.R.length s.c)) (B + 1) (w1.setCell ⟨B, k, none⟩ (.slice s.a s.R.length s.c)).heap.size (Q ++ [s]) :=
        ((HL.out.on hsb).touch t1 (.inr (Nat.le_refl _))).snoc (Nat.le_trans hsb.size t1.size) ((hsi.touch t1 (.inr hsz)).wide (Nat.le_refl _) t1.size) (hso.touch' hsi t1 (.inr hsz))
      have R5 : B + 1 ≤ (w1.setCell ⟨B, k, none⟩ (.slice s.a s.R.length s.c)).heap.size := Nat.le_trans (Nat.le_trans hsz hsb.size) t1.size
      have R6 : (Q ++ [s]).map Tab.con = (R.take (k + 1)).map Tab.con := by rw [← HX.out, List.map_append]; simp [hsl]
      have R3h := Lib.hid R3
      have R6h := Lib.hid R6
      clear hown1 hst hst' R3 R6 t1 hsi hso hsl hnx hsb
      go_wp2
      go_roundw
      case rel => exact ⟨k + 1, Q ++ [s], by omega, by go_num, by rw [List.length_append, HQL.out]; rfl, R6h.out, R1.out, R2, R3h.out, R5⟩
      case measure => simp [intOf]; omega
    · obtain rfl : k = R.length := by omega
      go_wp2
      go_ret
      have hBe := HB.out
      clear HB HR
      subst hBe
      rw [Nat.sub_self, List.replicate_zero, List.append_nil] at hown
      have hQe : Q.map Tab.con = R.map Tab.con := by rw [hQm, List.take_length]
      have hlt' := (owns_lt hown).1
      obtain ⟨q1, q2, q3⟩ := row_of_owns hown
      refine ⟨⟨some ⟨w.heap.size, 0, none⟩, R.length, Q⟩, by show Ending.returned (.slice _ R.length _) = Ending.returned (.slice _ Q.length _); rw [hQl], hQe, ⟨w.heap.size + 1, Nat.le_succ _, hsz, ⟨q1, q2, ?_⟩, htabs⟩, hnx⟩
      rcases q3 with q3 | ⟨b', o', e', hb', hc'⟩
      · exact .inl q3
      · simp only [Option.some.injEq, Addr.mk.injEq] at e'
        obtain ⟨rfl, rfl, _⟩ := e'
        exact .inr ⟨_, _, rfl, Nat.le_refl _, Nat.lt_succ_self _, hb', hc'⟩

set_option maxHeartbeats 600000 in
/-- The comparison of two tables of tables that are the same. -/
theorem eqCube_same (T S : Cube) (w : World) (hT : T.At w) (hS : S.At w) (he : T.con = S.con) (hn : T.T.length ≤ 1048576) (hm : ∀ t ∈ T.T, t.Small) :
    Calls Try.prog 35 #[.slice T.a T.T.length T.c, .slice S.a S.T.length S.c] w fun e w' => e = .returned (.bool true) ∧ ∃ k, w' = w.drewN k := by
  obtain ⟨a, c, R⟩ := T
  obtain ⟨a', c', R'⟩ := S
  have hlen : R.length = R'.length := by have := congrArg List.length he; simpa [Cube.con] using this
  obtain ⟨⟨h1, h2, h3⟩, hrows⟩ := hT
  obtain ⟨⟨h1', h2', h3'⟩, hrows'⟩ := hS
  simp only at h3 h3' hrows hrows' hn hm
  have hni : (R.length : Int) ≤ 1048576 := by omega
  have HC : Hid (∀ k (h : k < R.length) (h' : k < R'.length), R[k].con = R'[k].con) := Lib.hid fun k h h' => by
    have h0 : (R.map Tab.con)[k]? = (R'.map Tab.con)[k]? := congrArg (fun l => l[k]?) he
    simpa [List.getElem?_map, h, h'] using h0
  have HR := Lib.hid h3
  have HR' := Lib.hid h3'
  have HW := Lib.hid hrows
  have HW' := Lib.hid hrows'
  have HM := Lib.hid hm
  have HLEN := Lib.hid hlen
  clear h1 h1' h2 h2' h3 h3' hrows hrows' hm he
  show Calls _ _ #[.slice a R.length c, .slice a' R'.length c'] w _
  rw [← hlen]
  clear hlen
  go_enter Try.func35, Try.ntmps35
  go_wp2
  go_loopw [5] (fun i wr => ∃ k : Nat, k ≤ R.length ∧ i = .int .i64 k ∧ DrewTo w wr) (fun i _ => R.length - (intOf i).toNat)
  case atStart => exact ⟨0, Nat.zero_le _, rfl, DrewTo.refl _⟩
  case round =>
    obtain ⟨k, hk, rfl, hdw⟩ := hrel
    by_cases hlt : k < R.length
    · rcases HR.out with h3 | ⟨b, o, rfl, hb, hcell⟩
      · have h3' := congrArg List.length h3; rw [cv_length, List.length_nil] at h3'; omega
      rcases HR'.out with h3 | ⟨b', o', rfl, hb', hcell'⟩
      · have h3' := congrArg List.length h3; rw [cv_length, List.length_nil, ← HLEN.out] at h3'; omega
      have hlt' : k < R'.length := by rw [← HLEN.out]; exact hlt
      obtain ⟨x, hx⟩ : ∃ x, x = R[k] := ⟨_, rfl⟩
      obtain ⟨y, hy⟩ : ∃ y, y = R'[k] := ⟨_, rfl⟩
      have hcl : wr.cell? ⟨b, o + k, none⟩ = some (.slice x.a x.R.length x.c) := by rw [hdw.cell, hx]; exact hcell k _ (cv_at hlt)
      have hcl' : wr.cell? ⟨b', o' + k, none⟩ = some (.slice y.a y.R.length y.c) := by rw [hdw.cell, hy]; exact hcell' k _ (cv_at hlt')
      have hxe : x.con = y.con := by rw [hx, hy]; exact HC.out k hlt hlt'
      have hxa : x.At w := HW.out x (by rw [hx]; exact List.getElem_mem hlt)
      have hya : y.At w := HW'.out y (by rw [hy]; exact List.getElem_mem hlt')
      have hxm := Tab.Small.rows (HM.out x (by rw [hx]; exact List.getElem_mem hlt)) rfl
      have ce := Lib.hid fun n => (show Calls Try.prog 14 #[.slice x.a x.R.length x.c, .slice y.a y.R.length y.c] (wr.drewN n) _ from eqTab_same x y (wr.drewN n) (hxa.on (hdw.more n).below) (hya.on (hdw.more n).below) hxe hxm.1 hxm.2.2)
      have hlti : (k : Int) < (R.length : Int) := by omega
      clear hx hy hcell hcell' hxe hxa hya hxm hlt'
      go_wp2
      go_quiet ((go_at_call 14; exact Calls.quiet_of (ce.out _)))
      go_wp2
      go_roundw
      case rel => exact ⟨k + 1, by omega, by go_num, hdw.more _⟩
      case measure => simp [intOf]; omega
    · obtain rfl : k = R.length := by omega
      go_wp2
      go_ret
      exact ⟨rfl, hdw⟩

theorem Sea.Small.tabs {S : Sea} (h : S.Small) : ∀ T ∈ S.r.T, T.Small := fun T hT => by
  unfold Sea.Small Sea.size at h
  have e : tot3 S.r.con = tot3 (S.r.T.map Tab.con) := rfl
  have := tot3_mem hT
  unfold Tab.Small; omega

set_option maxHeartbeats 1000000 in
/-- The comparison of two Seasons that are the same. -/
theorem eqSea_same (S G : Sea) (w : World) (hS : S.At w) (hG : G.At w) (he : S.Like G) (hs : S.Small) :
    Calls Try.prog 13 #[.agg #[.slice S.o.a S.o.l.length S.o.c, .slice S.x.a S.x.l.length S.x.c, .slice S.k.a S.k.l.length S.k.c, .slice S.r.a S.r.T.length S.r.c], .agg #[.slice G.o.a G.o.l.length G.o.c, .slice G.x.a G.x.l.length G.x.c, .slice G.k.a G.k.l.length G.k.c, .slice G.r.a G.r.T.length G.r.c]] w fun e w' => e = .returned (.bool true) ∧ Below w.heap.size w w' := by
  obtain ⟨s1, s2, s3, s4, s5, _⟩ := hs.parts
  have s6 := hs.tabs
  obtain ⟨V1, hV1⟩ : ∃ v, v = (Obj.cells #[.slice S.o.a S.o.l.length S.o.c, .slice S.x.a S.x.l.length S.x.c, .slice S.k.a S.k.l.length S.k.c, .slice S.r.a S.r.T.length S.r.c] 31) := ⟨_, rfl⟩
  obtain ⟨V2, hV2⟩ : ∃ v, v = (Obj.cells #[.slice G.o.a G.o.l.length G.o.c, .slice G.x.a G.x.l.length G.x.c, .slice G.k.a G.k.l.length G.k.c, .slice G.r.a G.r.T.length G.r.c] 31) := ⟨_, rfl⟩
  obtain ⟨wA, hA⟩ : ∃ wA, wA = (w.alloc V1).alloc V2 := ⟨_, rfl⟩
  have hbA : Below w.heap.size w wA := by rw [hA]; exact ((Below.refl _ _).alloc (Nat.le_refl _) _).alloc (by rw [size_alloc]; omega) _
  have b0 : Box4 wA w.heap.size (.slice S.o.a S.o.l.length S.o.c) (.slice S.x.a S.x.l.length S.x.c) (.slice S.k.a S.k.l.length S.k.c) (.slice S.r.a S.r.T.length S.r.c) 31 := by rw [hA, hV1]; exact (Box4.made _ _ _ _ _ _).later _
  have b1 : Box4 wA (w.heap.size + 1) (.slice G.o.a G.o.l.length G.o.c) (.slice G.x.a G.x.l.length G.x.c) (.slice G.k.a G.k.l.length G.k.c) (.slice G.r.a G.r.T.length G.r.c) 31 := by rw [hA, hV2, ← size_alloc w V1]; exact Box4.made _ _ _ _ _ _
  rw [hV1, hV2] at hA
  clear hV1 hV2
  have C0 := Lib.hid fun d => eqInts_same S.o G.o (wA.drewN d) ((hS.1.on hbA).on (below_draws wA d)) ((hG.1.on hbA).on (below_draws wA d)) he.1 s1
  have C1 := Lib.hid fun d => eqInts_same S.x G.x (wA.drewN d) ((hS.2.1.on hbA).on (below_draws wA d)) ((hG.2.1.on hbA).on (below_draws wA d)) he.2.1 s2
  have C2 := Lib.hid fun d => eqInts_same S.k G.k (wA.drewN d) ((hS.2.2.1.on hbA).on (below_draws wA d)) ((hG.2.2.1.on hbA).on (below_draws wA d)) he.2.2.1 s3
  have C3 := Lib.hid fun d => eqCube_same S.r G.r (wA.drewN d) ((hS.2.2.2.on hbA).on (below_draws wA d)) ((hG.2.2.2.on hbA).on (below_draws wA d)) he.2.2.2 s4 s6
  have HA := Lib.hid hA
  have x0 := b0.c0
  have x1 := b0.c1
  have x2 := b0.c2
  have x3 := b0.c3
  have y0 := b1.c0
  have y1 := b1.c1
  have y2 := b1.c2
  have y3 := b1.c3
  rw [HA.out] at x0 y0
  clear hS hG he hs s1 s2 s3 s4 s5 s6 hA b0 b1
  go_enter Try.func13, Try.ntmps13
  go_wp2_with fail
  rw [← HA.out]
  refine (show Calls Try.prog 34 #[.slice S.o.a S.o.l.length S.o.c, .slice G.o.a G.o.l.length G.o.c] wA _ from C0.out 0).mono ?_
  rintro e w1 ⟨rfl, d, rfl⟩
  go_wp2_with fail
  refine (show Calls Try.prog 34 #[.slice S.x.a S.x.l.length S.x.c, .slice G.x.a G.x.l.length G.x.c] _ _ from C1.out _).mono ?_
  rintro e w2 ⟨rfl, d', rfl⟩
  rw [World.drewN_drewN]
  go_wp2_with fail
  refine (show Calls Try.prog 34 #[.slice S.k.a S.k.l.length S.k.c, .slice G.k.a G.k.l.length G.k.c] _ _ from C2.out _).mono ?_
  rintro e w2 ⟨rfl, d', rfl⟩
  rw [World.drewN_drewN]
  go_wp2_with fail
  refine (C3.out _).mono ?_
  rintro e w2 ⟨rfl, d', rfl⟩
  go_wp2
  go_ret
  exact ⟨rfl, hbA.trans ((below_draws _ _).mono hbA.size)⟩

end Go.Proofs.Ytifgmbljimfebaa
