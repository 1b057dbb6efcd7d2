/- The contracts of the laws' helpers on tables and Fields: their copy and their comparison. Condition: they read as such. -/
import Derived.Test.YtemflcegkebloaaInts
namespace Go.Proofs.Ytemflcegkebloaa
open Go.RowKit

set_option maxHeartbeats 1000000 in
/-- The copy of a table: rows of its own. -/
theorem toTab_any (T : Tab) (w : World) (hT : T.At w) (hn : T.R.length ≤ 1048576) (hm : ∀ r ∈ T.R, r.l.length ≤ 1048576) :
    Calls Try.prog 31 #[.slice T.a T.R.length T.c] w fun e w' => ∃ S : Tab, e = .returned (.slice S.a S.R.length S.c) ∧ S.con = T.con ∧ S.Own 3 w' ∧ S.In w.heap.size w'.heap.size w' ∧ Below w.heap.size w w' := by
  obtain ⟨a, c, R⟩ := T
  obtain ⟨⟨h1, h2, h3⟩, hrows⟩ := hT
  simp only at h1 h2 h3 hn hm hrows
  rw [tv_length] at h1
  unfold maxLen at h2
  obtain ⟨i0, hi, hz0, hz1, hz2⟩ := info_parts infoInts
  obtain ⟨B, hB⟩ : ∃ B, B = w.heap.size := ⟨_, rfl⟩
  have HB := Lib.hid hB
  have hni : (R.length : Int) ≤ 1048576 := by omega
  have HR := Lib.hid h3
  have HW := Lib.hid hrows
  have HM := Lib.hid hm
  clear h3 hrows hm
  show Calls _ _ #[.slice a R.length c] w _
  go_enter Try.func31, Try.ntmps31
  go_wp2_with (at_make; refine wpList_make_full _ rfl _ _ 23 rfl w.heap.size 22 i0 (.slice none 0 0) 1 Try.underlying23 hi hz0 hz1 .i64 .i64 _ _ R.length rfl rfl rfl rfl (by rw [hz2]; omega) (by unfold maxLen; omega) (Nat.le_refl _) ?_; intro w1 hown1 hgrow1)
  have hrow : w1.ownsRow w.heap.size 22 1 (.slice (some ⟨w.heap.size, 0, none⟩) R.length R.length) R.length (List.replicate R.length (.slice none 0 0)) := by
    rw [← made_row]; rw [Nat.mul_one] at hown1; exact hown1
  have hb1 : Below w.heap.size w w1 := (Below.refl _ _).grown hgrow1 (Nat.le_refl _) (fun k h => by cases h)
  have hg1 := (owns_lt hrow).1
  clear hown1 hgrow1
  rw [← hB] at hrow hb1 hg1 ⊢
  clear hB
  go_loopw [4] (fun i wr => ∃ (k : Nat) (Q : List Row), k ≤ R.length ∧ i = .int .i64 k ∧ Q.length = k ∧ Q.map Row.l = (R.take k).map Row.l ∧ wr.ownsRow B 22 1 (.slice (some ⟨B, 0, none⟩) R.length R.length) R.length (tv Q ++ List.replicate (R.length - k) (.slice none 0 0)) ∧ Below B w wr ∧ Lots 3 wr Q ∧ (∀ r ∈ Q, r.In (B + 1) wr.heap.size wr) ∧ B + 1 ≤ wr.heap.size) (fun i _ => R.length - (intOf i).toNat)
  case atStart => exact ⟨0, [], Nat.zero_le _, rfl, rfl, rfl, by simpa [tv] using hrow, hb1, ⟨by simp, List.Pairwise.nil⟩, by simp, hg1⟩
  case round =>
    obtain ⟨k, Q, hk, rfl, hQl, hQm, hown, hnx, hlots, hins, hsz⟩ := hrel
    clear hrow hb1 hg1
    by_cases hlt : k < R.length
    · rcases HR.out with h3 | ⟨b, o, rfl, hb, hcell⟩
      · have h3' := congrArg List.length h3; rw [tv_length, List.length_nil] at h3'; omega
      obtain ⟨x, hx⟩ : ∃ x, x = R[k] := ⟨_, rfl⟩
      have hxm : x ∈ R := by rw [hx]; exact List.getElem_mem hlt
      have hcl : wr.cell? ⟨b, o + k, none⟩ = some (.slice x.a x.l.length x.c) := (hnx.cell (p := ⟨b, o + k, none⟩) (by rw [HB.out]; exact hb)).trans (by rw [hx]; exact hcell k _ (tv_at hlt))
      have hxw : x.At wr := by
        obtain ⟨q1, q2, q3⟩ := HW.out x hxm
        refine ⟨q1, q2, ?_⟩
        rcases q3 with q3 | ⟨b', o', e, hb', hc'⟩
        · exact .inl q3
        · exact .inr ⟨b', o', e, Nat.lt_of_lt_of_le hb' hnx.size, fun j y hj => (hnx.cell (p := ⟨b', o' + j, none⟩) (by rw [HB.out]; exact hb')).trans (hc' j y hj)⟩
      have ct := toInts_row x wr hxw (HM.out x hxm)
      have HCT := Lib.hid ct
      have HX : Hid (Q.map Row.l ++ [x.l] = (R.take (k + 1)).map Row.l) := Lib.hid (by rw [hQm, hx, List.take_succ_eq_append_getElem hlt, List.map_append]; rfl)
      have HO := Lib.hid hown
      have HL := Lib.hid hlots
      have HI := Lib.hid hins
      have HQL := Lib.hid hQl
      clear hx hcell hxw ct hown hlots hins hQm hQl hxm
      go_wp2_with fail
      refine HCT.out.mono ?_
      rintro e w1 ⟨s, rfl, hsl, hsa, hso, hsi, hsb⟩
      have hown1 := owns_below HO.out hsb
      have hf := hown1.frozenAt k
      have hst := (hown1.stored k (.slice s.a s.l.length s.c)).1
      have hQL := HQL.out
      rw [List.set_append_right _ _ (by rw [tv_length]; omega), tv_length, hQL, Nat.sub_self, show R.length - k = (R.length - (k + 1)) + 1 by omega, List.replicate_succ, List.set_cons_zero] at hst
      have hst' : (w1.setCell ⟨B, k, none⟩ (.slice s.a s.l.length s.c)).ownsRow B 22 1 (.slice (some ⟨B, 0, none⟩) R.length R.length) R.length (tv (Q ++ [s]) ++ List.replicate (R.length - (k + 1)) (.slice none 0 0)) := by
        have : tv (Q ++ [s]) ++ List.replicate (R.length - (k + 1)) (.slice none 0 0) = tv Q ++ Value.slice s.a s.l.length s.c :: List.replicate (R.length - (k + 1)) (.slice none 0 0) := by simp [tv, Row.val]
        rw [this]; exact hst
      have R1 := Lib.hid hst'
      have hu : ∃ u, w1.cell? ⟨B, k, none⟩ = some u := by
        refine ⟨_, (hown1.cellAt k (by omega)).trans (List.getElem?_eq_getElem (by rw [List.length_append, tv_length, List.length_replicate]; omega))⟩
      obtain ⟨u, hu⟩ := hu
      have t1 := set_touch w1 B k (.slice s.a s.l.length s.c)
      have R2 : Below B w (w1.setCell ⟨B, k, none⟩ (.slice s.a s.l.length s.c)) := (hnx.trans (hsb.mono (by omega))).setCell (p := ⟨B, k, none⟩) (Nat.le_refl _) _
      have hsi' : Row.In (B + 1) w1.heap.size w1 s := hsi.wide hsz (Nat.le_refl _)
      have hins1 : ∀ r ∈ Q, r.In (B + 1) w1.heap.size w1 := fun r hr => ((HI.out r hr).on hsb).wide (Nat.le_refl _) hsb.size
      have hap : ∀ r ∈ Q, r.Apart s := fun r hr x y h1 h2 e1 e2 => by
        obtain ⟨_, _, q3⟩ := HI.out r hr
        rcases q3 with q3 | ⟨b', o', e', _, hhi, _, _⟩
        · exact absurd (iv_nil q3) h1
        · rw [e1] at e'; rw [hsa] at e2
          simp only [Option.some.injEq] at e' e2
          subst e' e2
          first | omega | (simp only; omega)
      have R3 : Lots 3 (w1.setCell ⟨B, k, none⟩ (.slice s.a s.l.length s.c)) (Q ++ [s]) := by
        refine ⟨fun r hr => ?_, List.pairwise_append.2 ⟨HL.out.2, List.pairwise_singleton _ _, fun r hr s hs => by rw [List.mem_singleton] at hs; subst hs; exact hap r hr⟩⟩
        rcases List.mem_append.1 hr with hr | hr
        · exact ((HL.out.1 r hr).on hsb).touch (hins1 r hr) t1 (.inr (Nat.le_refl _))
        · rw [List.mem_singleton] at hr; subst hr; exact hso.touch hsi' t1 (.inr (Nat.le_refl _))
      have R4 : ∀ r ∈ Q ++ [s], r.In (B + 1) (w1.setCell ⟨B, k, none⟩ (.slice s.a s.l.length s.c)).heap.size (w1.setCell ⟨B, k, none⟩ (.slice s.a s.l.length s.c)) := fun r hr => by
        rcases List.mem_append.1 hr with hr | hr
        · exact ((hins1 r hr).touch t1 (.inr (Nat.le_refl _))).wide (Nat.le_refl _) t1.size
        · rw [List.mem_singleton] at hr; subst hr; exact (hsi'.touch t1 (.inr (Nat.le_refl _))).wide (Nat.le_refl _) t1.size
      have R5 : B + 1 ≤ (w1.setCell ⟨B, k, none⟩ (.slice s.a s.l.length s.c)).heap.size := Nat.le_trans (Nat.le_trans hsz hsb.size) t1.size
      have R6 : (Q ++ [s]).map Row.l = (R.take (k + 1)).map Row.l := by rw [← HX.out, List.map_append]; simp [hsl]
      have R3h := Lib.hid R3
      have R4h := Lib.hid R4
      have R6h := Lib.hid R6
      clear hown1 hst hst' R3 R4 R6 hap hins1 hsi' t1 hsi hso hsa hsl hnx hsb
      go_wp2
      go_roundw
      case rel => exact ⟨k + 1, Q ++ [s], by omega, by go_num, by rw [List.length_append, HQL.out]; rfl, R6h.out, R1.out, R2, R3h.out, R4h.out, R5⟩
      case measure => simp [intOf]; omega
    · obtain rfl : k = R.length := by omega
      go_wp2
      go_ret
      have hBe := HB.out
      clear HB HR
      subst hBe
      rw [Nat.sub_self, List.replicate_zero, List.append_nil] at hown
      have hQe : Q.map Row.l = R.map Row.l := by rw [hQm, List.take_length]
      have hlt' := (owns_lt hown).1
      obtain ⟨q1, q2, q3⟩ := row_of_owns hown
      refine ⟨⟨some ⟨w.heap.size, 0, none⟩, R.length, Q⟩, by show Ending.returned (.slice _ R.length _) = Ending.returned (.slice _ Q.length _); rw [hQl], hQe, ⟨hlots, fun r hr x y hl hR ex ey => ?_⟩, ⟨⟨q1, q2, ?_⟩, fun r hr => (hins r hr).wide (by omega) (Nat.le_refl _)⟩, hnx⟩
      · obtain ⟨_, _, g3⟩ := hins r hr
        rcases g3 with g3 | ⟨b', o', e', hlo, _, _, _⟩
        · exact absurd (iv_nil g3) hl
        · rw [ex] at e'
          simp only [Option.some.injEq] at e' ey
          subst e' ey
          first | omega | (simp only; omega)
      · rcases q3 with q3 | ⟨b', o', e', hb', hc'⟩
        · exact .inl q3
        · simp only [Option.some.injEq, Addr.mk.injEq] at e'
          obtain ⟨rfl, rfl, _⟩ := e'
          exact .inr ⟨_, _, rfl, Nat.le_refl _, hlt', hb', hc'⟩

set_option maxHeartbeats 600000 in
/-- The comparison of two tables that are the same. -/
theorem eqTab_same (T S : Tab) (w : World) (hT : T.At w) (hS : S.At w) (he : T.con = S.con) (hn : T.R.length ≤ 1048576) (hm : ∀ r ∈ T.R, r.l.length ≤ 1048576) :
    Calls Try.prog 22 #[T.val, S.val] w fun e w' => e = .returned (.bool true) ∧ ∃ k, w' = w.drewN k := by
  obtain ⟨a, c, R⟩ := T
  obtain ⟨a', c', R'⟩ := S
  have hlen : R.length = R'.length := by have := congrArg List.length he; simpa [Tab.con] using this
  obtain ⟨⟨h1, h2, h3⟩, hrows⟩ := hT
  obtain ⟨⟨h1', h2', h3'⟩, hrows'⟩ := hS
  simp only at h3 h3' hrows hrows' hn hm
  have hni : (R.length : Int) ≤ 1048576 := by omega
  have HC : Hid (∀ k (h : k < R.length) (h' : k < R'.length), R[k].l = R'[k].l) := Lib.hid fun k h h' => by
    have h0 : (R.map Row.l)[k]? = (R'.map Row.l)[k]? := congrArg (fun l => l[k]?) he
    simpa [List.getElem?_map, h, h'] using h0
  have HR := Lib.hid h3
  have HR' := Lib.hid h3'
  have HW := Lib.hid hrows
  have HW' := Lib.hid hrows'
  have HM := Lib.hid hm
  have HLEN := Lib.hid hlen
  clear h1 h1' h2 h2' h3 h3' hrows hrows' hm he
  show Calls _ _ #[.slice a R.length c, .slice a' R'.length c'] w _
  rw [← hlen]
  clear hlen
  go_enter Try.func22, Try.ntmps22
  go_wp2
  go_loopw [5] (fun i wr => ∃ k : Nat, k ≤ R.length ∧ i = .int .i64 k ∧ DrewTo w wr) (fun i _ => R.length - (intOf i).toNat)
  case atStart => exact ⟨0, Nat.zero_le _, rfl, DrewTo.refl _⟩
  case round =>
    obtain ⟨k, hk, rfl, hdw⟩ := hrel
    by_cases hlt : k < R.length
    · rcases HR.out with h3 | ⟨b, o, rfl, hb, hcell⟩
      · have h3' := congrArg List.length h3; rw [tv_length, List.length_nil] at h3'; omega
      rcases HR'.out with h3 | ⟨b', o', rfl, hb', hcell'⟩
      · have h3' := congrArg List.length h3; rw [tv_length, List.length_nil, ← HLEN.out] at h3'; omega
      have hlt' : k < R'.length := by rw [← HLEN.out]; exact hlt
      obtain ⟨x, hx⟩ : ∃ x, x = R[k] := ⟨_, rfl⟩
      obtain ⟨y, hy⟩ : ∃ y, y = R'[k] := ⟨_, rfl⟩
      have hcl : wr.cell? ⟨b, o + k, none⟩ = some (.slice x.a x.l.length x.c) := by rw [hdw.cell, hx]; exact hcell k _ (tv_at hlt)
      have hcl' : wr.cell? ⟨b', o' + k, none⟩ = some (.slice y.a y.l.length y.c) := by rw [hdw.cell, hy]; exact hcell' k _ (tv_at hlt')
      have hxe : x.l = y.l := by rw [hx, hy]; exact HC.out k hlt hlt'
      have hxa : x.At w := HW.out x (by rw [hx]; exact List.getElem_mem hlt)
      have hya : y.At w := HW'.out y (by rw [hy]; exact List.getElem_mem hlt')
      have hxm : x.l.length ≤ 1048576 := HM.out x (by rw [hx]; exact List.getElem_mem hlt)
      have ce := Lib.hid fun n => eqInts_same x y (wr.drewN n) (hxa.on (hdw.more n).below) (hya.on (hdw.more n).below) hxe hxm
      have hlti : (k : Int) < (R.length : Int) := by omega
      clear hx hy hcell hcell' hxe hxa hya hxm hlt'
      go_wp2
      go_quiet ((go_at_call 10; exact Calls.quiet_of (ce.out _)))
      go_wp2
      go_roundw
      case rel => exact ⟨k + 1, by omega, by go_num, hdw.more _⟩
      case measure => simp [intOf]; omega
    · obtain rfl : k = R.length := by omega
      go_wp2
      go_ret
      exact ⟨rfl, hdw⟩

/-- Small enough to be marked. -/
def Fld.Small (F : Fld) : Prop := F.o.l.length + F.t.R.length + tot F.t.con ≤ 1048576
theorem tot_mem {R : List Row} {r : Row} (h : r ∈ R) : r.l.length ≤ tot (R.map Row.l) := by
  induction R with
  | nil => cases h
  | cons s R ih =>
    have e : tot ((s :: R).map Row.l) = s.l.length + tot (R.map Row.l) := by simp [tot]
    rcases List.mem_cons.1 h with h | h
    · subst h; omega
    · have := ih h; omega
theorem Fld.Small.rows {F : Fld} (h : F.Small) : F.o.l.length ≤ 1048576 ∧ F.t.R.length ≤ 1048576 ∧ ∀ r ∈ F.t.R, r.l.length ≤ 1048576 := by
  unfold Fld.Small at h
  refine ⟨by omega, by omega, fun r hr => ?_⟩
  have := tot_mem hr
  have e : tot F.t.con = tot (F.t.R.map Row.l) := rfl
  omega
theorem Fld.Small.like {F G : Fld} (h : F.Small) (hl : F.Like G) : G.Small := by
  unfold Fld.Small at h ⊢
  have := congrArg List.length hl.2
  simp only [Tab.con, List.length_map] at this
  rw [← hl.1, ← hl.2, ← this]; exact h
theorem Fld.Like.symm {F G : Fld} (h : F.Like G) : G.Like F := ⟨h.1.symm, h.2.symm⟩
theorem Fld.Like.trans {F G K : Fld} (h : F.Like G) (k : G.Like K) : F.Like K := ⟨h.1.trans k.1, h.2.trans k.2⟩

set_option maxHeartbeats 1000000 in
/-- The copy of a Field: memory of its own. -/
theorem toFld_any (F : Fld) (w : World) (hF : F.At w) (hs : F.Small) :
    Calls Try.prog 8 #[F.val] w fun e w' => ∃ G : Fld, e = .returned G.val ∧ G.Like F ∧ G.Own 3 w' ∧ G.In w.heap.size w'.heap.size w' ∧ Below w.heap.size w w' := by
  obtain ⟨s1, s2, s3⟩ := hs.rows
  obtain ⟨wA, hA⟩ : ∃ wA, wA = ((w.alloc (Obj.cells #[.slice F.o.a F.o.l.length F.o.c, .slice F.t.a F.t.R.length F.t.c] 25)).alloc (Obj.cells #[.slice none 0 0, .slice none 0 0] 29)).alloc (Obj.cells #[.slice none 0 0, .slice none 0 0] 29) := ⟨_, rfl⟩
  have hbA : Below w.heap.size w wA := by rw [hA]; exact (((Below.refl _ _).alloc (Nat.le_refl _) _).alloc (by rw [size_alloc]; omega) _).alloc (by rw [size_alloc, size_alloc]; omega) _
  have hsA : wA.heap.size = w.heap.size + 3 := by rw [hA, size_alloc, size_alloc, size_alloc]
  have b0 : Box2 wA w.heap.size (.slice F.o.a F.o.l.length F.o.c) (.slice F.t.a F.t.R.length F.t.c) 25 := by rw [hA]; exact ((Box2.made w _ _ _).later _).later _
  have b1 : Box2 wA (w.heap.size + 1) (.slice none 0 0) (.slice none 0 0) 29 := by rw [hA]; have := Box2.made (w.alloc (Obj.cells #[.slice F.o.a F.o.l.length F.o.c, .slice F.t.a F.t.R.length F.t.c] 25)) (.slice none 0 0) (.slice none 0 0) 29; rw [size_alloc] at this; exact this.later _
  have b2 : Box2 wA (w.heap.size + 1 + 1) (.slice none 0 0) (.slice none 0 0) 29 := by rw [hA]; have := Box2.made ((w.alloc (Obj.cells #[.slice F.o.a F.o.l.length F.o.c, .slice F.t.a F.t.R.length F.t.c] 25)).alloc (Obj.cells #[.slice none 0 0, .slice none 0 0] 29)) (.slice none 0 0) (.slice none 0 0) 29; rw [size_alloc, size_alloc] at this; exact this
  have c1 := Lib.hid (toInts_row F.o wA (hF.1.on hbA) s1)
  have HT := Lib.hid (hF.2.in.on hbA)
  have C2 := Lib.hid fun (w1 : World) (h : F.t.At w1) => toTab_any F.t w1 h s2 s3
  have HA := Lib.hid hA
  have B0 := Lib.hid b0
  have B1 := Lib.hid b1
  have B2 := Lib.hid b2
  have HS := Lib.hid hsA
  clear hF s1 s2 s3 hs hA b0 b1 b2 hsA
  show Calls _ _ #[.agg #[.slice F.o.a F.o.l.length F.o.c, .slice F.t.a F.t.R.length F.t.c]] w _
  go_enter Try.func8, Try.ntmps8
  go_wp2_with fail
  rw [← HA.out]
  refine c1.out.mono ?_
  rintro e w1 ⟨s, rfl, hsl, hsa, hso, hsi, hsb⟩
  have q0 := (B0.out.on hsb).c1
  have q1 := B1.out.on hsb
  have q2 := B2.out.on hsb
  have q20 := q2.c0
  have q2f := q2.fr 0
  have Q1 := Lib.hid (q1.other ⟨w.heap.size + 1 + 1, 0, none⟩ (.slice s.a s.l.length s.c) (by simp))
  have Q2 := Lib.hid (q2.set0 (.slice s.a s.l.length s.c))
  have t1 := set_touch w1 (w.heap.size + 1 + 1) 0 (.slice s.a s.l.length s.c)
  have hs1 : w.heap.size + 3 ≤ w1.heap.size := by rw [← HS.out]; exact hsb.size
  have HT1 := Lib.hid (HT.out.on hsb)
  have HI := Lib.hid hsi
  have HO := Lib.hid hso
  have HB := Lib.hid hsb
  have HT2 := Lib.hid t1
  have HL := Lib.hid hsl
  clear q1 q2 t1 hsi hso hsb hsl hsa
  go_wp2_with fail
  obtain ⟨wB, hB⟩ : ∃ wB, wB = w1.setCell ⟨w.heap.size + 1 + 1, 0, none⟩ (.slice s.a s.l.length s.c) := ⟨_, rfl⟩
  rw [← hB]
  have ht1 := HT2.out
  rw [← hB] at ht1
  have hTB := HT1.out.touch ht1 (.inl (by omega))
  have hiB := HI.out.touch ht1 (.inr (by rw [HS.out]; omega))
  have hoB := HO.out.touch HI.out ht1 (.inr (by rw [HS.out]; omega))
  have q1 := Q1.out
  have q2 := Q2.out
  rw [← hB] at q1 q2
  have HO' := Lib.hid hoB
  have HI' := Lib.hid (show s.In (w.heap.size + 3) w1.heap.size wB by rw [← HS.out]; exact hiB)
  have hsB := ht1.size
  have hbw := hbA.trans (HB.out.mono hbA.size)
  have hbB := hbw.trans (ht1.below (by omega) (by omega))
  clear Q1 Q2 HT2 hiB hoB ht1 q20 q2f HI HO hB hbw
  refine (C2.out wB hTB.at).mono ?_
  rintro e w2 ⟨T, rfl, hTc, hTo, hTi, hTb⟩
  have q1' := q1.on hTb
  have q2' := q2.on hTb
  have z0 := q2'.c0
  have z1 := q2'.c1
  have zf := q2'.fr 1
  have y0 := q1'.c0
  have y1 := q1'.c1
  have yf0 := q1'.fr 0
  have yf1 := q1'.fr 1
  have HR := Lib.hid q1'
  have HR2 := Lib.hid q2'
  have HTI := Lib.hid hTi
  have HTO := Lib.hid hTo
  have HTB := Lib.hid hTb
  clear q1 q2 q1' q2' hTi hTo hTb hTB
  go_wp2
  obtain ⟨wF, hF⟩ : ∃ wF, wF = ((w2.setCell ⟨w.heap.size + 1 + 1, 1, none⟩ (.slice T.a T.R.length T.c)).setCell ⟨w.heap.size + 1, 0, none⟩ (.slice s.a s.l.length s.c)).setCell ⟨w.heap.size + 1, 1, none⟩ (.slice T.a T.R.length T.c) := ⟨_, rfl⟩
  rw [← hF]
  have bF : Box2 wF (w.heap.size + 1) (.slice s.a s.l.length s.c) (.slice T.a T.R.length T.c) 29 := by rw [hF]; exact ((HR.out.other _ _ (by simp)).set0 _).set1 _
  have tF : Touch (w.heap.size + 1) (w.heap.size + 3) w2 wF := by
    rw [hF]
    exact (((Touch.refl _ _ w2).set (by omega) (by omega) _ _).set (by omega) (by omega) _ _).set (by omega) (by omega) _ _
  have r0 := bF.c0
  have r1 := bF.c1
  clear z0 z1 zf y0 y1 yf0 yf1 hF
  refine bodyPost_ret (v := .agg #[.slice s.a s.l.length s.c, .slice T.a T.R.length T.c]) (by simp [results, Try.results8, go_sem, r0, r1]) rfl ?_
  have hsi := HI'.out
  have hTi := HTI.out
  have hTo := HTO.out
  have hTb := HTB.out
  have hap : ∀ r ∈ T.R, s.Apart r := fun r hr x y h1 h2 e1 e2 => by
    obtain ⟨_, _, q3⟩ := hTi.2 r hr
    obtain ⟨_, _, p3⟩ := hsi
    rcases q3 with q3 | ⟨b', o', e', hlo, _, _, _⟩
    · exact absurd (iv_nil q3) h2
    rcases p3 with p3 | ⟨b, o, e0, _, hhi, _, _⟩
    · exact absurd (iv_nil p3) h1
    rw [e2] at e'; rw [e1] at e0
    simp only [Option.some.injEq] at e' e0
    subst e' e0
    simp only; omega
  have hsi2 := hsi.on hTb
  have hsiF := hsi2.touch tF (.inr (Nat.le_refl _))
  have hsoF := (HO'.out.on hTb).touch hsi2 tF (.inr (Nat.le_refl _))
  have hge : w.heap.size + 3 ≤ wB.heap.size := by omega
  have hTiF := hTi.touch tF (.inr hge)
  have hszF := tF.size
  refine ⟨⟨s, T⟩, rfl, ⟨HL.out, hTc⟩, ⟨⟨fun r hr => ?_, List.pairwise_cons.2 ⟨hap, hTo.1.2⟩⟩, fun r hr x y h1 h2 e1 e2 => ?_⟩, ⟨hsiF.wide (by omega) (by have := hTb.size; omega), hTiF.wide (by omega) (by omega)⟩, (hbB.trans (hTb.mono hbB.size)).trans (tF.below (by omega) (by have := hbB.size; have := hTb.size; omega))⟩
  · rcases List.mem_cons.1 hr with hr | hr
    · subst hr; exact hsoF
    · exact (hTo.1.1 r hr).touch (hTi.2 r hr) tF (.inr hge)
  · rcases List.mem_cons.1 hr with hr | hr
    · subst hr
      obtain ⟨_, _, q3⟩ := hTi.1
      obtain ⟨_, _, p3⟩ := hsi
      rcases q3 with q3 | ⟨b', o', e', hlo, _, _, _⟩
      · exact absurd (List.eq_nil_of_length_eq_zero (by rw [← tv_length, q3]; rfl)) h2
      rcases p3 with p3 | ⟨b, o, e0, _, hhi, _, _⟩
      · exact absurd (iv_nil p3) h1
      simp only at e2
      rw [e2] at e'; rw [e1] at e0
      simp only [Option.some.injEq] at e' e0
      subst e' e0
      simp only; omega
    · exact hTo.2 r hr x y h1 h2 e1 e2

set_option maxHeartbeats 600000 in
/-- The comparison of two Fields that are the same. -/
theorem eqFld_same (F G : Fld) (w : World) (hF : F.At w) (hG : G.At w) (he : F.Like G) (hs : F.Small) :
    Calls Try.prog 11 #[F.val, G.val] w fun e w' => e = .returned (.bool true) ∧ Below w.heap.size w w' := by
  obtain ⟨s1, s2, s3⟩ := hs.rows
  obtain ⟨wA, hA⟩ : ∃ wA, wA = (w.alloc (Obj.cells #[F.o.val, F.t.val] 29)).alloc (Obj.cells #[G.o.val, G.t.val] 29) := ⟨_, rfl⟩
  have hbA : Below w.heap.size w wA := by rw [hA]; exact ((Below.refl _ _).alloc (Nat.le_refl _) _).alloc (by rw [size_alloc]; omega) _
  have b0 : Box2 wA w.heap.size F.o.val F.t.val 29 := by rw [hA]; exact (Box2.made w _ _ _).later _
  have b1 : Box2 wA (w.heap.size + 1) G.o.val G.t.val 29 := by rw [hA]; have := Box2.made (w.alloc (Obj.cells #[F.o.val, F.t.val] 29)) G.o.val G.t.val 29; rw [size_alloc] at this; exact this
  have c1 := Lib.hid (eqInts_same F.o G.o wA (hF.1.on hbA) (hG.1.on hbA) he.1 s1)
  have C2 := Lib.hid fun d => eqTab_same F.t G.t (wA.drewN d) ((hF.2.on hbA).on (below_draws wA d)) ((hG.2.on hbA).on (below_draws wA d)) he.2 s2 s3
  have HA := Lib.hid hA
  have x0 := b0.c1
  have x1 := b1.c1
  clear hF hG he hs s1 s2 s3 hA b0 b1
  show Calls _ _ #[.agg #[F.o.val, F.t.val], .agg #[G.o.val, G.t.val]] w _
  go_enter Try.func11, Try.ntmps11
  go_wp2_with fail
  rw [← HA.out]
  refine c1.out.mono ?_
  rintro e w1 ⟨rfl, d, rfl⟩
  go_wp2_with fail
  refine (C2.out d).mono ?_
  rintro e w2 ⟨rfl, d', rfl⟩
  go_wp2
  go_ret
  exact ⟨rfl, hbA.trans ((below_draws _ _).mono hbA.size)⟩

end Go.Proofs.Ytemflcegkebloaa
