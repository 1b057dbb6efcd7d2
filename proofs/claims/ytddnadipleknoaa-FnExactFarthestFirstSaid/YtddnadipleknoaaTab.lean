/- The contracts of the laws' helpers on tables and Fields: their copy and their comparison. Condition: they read as such. -/
import Derived.Test.YtddnadipleknoaaInts
namespace Go.Proofs.Ytddnadipleknoaa
open Go.RowKit

set_option maxHeartbeats 1000000 in
/-- The copy of a table: rows of its own. -/
theorem toTab_any (T : Tab) (w : World) (hT : T.At w) (hn : T.R.length ≤ 1048576) (hm : ∀ r ∈ T.R, r.l.length ≤ 1048576) :
    Calls Try.prog 9 #[.slice T.a T.R.length T.c] w fun e w' => ∃ S : Tab, e = .returned (.slice S.a S.R.length S.c) ∧ S.con = T.con ∧ S.Own 3 w' ∧ S.In w.heap.size w'.heap.size w' ∧ Below w.heap.size w w' := by
  obtain ⟨a, c, R⟩ := T
  obtain ⟨⟨h1, h2, h3⟩, hrows⟩ := hT
  simp only at h1 h2 h3 hn hm hrows
  rw [tv_length] at h1
  unfold maxLen at h2
  obtain ⟨i0, hi, hz0, hz1, hz2⟩ := info_parts infoInts
  obtain ⟨B, hB⟩ : ∃ B, B = w.heap.size := ⟨_, rfl⟩
  have HB := Lib.hid hB
  have hni : (R.length : Int) ≤ 1048576 := by omega
  have HR := Lib.hid h3
  have HW := Lib.hid hrows
  have HM := Lib.hid hm
  clear h3 hrows hm
  show Calls _ _ #[.slice a R.length c] w _
  go_enter Try.func9, Try.ntmps9
  go_wp2_with (at_make; refine wpList_make_full _ rfl _ _ 22 rfl w.heap.size 24 i0 (.slice none 0 0) 1 Try.underlying22 hi hz0 hz1 .i64 .i64 _ _ R.length rfl rfl rfl rfl (by rw [hz2]; omega) (by unfold maxLen; omega) (Nat.le_refl _) ?_; intro w1 hown1 hgrow1)
  have hrow : w1.ownsRow w.heap.size 24 1 (.slice (some ⟨w.heap.size, 0, none⟩) R.length R.length) R.length (List.replicate R.length (.slice none 0 0)) := by
    rw [← made_row]; rw [Nat.mul_one] at hown1; exact hown1
  have hb1 : Below w.heap.size w w1 := (Below.refl _ _).grown hgrow1 (Nat.le_refl _) (fun k h => by cases h)
  have hg1 := (owns_lt hrow).1
  clear hown1 hgrow1
  rw [← hB] at hrow hb1 hg1 ⊢
  clear hB
  go_loopw [4] (fun i wr => ∃ (k : Nat) (Q : List Row), k ≤ R.length ∧ i = .int .i64 k ∧ Q.length = k ∧ Q.map Row.l = (R.take k).map Row.l ∧ wr.ownsRow B 24 1 (.slice (some ⟨B, 0, none⟩) R.length R.length) R.length (tv Q ++ List.replicate (R.length - k) (.slice none 0 0)) ∧ Below B w wr ∧ Lots 3 wr Q ∧ (∀ r ∈ Q, r.In (B + 1) wr.heap.size wr) ∧ B + 1 ≤ wr.heap.size) (fun i _ => R.length - (intOf i).toNat)
  case atStart => exact ⟨0, [], Nat.zero_le _, rfl, rfl, rfl, by simpa [tv] using hrow, hb1, ⟨by simp, List.Pairwise.nil⟩, by simp, hg1⟩
  case round =>
    obtain ⟨k, Q, hk, rfl, hQl, hQm, hown, hnx, hlots, hins, hsz⟩ := hrel
    clear hrow hb1 hg1
    by_cases hlt : k < R.length
    · rcases HR.out with h3 | ⟨b, o, rfl, hb, hcell⟩
      · have h3' := congrArg List.length h3; rw [tv_length, List.length_nil] at h3'; omega
      obtain ⟨x, hx⟩ : ∃ x, x = R[k] := ⟨_, rfl⟩
      have hxm : x ∈ R := by rw [hx]; exact List.getElem_mem hlt
      have hcl : wr.cell? ⟨b, o + k, none⟩ = some (.slice x.a x.l.length x.c) := (hnx.cell (p := ⟨b, o + k, none⟩) (by rw [HB.out]; exact hb)).trans (by rw [hx]; exact hcell k _ (tv_at hlt))
      have hxw : x.At wr := by
        obtain ⟨q1, q2, q3⟩ := HW.out x hxm
        refine ⟨q1, q2, ?_⟩
        rcases q3 with q3 | ⟨b', o', e, hb', hc'⟩
        · exact .inl q3
        · exact .inr ⟨b', o', e, Nat.lt_of_lt_of_le hb' hnx.size, fun j y hj => (hnx.cell (p := ⟨b', o' + j, none⟩) (by rw [HB.out]; exact hb')).trans (hc' j y hj)⟩
      have ct := toInts_row x wr hxw (HM.out x hxm)
      have HCT := Lib.hid ct
      have HX : Hid (Q.map Row.l ++ [x.l] = (R.take (k + 1)).map Row.l) := Lib.hid (by rw [hQm, hx, List.take_succ_eq_append_getElem hlt, List.map_append]; rfl)
      have HO := Lib.hid hown
      have HL := Lib.hid hlots
      have HI := Lib.hid hins
      have HQL := Lib.hid hQl
      clear hx hcell hxw ct hown hlots hins hQm hQl hxm
      go_wp2_with fail
      refine HCT.out.mono ?_
      rintro e w1 ⟨s, rfl, hsl, hsa, hso, hsi, hsb⟩
      have hown1 := owns_below HO.out hsb
      have hf := hown1.frozenAt k
      have hst := (hown1.stored k (.slice s.a s.l.length s.c)).1
      have hQL := HQL.out
      rw [List.set_append_right _ _ (by rw [tv_length]; omega), tv_length, hQL, Nat.sub_self, show R.length - k = (R.length - (k + 1)) + 1 by omega, List.replicate_succ, List.set_cons_zero] at hst
      have hst' : (w1.setCell ⟨B, k, none⟩ (.slice s.a s.l.length s.c)).ownsRow B 24 1 (.slice (some ⟨B, 0, none⟩) R.length R.length) R.length (tv (Q ++ [s]) ++ List.replicate (R.length - (k + 1)) (.slice none 0 0)) := by
        have : tv (Q ++ [s]) ++ List.replicate (R.length - (k + 1)) (.slice none 0 0) = tv Q ++ Value.slice s.a s.l.length s.c :: List.replicate (R.length - (k + 1)) (.slice none 0 0) := by simp [tv, Row.val]
        rw [this]; exact hst
      have R1 := Lib.hid hst'
      have hu : ∃ u, w1.cell? ⟨B, k, none⟩ = some u := by
        refine ⟨_, (hown1.cellAt k (by omega)).trans (List.getElem?_eq_getElem (by rw [List.length_append, tv_length, List.length_replicate]; omega))⟩
      obtain ⟨u, hu⟩ := hu
      have t1 := set_touch w1 B k (.slice s.a s.l.length s.c)
      have R2 : Below B w (w1.setCell ⟨B, k, none⟩ (.slice s.a s.l.length s.c)) := (hnx.trans (hsb.mono (by omega))).setCell (p := ⟨B, k, none⟩) (Nat.le_refl _) _
      have hsi' : Row.In (B + 1) w1.heap.size w1 s := hsi.wide hsz (Nat.le_refl _)
      have hins1 : ∀ r ∈ Q, r.In (B + 1) w1.heap.size w1 := fun r hr => ((HI.out r hr).on hsb).wide (Nat.le_refl _) hsb.size
      have hap : ∀ r ∈ Q, r.Apart s := fun r hr x y h1 h2 e1 e2 => by
        obtain ⟨_, _, q3⟩ := HI.out r hr
        rcases q3 with q3 | ⟨b', o', e', _, hhi, _, _⟩
        · exact absurd (iv_nil q3) h1
        · rw [e1] at e'; rw [hsa] at e2
          simp only [Option.some.injEq] at e' e2
          subst e' e2
          first | omega | (simp only; omega)
      have R3 : Lots 3 (w1.setCell ⟨B, k, none⟩ (.slice s.a s.l.length s.c)) (Q ++ [s]) := by
        refine ⟨fun r hr => ?_, List.pairwise_append.2 ⟨HL.out.2, List.pairwise_singleton _ _, fun r hr s hs => by rw [List.mem_singleton] at hs; subst hs; exact hap r hr⟩⟩
        rcases List.mem_append.1 hr with hr | hr
        · exact ((HL.out.1 r hr).on hsb).touch (hins1 r hr) t1 (.inr (Nat.le_refl _))
        · rw [List.mem_singleton] at hr; subst hr; exact hso.touch hsi' t1 (.inr (Nat.le_refl _))
      have R4 : ∀ r ∈ Q ++ [s], r.In (B + 1) (w1.setCell ⟨B, k, none⟩ (.slice s.a s.l.length s.c)).heap.size (w1.setCell ⟨B, k, none⟩ (.slice s.a s.l.length s.c)) := fun r hr => by
        rcases List.mem_append.1 hr with hr | hr
        · exact ((hins1 r hr).touch t1 (.inr (Nat.le_refl _))).wide (Nat.le_refl _) t1.size
        · rw [List.mem_singleton] at hr; subst hr; exact (hsi'.touch t1 (.inr (Nat.le_refl _))).wide (Nat.le_refl _) t1.size
      have R5 : B + 1 ≤ (w1.setCell ⟨B, k, none⟩ (.slice s.a s.l.length s.c)).heap.size := Nat.le_trans (Nat.le_trans hsz hsb.size) t1.size
      have R6 : (Q ++ [s]).map Row.l = (R.take (k + 1)).map Row.l := by rw [← HX.out, List.map_append]; simp [hsl]
      have R3h := Lib.hid R3
      have R4h := Lib.hid R4
      have R6h := Lib.hid R6
      clear hown1 hst hst' R3 R4 R6 hap hins1 hsi' t1 hsi hso hsa hsl hnx hsb
      go_wp2
      go_roundw
      case rel => exact ⟨k + 1, Q ++ [s], by omega, by go_num, by rw [List.length_append, HQL.out]; rfl, R6h.out, R1.out, R2, R3h.out, R4h.out, R5⟩
      case measure => simp [intOf]; omega
    · obtain rfl : k = R.length := by omega
      go_wp2
      go_ret
      have hBe := HB.out
      clear HB HR
      subst hBe
      rw [Nat.sub_self, List.replicate_zero, List.append_nil] at hown
      have hQe : Q.map Row.l = R.map Row.l := by rw [hQm, List.take_length]
      have hlt' := (owns_lt hown).1
      obtain ⟨q1, q2, q3⟩ := row_of_owns hown
      refine ⟨⟨some ⟨w.heap.size, 0, none⟩, R.length, Q⟩, by show Ending.returned (.slice _ R.length _) = Ending.returned (.slice _ Q.length _); rw [hQl], hQe, ⟨hlots, fun r hr x y hl hR ex ey => ?_⟩, ⟨⟨q1, q2, ?_⟩, fun r hr => (hins r hr).wide (by omega) (Nat.le_refl _)⟩, hnx⟩
      · obtain ⟨_, _, g3⟩ := hins r hr
        rcases g3 with g3 | ⟨b', o', e', hlo, _, _, _⟩
        · exact absurd (iv_nil g3) hl
        · rw [ex] at e'
          simp only [Option.some.injEq] at e' ey
          subst e' ey
          first | omega | (simp only; omega)
      · rcases q3 with q3 | ⟨b', o', e', hb', hc'⟩
        · exact .inl q3
        · simp only [Option.some.injEq, Addr.mk.injEq] at e'
          obtain ⟨rfl, rfl, _⟩ := e'
          exact .inr ⟨_, _, rfl, Nat.le_refl _, hlt', hb', hc'⟩

set_option maxHeartbeats 600000 in
/-- The comparison of two tables that are the same. -/
theorem eqTab_same (T S : Tab) (w : World) (hT : T.At w) (hS : S.At w) (he : T.con = S.con) (hn : T.R.length ≤ 1048576) (hm : ∀ r ∈ T.R, r.l.length ≤ 1048576) :
    Calls Try.prog 12 #[T.val, S.val] w fun e w' => e = .returned (.bool true) ∧ ∃ k, w' = w.drewN k := by
  obtain ⟨a, c, R⟩ := T
  obtain ⟨a', c', R'⟩ := S
  have hlen : R.length = R'.length := by have := congrArg List.length he; simpa [Tab.con] using this
  obtain ⟨⟨h1, h2, h3⟩, hrows⟩ := hT
  obtain ⟨⟨h1', h2', h3'⟩, hrows'⟩ := hS
  simp only at h3 h3' hrows hrows' hn hm
  have hni : (R.length : Int) ≤ 1048576 := by omega
  have HC : Hid (∀ k (h : k < R.length) (h' : k < R'.length), R[k].l = R'[k].l) := Lib.hid fun k h h' => by
    have h0 : (R.map Row.l)[k]? = (R'.map Row.l)[k]? := congrArg (fun l => l[k]?) he
    simpa [List.getElem?_map, h, h'] using h0
  have HR := Lib.hid h3
  have HR' := Lib.hid h3'
  have HW := Lib.hid hrows
  have HW' := Lib.hid hrows'
  have HM := Lib.hid hm
  have HLEN := Lib.hid hlen
  clear h1 h1' h2 h2' h3 h3' hrows hrows' hm he
  show Calls _ _ #[.slice a R.length c, .slice a' R'.length c'] w _
  rw [← hlen]
  clear hlen
  go_enter Try.func12, Try.ntmps12
  go_wp2
  go_loopw [5] (fun i wr => ∃ k : Nat, k ≤ R.length ∧ i = .int .i64 k ∧ DrewTo w wr) (fun i _ => R.length - (intOf i).toNat)
  case atStart => exact ⟨0, Nat.zero_le _, rfl, DrewTo.refl _⟩
  case round =>
    obtain ⟨k, hk, rfl, hdw⟩ := hrel
    by_cases hlt : k < R.length
    · rcases HR.out with h3 | ⟨b, o, rfl, hb, hcell⟩
      · have h3' := congrArg List.length h3; rw [tv_length, List.length_nil] at h3'; omega
      rcases HR'.out with h3 | ⟨b', o', rfl, hb', hcell'⟩
      · have h3' := congrArg List.length h3; rw [tv_length, List.length_nil, ← HLEN.out] at h3'; omega
      have hlt' : k < R'.length := by rw [← HLEN.out]; exact hlt
      obtain ⟨x, hx⟩ : ∃ x, x = R[k] := ⟨_, rfl⟩
      obtain ⟨y, hy⟩ : ∃ y, y = R'[k] := ⟨_, rfl⟩
      have hcl : wr.cell? ⟨b, o + k, none⟩ = some (.slice x.a x.l.length x.c) := by rw [hdw.cell, hx]; exact hcell k _ (tv_at hlt)
      have hcl' : wr.cell? ⟨b', o' + k, none⟩ = some (.slice y.a y.l.length y.c) := by rw [hdw.cell, hy]; exact hcell' k _ (tv_at hlt')
      have hxe : x.l = y.l := by rw [hx, hy]; exact HC.out k hlt hlt'
      have hxa : x.At w := HW.out x (by rw [hx]; exact List.getElem_mem hlt)
      have hya : y.At w := HW'.out y (by rw [hy]; exact List.getElem_mem hlt')
      have hxm : x.l.length ≤ 1048576 := HM.out x (by rw [hx]; exact List.getElem_mem hlt)
      have ce := Lib.hid fun n => eqInts_same x y (wr.drewN n) (hxa.on (hdw.more n).below) (hya.on (hdw.more n).below) hxe hxm
      have hlti : (k : Int) < (R.length : Int) := by omega
      clear hx hy hcell hcell' hxe hxa hya hxm hlt'
      go_wp2
      go_quiet ((go_at_call 11; exact Calls.quiet_of (ce.out _)))
      go_wp2
      go_roundw
      case rel => exact ⟨k + 1, by omega, by go_num, hdw.more _⟩
      case measure => simp [intOf]; omega
    · obtain rfl : k = R.length := by omega
      go_wp2
      go_ret
      exact ⟨rfl, hdw⟩

/-- Small enough to be marked. -/
def Fld.Small (F : Fld) : Prop := F.o.l.length + F.t.R.length + tot F.t.con ≤ 1048576
theorem tot_mem {R : List Row} {r : Row} (h : r ∈ R) : r.l.length ≤ tot (R.map Row.l) := by
  induction R with
  | nil => cases h
  | cons s R ih =>
    have e : tot ((s :: R).map Row.l) = s.l.length + tot (R.map Row.l) := by simp [tot]
    rcases List.mem_cons.1 h with h | h
    · subst h; omega
    · have := ih h; omega
theorem Fld.Small.rows {F : Fld} (h : F.Small) : F.o.l.length ≤ 1048576 ∧ F.t.R.length ≤ 1048576 ∧ ∀ r ∈ F.t.R, r.l.length ≤ 1048576 := by
  unfold Fld.Small at h
  refine ⟨by omega, by omega, fun r hr => ?_⟩
  have := tot_mem hr
  have e : tot F.t.con = tot (F.t.R.map Row.l) := rfl
  omega
theorem Fld.Small.like {F G : Fld} (h : F.Small) (hl : F.Like G) : G.Small := by
  unfold Fld.Small at h ⊢
  have := congrArg List.length hl.2
  simp only [Tab.con, List.length_map] at this
  rw [← hl.1, ← hl.2, ← this]; exact h
theorem Fld.Like.symm {F G : Fld} (h : F.Like G) : G.Like F := ⟨h.1.symm, h.2.symm⟩
theorem Fld.Like.trans {F G K : Fld} (h : F.Like G) (k : G.Like K) : F.Like K := ⟨h.1.trans k.1, h.2.trans k.2⟩

end Go.Proofs.Ytddnadipleknoaa
