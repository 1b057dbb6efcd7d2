/- The contracts of the laws' marking of lists of integers, tables and Fields: each number is written over, and the numbers are read back. Condition: the memory is the call's own, the numbers are small. -/
import Derived.Test.YtemflcegkebloaaTab
namespace Go.Proofs.Ytemflcegkebloaa
open Go.RowKit

set_option maxHeartbeats 1000000 in
theorem markInts_any (r : Row) (k : Nat) (w : World) (lo hi : Nat) (hr : r.In lo hi w) (ho : r.Own 3 w) (hn : r.l.length ≤ 1048576) (hk : k ≤ 8388608) :
    Calls Try.prog 13 #[.slice r.a r.l.length r.c, .int .i64 k] w fun e w' => e = .returned (.int .i64 ((k + r.l.length : Nat) : Int)) ∧ (r.mark k).In lo hi w' ∧ (r.mark k).Own 3 w' ∧ Wrote r w w' := by
  obtain ⟨a, c, l⟩ := r
  simp only at hn ⊢
  have hni : (l.length : Int) ≤ 1048576 := by omega
  have hki : (k : Int) ≤ 8388608 := by omega
  by_cases hl : l = []
  · subst hl
    go_enter Try.func13, Try.ntmps13
    go_wp2
    go_loop [1, 5] (fun x i => x = .int .i64 k ∧ i = .int .i64 0) (fun _ _ => 0)
    case atStart => exact ⟨rfl, rfl⟩
    case round =>
      obtain ⟨rfl, rfl⟩ := hrel
      go_wp2
      go_ret
      exact ⟨rfl, hr, .inl rfl, Wrote.same _ _⟩
  obtain ⟨g, ha, ho2⟩ := ho.resolve_left hl
  simp only at ha ho2
  subst ha
  clear ho
  have ho := ho2
  clear ho2
  obtain ⟨_, _, h3⟩ := hr
  obtain ⟨_, _, e0, hlo, hhi, hbl, _⟩ := h3.resolve_left (fun h => hl (iv_nil h))
  simp only [Option.some.injEq, Addr.mk.injEq] at e0
  obtain ⟨rfl, rfl, _⟩ := e0
  have hml : (iv (nums k l.length)).length = (iv l).length := by rw [iv_length, iv_length, nums_length]
  have HML := Lib.hid hml
  have h0 := ho
  rw [← over_zero (iv l) (iv (nums k l.length))] at h0
  have HLN := Lib.hid hl
  clear hml ho h3 hl
  go_enter Try.func13, Try.ntmps13
  go_wp2
  go_loopw [1, 5] (fun kk i wr => ∃ j : Nat, j ≤ l.length ∧ i = .int .i64 j ∧ kk = .int .i64 ((k + j : Nat) : Int) ∧ wr.ownsRow 0 3 1 (.slice (some ⟨g, 0, none⟩) l.length c) l.length (over (iv l) (iv (nums k l.length)) j) ∧ Touch g (g + 1) w wr) (fun _ i _ => l.length - (intOf i).toNat)
  case atStart => exact ⟨0, Nat.zero_le _, rfl, rfl, h0, Touch.refl _ _ _⟩
  case round =>
    obtain ⟨j, hj, rfl, rfl, hown, hb⟩ := hrel
    clear h0
    by_cases hlt : j < l.length
    · have hlti : (j : Int) < (l.length : Int) := by omega
      obtain ⟨q, hq⟩ : ∃ q : Nat, q = k + j := ⟨_, rfl⟩
      rw [← hq]
      have hqi : (q : Int) ≤ 16777216 := by omega
      have HQ := Lib.hid hq
      clear hq
      have hll := over_length (iv l) (iv (nums k l.length)) j HML.out
      rw [iv_length] at hll
      obtain ⟨u, hu⟩ : ∃ u, wr.cell? ⟨g, j, none⟩ = some u := ⟨_, (hown.cellAt j (by omega)).trans (List.getElem?_eq_getElem (by rw [hll]; exact hlt))⟩
      have hf := hown.frozenAt j
      have hst := hown.stored j (.int .i64 (q : Int))
      have hat : (iv (nums k l.length))[j]? = some (.int .i64 (q : Int)) := by
        rw [iv_at (by rw [nums_length]; exact hlt), nums_at hlt, ← HQ.out]
      rw [over_set _ _ j _ HML.out hat] at hst
      have R1 := hst.1
      have R2 : Touch g (g + 1) w (wr.setCell ⟨g, j, none⟩ (.int .i64 (q : Int))) := hb.trans (set_touch wr g j _)
      clear hst hown hat hll hb
      go_wp2
      go_roundw
      case rel => exact ⟨j + 1, by omega, by go_num, by rw [show k + (j + 1) = q + 1 by have := HQ.out; omega]; go_num, R1, R2⟩
      case measure => simp [intOf]; omega
    · obtain rfl : j = l.length := by omega
      have hall := over_all (iv l) (iv (nums k l.length)) HML.out
      rw [iv_length] at hall
      rw [hall] at hown
      clear hall
      go_wp2
      go_ret
      have hown' : wr.ownsRow 0 3 1 (.slice (some ⟨g, 0, none⟩) (nums k l.length).length c) (nums k l.length).length (iv (nums k l.length)) := by rw [nums_length]; exact hown
      have hlt := (owns_lt hown).1
      obtain ⟨q1, q2, q3⟩ := row_of_owns hown'
      refine ⟨rfl, ⟨q1, q2, ?_⟩, .inr ⟨g, rfl, hown'⟩, ⟨hb.os, hb.tape, hb.output, hb.size, fun i hi hne => hb.block i hi fun hg => hne ⟨g, 0, none⟩ HLN.out rfl (by simp only; omega)⟩⟩
      rcases q3 with q3 | ⟨b', o', e', hb', hc'⟩
      · exact .inl q3
      · simp only [Option.some.injEq, Addr.mk.injEq] at e'
        obtain ⟨rfl, rfl, _⟩ := e'
        exact .inr ⟨_, _, rfl, hlo, hhi, hb', hc'⟩

set_option maxHeartbeats 600000 in
theorem heldInts_any (r : Row) (k : Nat) (w : World) (hr : (r.mark k).At w) (hn : r.l.length ≤ 1048576) (hk : k ≤ 8388608) :
    Calls Try.prog 14 #[.slice r.a r.l.length r.c, .int .i64 k] w fun e w' => e = .returned (.int .i64 ((k + r.l.length : Nat) : Int)) ∧ ∃ d, w' = w.drewN d := by
  obtain ⟨a, c, l⟩ := r
  simp only at hn ⊢
  obtain ⟨_, _, h3⟩ := hr
  simp only [Row.mark] at h3
  have hni : (l.length : Int) ≤ 1048576 := by omega
  have hki : (k : Int) ≤ 8388608 := by omega
  have HR := Lib.hid h3
  clear h3
  go_enter Try.func14, Try.ntmps14
  go_wp2
  go_loopw [1, 5] (fun kk i wr => ∃ j d : Nat, j ≤ l.length ∧ i = .int .i64 j ∧ kk = .int .i64 ((k + j : Nat) : Int) ∧ wr = w.drewN d) (fun _ i _ => l.length - (intOf i).toNat)
  case atStart => exact ⟨0, 0, Nat.zero_le _, rfl, rfl, rfl⟩
  case round =>
    obtain ⟨j, d, hj, rfl, rfl, rfl⟩ := hrel
    by_cases hlt : j < l.length
    · have hlti : (j : Int) < (l.length : Int) := by omega
      rcases HR.out with h3 | ⟨b, o, rfl, hb, hcell⟩
      · have h3' := congrArg List.length (iv_nil h3); rw [nums_length, List.length_nil] at h3'; omega
      obtain ⟨q, hq⟩ : ∃ q : Nat, q = k + j := ⟨_, rfl⟩
      have hcl : w.cell? ⟨b, o + j, none⟩ = some (.int .i64 (q : Int)) := hcell j _ (by rw [iv_at (by rw [nums_length]; exact hlt), nums_at hlt, ← hq])
      rw [← hq]
      have hqi : (q : Int) ≤ 16777216 := by omega
      have HQ := Lib.hid hq
      clear hq hcell
      go_wp2
      go_roundw
      case rel => exact ⟨j + 1, d, by omega, by go_num, by rw [show k + (j + 1) = q + 1 by have := HQ.out; omega]; go_num, rfl⟩
      case measure => simp [intOf]; omega
    · obtain rfl : j = l.length := by omega
      go_wp2
      go_ret
      exact ⟨rfl, _, rfl⟩

/-- What has been written behind i rows: the first i are marked, the others stand. -/
def Part (lo hi k i : Nat) (R : List Row) (w : World) : Prop :=
  ∀ j (h : j < R.length), (if j < i then R[j].mark (k + tot ((R.map Row.l).take j)) else R[j]).In lo hi w ∧ (if j < i then R[j].mark (k + tot ((R.map Row.l).take j)) else R[j]).Own 3 w
theorem part_step {lo hi k i : Nat} {R : List Row} {w w' : World} (h : Part lo hi k i R w) (hi' : i < R.length) (hap : R.Pairwise Row.Apart) (hw : Wrote R[i] w w')
    (h1 : (R[i].mark (k + tot ((R.map Row.l).take i))).In lo hi w') (h2 : (R[i].mark (k + tot ((R.map Row.l).take i))).Own 3 w') : Part lo hi k (i + 1) R w' := by
  intro j hj
  obtain ⟨a1, a2⟩ := h j hj
  have hpa : ∀ a b, (ha : a < R.length) → (hb : b < R.length) → a ≠ b → R[a].Apart R[b] := fun a b ha hb hne => by
    rcases Nat.lt_or_gt_of_ne hne with h | h
    · exact List.pairwise_iff_getElem.1 hap a b ha hb h
    · exact (List.pairwise_iff_getElem.1 hap b a hb ha h).symm
  by_cases hji : j = i
  · subst hji; rw [if_pos (by omega)]; exact ⟨h1, h2⟩
  by_cases hlt : j < i
  · rw [if_pos hlt] at a1 a2
    rw [if_pos (by omega)]
    have := ((hpa j i hj hi' hji).mark_left (k + tot ((R.map Row.l).take j))).symm
    exact ⟨a1.wrote hw this, a2.wrote a1 hw this⟩
  · rw [if_neg hlt] at a1 a2
    rw [if_neg (by omega)]
    have := (hpa i j hi' hj (fun e => hji e.symm))
    exact ⟨a1.wrote hw this, a2.wrote a1 hw this⟩

set_option maxHeartbeats 1000000 in
/-- The marking of a table. What lies apart from its rows stays as it is. -/
theorem markTab_any (T : Tab) (k : Nat) (w : World) (lo hi : Nat) (hT : T.In lo hi w) (ho : T.Own 3 w) (hn : T.R.length ≤ 1048576) (hm : tot T.con ≤ 1048576) (hk : k ≤ 4194304) :
    Calls Try.prog 23 #[.slice T.a T.R.length T.c, .int .i64 k] w fun e w' => e = .returned (.int .i64 ((k + tot T.con : Nat) : Int)) ∧ Part lo hi k T.R.length T.R w' ∧ RowIn lo hi w' T.a T.c (tv T.R) ∧ Touch lo hi w w' ∧ ∀ (s : Row) (p q : Nat), (∀ r ∈ T.R, r.Apart s) → s.In p q w → s.In p q w' ∧ (s.Own 3 w → s.Own 3 w') := by
  obtain ⟨a, c, R⟩ := T
  obtain ⟨hrow, hins⟩ := hT
  obtain ⟨⟨hown, hap⟩, hoff⟩ := ho
  simp only at hrow hins hown hap hoff hn ⊢
  have hni : (R.length : Int) ≤ 1048576 := by omega
  have hki : (k : Int) ≤ 4194304 := by omega
  have hcone : Tab.con ⟨a, c, R⟩ = R.map Row.l := rfl
  rw [hcone] at hm ⊢
  have hmono : ∀ j, j ≤ R.length → tot ((R.map Row.l).take j) ≤ tot (R.map Row.l) := fun j hj => by
    conv => rhs; rw [← List.take_append_drop j (R.map Row.l)]
    unfold tot; rw [List.map_append, List.sum_append]; omega
  have hstep : ∀ j (h : j < R.length), tot ((R.map Row.l).take (j + 1)) = tot ((R.map Row.l).take j) + R[j].l.length := fun j h => by
    rw [tot_step (by simpa using h)]; simp
  have hall : tot ((R.map Row.l).take R.length) = tot (R.map Row.l) := by have := tot_all (R.map Row.l); simpa using this
  have p0 : Part lo hi k 0 R w := fun j h => by rw [if_neg (by omega)]; exact ⟨hins _ (List.getElem_mem h), hown _ (List.getElem_mem h)⟩
  have hmem : ∀ r ∈ R, r.l.length ≤ 1048576 := fun r hr => by have := tot_mem hr; omega
  obtain ⟨S, hS⟩ : ∃ S : Nat → Nat, ∀ j, S j = tot ((R.map Row.l).take j) := ⟨_, fun _ => rfl⟩
  have HSd := Lib.hid hS
  have HP0 := Lib.hid p0
  have HAP := Lib.hid hap
  have HOFF := Lib.hid hoff
  have HROW := Lib.hid hrow
  have HMEM := Lib.hid hmem
  have HMO := Lib.hid (fun j hj => by rw [hS j]; exact hmono j hj : ∀ j, j ≤ R.length → S j ≤ tot (R.map Row.l))
  have HST := Lib.hid (fun j h => by rw [hS, hS]; exact hstep j h : ∀ j (h : j < R.length), S (j + 1) = S j + R[j].l.length)
  have HALL := Lib.hid (show S R.length = tot (R.map Row.l) by rw [hS]; exact hall)
  have HS0 : Hid (S 0 = 0) := Lib.hid (by rw [hS]; rfl)
  have HM := Lib.hid hm
  clear hS p0 hap hoff hrow hmem hins hown hmono hstep hall hm hcone
  go_enter Try.func23, Try.ntmps23
  go_wp2
  go_loopw [1, 5] (fun kk i wr => ∃ j : Nat, j ≤ R.length ∧ i = .int .i64 j ∧ kk = .int .i64 ((k + S j : Nat) : Int) ∧ Part lo hi k j R wr ∧ RowIn lo hi wr a c (tv R) ∧ Touch lo hi w wr ∧ ∀ (s : Row) (p q : Nat), (∀ r ∈ R, r.Apart s) → s.In p q w → s.In p q wr ∧ (s.Own 3 w → s.Own 3 wr)) (fun _ i _ => R.length - (intOf i).toNat)
  case atStart => exact ⟨0, Nat.zero_le _, rfl, by rw [HS0.out]; rfl, HP0.out, HROW.out, Touch.refl _ _ _, fun s p q _ h => ⟨h, id⟩⟩
  case round =>
    obtain ⟨j, hj, rfl, rfl, hpart, hrow, ht, hothers⟩ := hrel
    by_cases hlt : j < R.length
    · have hlti : (j : Int) < (R.length : Int) := by omega
      have hrow0 := hrow
      obtain ⟨_, _, h3⟩ := hrow
      rcases h3 with h3 | ⟨b, o, rfl, _, _, hb, hcell⟩
      · have h3' := congrArg List.length h3; rw [tv_length, List.length_nil] at h3'; omega
      have hcl := hcell j _ (tv_at hlt)
      obtain ⟨x, hx⟩ : ∃ x, x = R[j] := ⟨_, rfl⟩
      rw [← hx] at hcl
      have hxin : x.In lo hi wr ∧ x.Own 3 wr := by have := hpart j hlt; rw [if_neg (Nat.lt_irrefl j)] at this; rw [hx]; exact this
      have hxm : x.l.length ≤ 1048576 := HMEM.out x (by rw [hx]; exact List.getElem_mem hlt)
      have hSj := HMO.out j hj
      obtain ⟨q, hq⟩ : ∃ q : Nat, q = k + S j := ⟨_, rfl⟩
      have hq2 : q ≤ 8388608 := by have := HM.out; omega
      rw [← hq]
      have cm := Lib.hid (markInts_any x q wr lo hi hxin.1 hxin.2 hxm hq2)
      have HQ := Lib.hid hq
      have HX := Lib.hid hx
      have HPA := Lib.hid hpart
      have HOT := Lib.hid hothers
      have HRO := Lib.hid hrow0
      have hxi := Lib.hid hxin.1
      clear hq hx hcell hpart hothers hrow0 hxin
      go_wp2_with fail
      refine cm.out.mono ?_
      rintro e w1 ⟨rfl, m1, m2, m3⟩
      have hap1 := HAP.out
      have hxe := HX.out
      have R1 : Part lo hi k (j + 1) R w1 := by
        refine part_step HPA.out hlt hap1 (by rw [← hxe]; exact m3) ?_ ?_
        · rw [← hxe, ← HSd.out, ← HQ.out]; exact m1
        · rw [← hxe, ← HSd.out, ← HQ.out]; exact m2
      have hxR : x ∈ R := by rw [hxe]; exact List.getElem_mem hlt
      have R2 : RowIn lo hi w1 (some ⟨b, o, none⟩) c (tv R) := RowIn.wrote HRO.out m3 fun x' y' h1 h2 e1 e2 => HOFF.out x hxR x' y' h1 (fun h => h2 (by have h' : R = [] := h; rw [h']; rfl)) e1 e2
      have R3 : Touch lo hi w w1 := ht.trans (m3.touch hxi.out)
      have R4 : ∀ (s : Row) (p q : Nat), (∀ r ∈ R, r.Apart s) → s.In p q w → s.In p q w1 ∧ (s.Own 3 w → s.Own 3 w1) := fun s p q h1 h2 => ⟨(HOT.out s p q h1 h2).1.wrote m3 (h1 x hxR), fun ho => ((HOT.out s p q h1 h2).2 ho).wrote (HOT.out s p q h1 h2).1 m3 (h1 x hxR)⟩
      have R1h := Lib.hid R1
      have R2h := Lib.hid R2
      have R4h := Lib.hid R4
      have hx2 : ((q + x.l.length : Nat) : Int) ≤ 16777216 := by omega
      have HE : Hid (q + x.l.length = k + S (j + 1)) := Lib.hid (by have := HST.out j hlt; rw [← hxe] at this; have := HQ.out; omega)
      clear R1 R2 R4 m1 m2 m3 hap1 hxe hxR ht
      go_wp2
      go_roundw
      case rel => exact ⟨j + 1, by omega, by go_num, by rw [← HE.out]; go_num, R1h.out, R2h.out, R3, R4h.out⟩
      case measure => simp [intOf]; omega
    · obtain rfl : j = R.length := by omega
      go_wp2
      go_ret
      rw [HALL.out]
      exact ⟨rfl, hpart, hrow, ht, hothers⟩

set_option maxHeartbeats 1000000 in
theorem heldTab_any (T : Tab) (k : Nat) (w : World) (lo hi : Nat) (hrow : RowIn lo hi w T.a T.c (tv T.R)) (hp : ∀ j (h : j < T.R.length), (T.R[j].mark (k + tot ((T.R.map Row.l).take j))).At w) (hn : T.R.length ≤ 1048576) (hm : tot T.con ≤ 1048576) (hk : k ≤ 4194304) :
    Calls Try.prog 24 #[.slice T.a T.R.length T.c, .int .i64 k] w fun e w' => e = .returned (.int .i64 ((k + tot T.con : Nat) : Int)) ∧ ∃ d, w' = w.drewN d := by
  obtain ⟨a, c, R⟩ := T
  simp only at hrow hp hn ⊢
  have hni : (R.length : Int) ≤ 1048576 := by omega
  have hki : (k : Int) ≤ 4194304 := by omega
  have hcone : Tab.con ⟨a, c, R⟩ = R.map Row.l := rfl
  rw [hcone] at hm ⊢
  have hmono : ∀ j, j ≤ R.length → tot ((R.map Row.l).take j) ≤ tot (R.map Row.l) := fun j hj => by
    conv => rhs; rw [← List.take_append_drop j (R.map Row.l)]
    unfold tot; rw [List.map_append, List.sum_append]; omega
  have hstep : ∀ j (h : j < R.length), tot ((R.map Row.l).take (j + 1)) = tot ((R.map Row.l).take j) + R[j].l.length := fun j h => by
    rw [tot_step (by simpa using h)]; simp
  have hall : tot ((R.map Row.l).take R.length) = tot (R.map Row.l) := by have := tot_all (R.map Row.l); simpa using this
  have hmem : ∀ r ∈ R, r.l.length ≤ 1048576 := fun r hr => by have := tot_mem hr; omega
  obtain ⟨S, hS⟩ : ∃ S : Nat → Nat, ∀ j, S j = tot ((R.map Row.l).take j) := ⟨_, fun _ => rfl⟩
  obtain ⟨_, _, h3⟩ := hrow
  have HSd := Lib.hid hS
  have HR := Lib.hid h3
  have HP := Lib.hid hp
  have HMEM := Lib.hid hmem
  have HMO := Lib.hid (fun j hj => by rw [hS j]; exact hmono j hj : ∀ j, j ≤ R.length → S j ≤ tot (R.map Row.l))
  have HST := Lib.hid (fun j h => by rw [hS, hS]; exact hstep j h : ∀ j (h : j < R.length), S (j + 1) = S j + R[j].l.length)
  have HALL := Lib.hid (show S R.length = tot (R.map Row.l) by rw [hS]; exact hall)
  have HS0 : Hid (S 0 = 0) := Lib.hid (by rw [hS]; rfl)
  have HM := Lib.hid hm
  clear hS h3 hp hmem hmono hstep hall hm hcone
  go_enter Try.func24, Try.ntmps24
  go_wp2
  go_loopw [1, 5] (fun kk i wr => ∃ j d : Nat, j ≤ R.length ∧ i = .int .i64 j ∧ kk = .int .i64 ((k + S j : Nat) : Int) ∧ wr = w.drewN d) (fun _ i _ => R.length - (intOf i).toNat)
  case atStart => exact ⟨0, 0, Nat.zero_le _, rfl, by rw [HS0.out]; rfl, rfl⟩
  case round =>
    obtain ⟨j, d, hj, rfl, rfl, rfl⟩ := hrel
    by_cases hlt : j < R.length
    · have hlti : (j : Int) < (R.length : Int) := by omega
      rcases HR.out with h3 | ⟨b, o, rfl, _, _, hb, hcell⟩
      · have h3' := congrArg List.length h3; rw [tv_length, List.length_nil] at h3'; omega
      obtain ⟨x, hx⟩ : ∃ x, x = R[j] := ⟨_, rfl⟩
      have hcl : (w.drewN d).cell? ⟨b, o + j, none⟩ = some (.slice x.a x.l.length x.c) := by rw [hx]; exact hcell j _ (tv_at hlt)
      have hxm : x.l.length ≤ 1048576 := HMEM.out x (by rw [hx]; exact List.getElem_mem hlt)
      have hSj := HMO.out j hj
      obtain ⟨q, hq⟩ : ∃ q : Nat, q = k + S j := ⟨_, rfl⟩
      have hq2 : q ≤ 8388608 := by have := HM.out; omega
      have hxin : (x.mark q).At (w.drewN d) := by rw [hx, hq, HSd.out]; exact (HP.out j hlt).on (below_draws w d)
      rw [← hq]
      have cm := Lib.hid (heldInts_any x q (w.drewN d) hxin hxm hq2)
      have hx2 : ((q + x.l.length : Nat) : Int) ≤ 16777216 := by omega
      have hx0 : ¬ ((q + x.l.length : Nat) : Int) < 0 := by omega
      have HE : Hid (q + x.l.length = k + S (j + 1)) := Lib.hid (by have := HST.out j hlt; rw [← hx] at this; omega)
      clear hq hx hcell hxin
      go_wp2_with fail
      refine cm.out.mono ?_
      rintro e w1 ⟨rfl, d', rfl⟩
      rw [World.drewN_drewN]
      go_wp2
      go_roundw
      case rel => exact ⟨j + 1, _, by omega, by go_num, by rw [← HE.out]; go_num, rfl⟩
      case measure => simp [intOf]; omega
    · obtain rfl : j = R.length := by omega
      go_wp2
      go_ret
      rw [HALL.out]
      exact ⟨rfl, _, rfl⟩

end Go.Proofs.Ytemflcegkebloaa
