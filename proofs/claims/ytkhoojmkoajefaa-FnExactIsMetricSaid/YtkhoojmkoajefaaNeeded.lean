/- The contracts of the tests whether a site replaces another one, on both sides. Condition: a valid Field and two of its sites. -/
import Derived.Test.YtkhoojmkoajefaaServe
import Derived.Test.YtkhoojmkoajefaaPlainNeeded
namespace Go.Proofs.Ytkhoojmkoajefaa
open Go.RowKit

/-- What a Field's cells hold, in a world that has only drawn since. -/
structure Cells (F : Fld) (wA wr : World) (n : Nat) (g : Nat) : Prop where
  o : ∃ b o, F.o.a = some ⟨b, o, none⟩ ∧ ∀ m, m < n → wr.cell? ⟨b, o + m, none⟩ = some (.int .i64 (F.o.l.getD m 0))
  t : ∀ i (h : i < F.t.R.length), ∃ b o b' o', F.t.a = some ⟨b, o, none⟩ ∧ F.t.R[i].a = some ⟨b', o', none⟩ ∧ wr.cell? ⟨b, o + i, none⟩ = some (.slice (some ⟨b', o', none⟩) F.t.R[i].l.length F.t.R[i].c) ∧ F.t.R[i].l.length = n ∧ ∀ m, m < n → wr.cell? ⟨b', o' + m, none⟩ = some (.int .i64 (F.t.R[i].l.getD m 0))
theorem cells_of {F : Fld} {wA wr : World} {g : Nat} (hF : F.At wA) (hg : F.good = true) (hd : DrewTo wA wr) : Cells F wA wr F.o.l.length g := by
  have h1 := good_sizes hg
  constructor
  · obtain ⟨_, _, h3⟩ := hF.1
    rcases h3 with h3 | ⟨b, o, ha, _, hc⟩
    · have h3' := congrArg List.length (iv_nil h3); rw [List.length_nil] at h3'; omega
    · exact ⟨b, o, ha, fun m hm => by rw [hd.cell, getD_at hm]; exact hc m _ (iv_at hm)⟩
  · intro i hi
    obtain ⟨_, _, h3⟩ := hF.2.1
    rcases h3 with h3 | ⟨b, o, ha, _, hc⟩
    · have h3' := congrArg List.length h3; rw [tv_length, List.length_nil] at h3'; omega
    have hm := List.getElem_mem hi
    obtain ⟨hl, _⟩ := good_row hg hm
    obtain ⟨_, _, g3⟩ := hF.2.2 _ hm
    rcases g3 with g3 | ⟨b', o', ha', _, hc'⟩
    · have g3' := congrArg List.length (iv_nil g3); rw [List.length_nil] at g3'; omega
    refine ⟨b, o, b', o', ha, ha', ?_, hl, fun m hm' => ?_⟩
    · rw [hd.cell, ← ha']; exact hc i _ (tv_at hi)
    · rw [← hl] at hm'; rw [hd.cell, getD_at hm']; exact hc' m _ (iv_at hm')

theorem beq_int (x y : Int) : (x == y) = decide (x = y) := by rw [Bool.eq_iff_iff]; simp
theorem con_all_take (F : Fld) (p : List Int → Bool) {k : Nat} (h : k < F.t.R.length) (ht : (F.t.con.take k).all p = true) (hp : p F.t.R[k].l = true) : (F.t.con.take (k + 1)).all p = true :=
  all_take (by rw [con_length]; exact h) ht (by rw [con_at F.t h]; exact hp)
theorem con_all_out (F : Fld) (p : List Int → Bool) {k : Nat} (h : k < F.t.R.length) (hp : p F.t.R[k].l = false) : F.t.con.all p = false :=
  all_out (k := k) (by rw [con_length]; exact h) (by rw [con_at F.t h]; exact hp)
theorem con_alike_step (F : Fld) {k : Nat} {a b : Nat} {u v : Bool} (h : k < F.t.R.length) (hv : v = (u && (F.t.con.take k).all (alike a b))) : (v && alike a b F.t.R[k].l) = (u && (F.t.con.take (k + 1)).all (alike a b)) := by
  have := alike_step (k := k) (by rw [con_length]; exact h) hv
  rw [con_at F.t h] at this; exact this

set_option maxHeartbeats 2000000 in
theorem l2Replaces_any (F : Fld) (a b : Nat) (w : World) (hF : F.At w) (hg : F.good = true) (ha : a < F.o.l.length) (hb : b < F.o.l.length) :
    Calls Try.prog 73 #[F.val, .int .i64 a, .int .i64 b] w fun e w' => e = .returned (.bool (repB F.o.l F.t.con a b)) ∧ Below w.heap.size w w' := by
  obtain ⟨wA, hA, hbA, bx, hFA, _⟩ := laid_fld F w 28 hF
  have hsz := good_sizes hg
  have HCE := Lib.hid fun wr (hd : DrewTo wA wr) => cells_of (g := 0) hFA hg hd
  obtain ⟨bo, oo, hoa, hoc⟩ := (HCE.out wA (DrewTo.refl _)).o
  obtain ⟨x, hx⟩ : ∃ x, x = F.o.l.getD a 0 := ⟨_, rfl⟩
  obtain ⟨y, hy⟩ : ∃ y, y = F.o.l.getD b 0 := ⟨_, rfl⟩
  obtain ⟨u, hu⟩ : ∃ u, u = alike a b F.o.l := ⟨_, rfl⟩
  have hxy : (x == y) = u := by rw [beq_int, hu, hx, hy]; rfl
  have HXA := Lib.hid (fun wr (hd : DrewTo wA wr) => by rw [hd.cell, hx]; exact hoc a ha : ∀ wr, DrewTo wA wr → wr.cell? ⟨bo, oo + a, none⟩ = some (.int .i64 x))
  have HXB := Lib.hid (fun wr (hd : DrewTo wA wr) => by rw [hd.cell, hy]; exact hoc b hb : ∀ wr, DrewTo wA wr → wr.cell? ⟨bo, oo + b, none⟩ = some (.int .i64 y))
  have HNM : Hid (noMore a b F.o.l = decide (y ≤ x)) := Lib.hid (by unfold noMore; rw [hx, hy])
  have HU := Lib.hid hu
  have HX0 := Lib.hid (fun wr (hd : DrewTo wA wr) => by rw [hd.cell, ← hoa]; exact bx.c0 : ∀ wr, DrewTo wA wr → wr.cell? ⟨w.heap.size, 0, none⟩ = some (.slice (some ⟨bo, oo, none⟩) F.o.l.length F.o.c))
  have HX1 := Lib.hid (fun wr (hd : DrewTo wA wr) => by rw [hd.cell]; exact bx.c1 : ∀ wr, DrewTo wA wr → wr.cell? ⟨w.heap.size, 1, none⟩ = some (.slice F.t.a F.t.R.length F.t.c))
  have hai : (a : Int) < (F.o.l.length : Int) := by omega
  have hbi : (b : Int) < (F.o.l.length : Int) := by omega
  have hoi : (F.o.l.length : Int) ≤ 7 := by omega
  have hRi : (F.t.R.length : Int) ≤ 7 := by omega
  have HA := Lib.hid hA
  have c0 := HX0.out wA (DrewTo.refl _)
  have ca := HXA.out wA (DrewTo.refl _)
  have cb := HXB.out wA (DrewTo.refl _)
  have e0 : (w.alloc (Obj.cells #[.slice (some ⟨bo, oo, none⟩) F.o.l.length F.o.c, .slice F.t.a F.t.R.length F.t.c] 28)) = wA := by rw [hA, ← hoa]; rfl
  have E0 := Lib.hid e0
  rw [← e0] at c0 ca cb
  clear hF hA bx hFA hx hy hu hoc hg e0
  show Calls _ _ #[.agg #[.slice F.o.a F.o.l.length F.o.c, .slice F.t.a F.t.R.length F.t.c], _, _] w _
  rw [hoa]
  clear hoa
  go_enter Try.func73, Try.ntmps73
  go_wp2
  go_quiet (fail)
  clear c0 ca cb
  go_wp2
  go_loopw [7, 8] (fun sv i wr => ∃ (k : Nat) (v : Bool), k ≤ F.t.R.length ∧ i = .int .i64 k ∧ sv = .bool v ∧ v = (u && (F.t.con.take k).all (alike a b)) ∧ (F.t.con.take k).all (noMore a b) = true ∧ DrewTo wA wr) (fun _ i _ => F.t.R.length - (intOf i).toNat)
  case atStart => exact ⟨0, u, Nat.zero_le _, rfl, rfl, by simp, by simp, by rw [E0.out]; exact (DrewTo.refl _).more _⟩
  case round =>
    obtain ⟨k, v, hk, rfl, rfl, hv, hnm, hdw⟩ := hrel
    have HV := Lib.hid hv
    have HM := Lib.hid hnm
    clear hv hnm
    have z0 := HX0.out wr hdw
    have z1 := HX1.out wr hdw
    by_cases hlt : k < F.t.R.length
    · have hlti : (k : Int) < (F.t.R.length : Int) := by omega
      obtain ⟨bt, ot, b', o', hta, hra, hct, hrl, hrc⟩ := (HCE.out wr hdw).t k hlt
      obtain ⟨p, hp⟩ : ∃ p, p = F.t.R[k].l.getD a 0 := ⟨_, rfl⟩
      obtain ⟨q, hq⟩ : ∃ q, q = F.t.R[k].l.getD b 0 := ⟨_, rfl⟩
      have ca := hrc a ha
      have cb := hrc b hb
      rw [← hp] at ca
      rw [← hq] at cb
      rw [hta] at z1
      obtain ⟨rn, hrn⟩ : ∃ n, n = F.t.R[k].l.length := ⟨_, rfl⟩
      obtain ⟨rc, hrcc⟩ : ∃ n, n = F.t.R[k].c := ⟨_, rfl⟩
      rw [← hrn, ← hrcc] at hct
      have har : (a : Int) < (rn : Int) := by omega
      have hbr : (b : Int) < (rn : Int) := by omega
      have hri : (rn : Int) ≤ 7 := by omega
      by_cases hpq : p < q
      · have HS : Hid (repB F.o.l F.t.con a b = false) := Lib.hid (rep_row (con_all_out F _ hlt (by unfold noMore; rw [← hp, ← hq]; simp; omega)))
        clear hp hq hrn hrcc hrc hrl hra hta
        go_wp2
        go_quiet (fail)
        go_wp2
        go_ret
        exact ⟨by rw [HS.out]; rfl, hbA.trans ((hdw.more _).below.mono hbA.size)⟩
      · have HM2 := Lib.hid (con_all_take F (noMore a b) hlt HM.out (by unfold noMore; rw [← hp, ← hq]; simp; omega))
        have hst := con_alike_step F hlt HV.out
        have hal : alike a b F.t.R[k].l = (p == q) := by rw [beq_int, hp, hq]; rfl
        rw [hal] at hst
        obtain ⟨s, hs⟩ : ∃ s, s = (p == q) := ⟨_, rfl⟩
        rw [← hs] at hst
        have hs' : (p == q) = s := hs.symm
        have HST := Lib.hid hst
        clear hp hq hrn hrcc hrc hrl hra hta hst hal hs
        cases v with
        | true =>
          go_wp2
          go_quiet (fail)
          go_wp2
          go_quiet (fail)
          go_wp2
          go_roundw
          case rel => exact ⟨k + 1, s, by omega, by go_num, rfl, by rw [← HST.out]; rfl, HM2.out, hdw.more _⟩
          case measure => simp [intOf]; omega
        | false =>
          go_wp2
          go_quiet (fail)
          go_wp2
          go_quiet (fail)
          go_wp2
          go_roundw
          case rel => exact ⟨k + 1, false, by omega, by go_num, rfl, by rw [← HST.out]; rfl, HM2.out, hdw.more _⟩
          case measure => simp [intOf]; omega
    · obtain rfl : k = F.t.R.length := by omega
      have hall : F.t.con.all (noMore a b) = true := all_end (by rw [con_length]; exact HM.out)
      have hv2 : v = (alike a b F.o.l && F.t.con.all (alike a b)) := by
        have h0 := HV.out
        rw [List.take_of_length_le (by rw [con_length]; exact Nat.le_refl _)] at h0
        rw [h0, HU.out]
      have ca := HXA.out wr hdw
      have cb := HXB.out wr hdw
      have HALL := Lib.hid hall
      have HV2 := Lib.hid hv2
      clear hall hv2 HV
      by_cases hyx : y ≤ x
      · have HR : Hid (repB F.o.l F.t.con a b = (!v || decide (b < a))) := Lib.hid (rep_yes (by rw [HNM.out]; exact decide_eq_true hyx) HALL.out HV2.out)
        by_cases hba : b < a
        · have hbai : (b : Int) < (a : Int) := by omega
          have HR2 : Hid (repB F.o.l F.t.con a b = true) := Lib.hid (by rw [HR.out, decide_eq_true hba]; simp)
          cases v <;>
          · go_wp2
            go_quiet (fail)
            go_wp2
            go_ret
            exact ⟨by rw [HR2.out]; rfl, hbA.trans ((hdw.more _).below.mono hbA.size)⟩
        · have hbai : ¬ (b : Int) < (a : Int) := by omega
          have HR2 : Hid (repB F.o.l F.t.con a b = !v) := Lib.hid (by rw [HR.out, decide_eq_false hba]; simp)
          cases v <;>
          · go_wp2
            go_quiet (fail)
            go_wp2
            go_ret
            exact ⟨by rw [HR2.out]; rfl, hbA.trans ((hdw.more _).below.mono hbA.size)⟩
      · have HR : Hid (repB F.o.l F.t.con a b = false) := Lib.hid (rep_cost (by rw [HNM.out]; exact decide_eq_false hyx))
        have hlt2 : x < y := by omega
        by_cases hba : b < a
        · have hbai : (b : Int) < (a : Int) := by omega
          cases v <;>
          · go_wp2
            have hge : decide (y ≤ x) = false := decide_eq_false (by omega)
            go_quiet (fail)
            go_wp2
            go_ret
            exact ⟨by rw [HR.out]; rfl, hbA.trans ((hdw.more _).below.mono hbA.size)⟩
        · have hbai : ¬ (b : Int) < (a : Int) := by omega
          cases v <;>
          · go_wp2
            have hge : decide (y ≤ x) = false := decide_eq_false (by omega)
            go_quiet (fail)
            go_wp2
            go_ret
            exact ⟨by rw [HR.out]; rfl, hbA.trans ((hdw.more _).below.mono hbA.size)⟩

end Go.Proofs.Ytkhoojmkoajefaa
