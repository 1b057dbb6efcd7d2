/- Whether each client has a near site: the contracts of both sides. Condition: a valid Field. -/
import Derived.Test.YtjeodblaekdpkaaFarImpl
import Derived.RangeFuncBox
namespace Go.Proofs.Ytjeodblaekdpkaa
open Go.RowKit

def nearB (r : Int) (l : List Int) : Bool := l.any fun x => decide (x ≤ r)
def allNearB (F : Fld) (r : Int) : Bool := F.t.con.all (nearB r)
theorem allNear_like {F G : Fld} (h : F.Like G) (r : Int) : allNearB F r = allNearB G r := by unfold allNearB; rw [h.2]
theorem near_marks (l : List Int) (r : Int) (h7 : l.length ≤ 7) (u : Nat → Bool) (hu : u = nearAt l r l.length) :
    (!u 0 && !u 1 && !u 2 && !u 3 && !u 4 && !u 5 && !u 6) = !nearB r l := by
  have hA : ∀ a, u a = (decide (a < l.length) && decide (l.getD a 0 ≤ r)) := fun a => by rw [hu]; rfl
  rw [Bool.eq_iff_iff]
  simp only [Bool.and_eq_true, Bool.not_eq_true', and_assoc]
  unfold nearB
  rw [List.any_eq_false]
  constructor
  · rintro ⟨h0, h1, h2, h3, h4, h5, h6⟩ x hx hl
    obtain ⟨a, ha, rfl⟩ := List.mem_iff_getElem.1 hx
    have hu1 : u a = true := by rw [hA, getD_at ha]; simp only [Bool.and_eq_true, decide_eq_true_eq]; exact ⟨ha, by simpa using hl⟩
    rcases lt7 (by omega : a < 7) with rfl | rfl | rfl | rfl | rfl | rfl | rfl
    · rw [hu1] at h0; cases h0
    · rw [hu1] at h1; cases h1
    · rw [hu1] at h2; cases h2
    · rw [hu1] at h3; cases h3
    · rw [hu1] at h4; cases h4
    · rw [hu1] at h5; cases h5
    · rw [hu1] at h6; cases h6
  · intro h
    have hF : ∀ a, u a = false := fun a => by
      rw [hA, Bool.eq_false_iff]
      intro e
      simp only [Bool.and_eq_true, decide_eq_true_eq] at e
      rw [getD_at e.1] at e
      exact h _ (List.getElem_mem e.1) (by simpa using e.2)
    exact ⟨hF 0, hF 1, hF 2, hF 3, hF 4, hF 5, hF 6⟩

set_option maxHeartbeats 1000000 in
theorem allHave1_any (x : Row) (r : Int) (g : Nat) (w : World) (hx : x.At w) (h7 : x.l.length ≤ 7) (hg : w.cell? ⟨g, 0, none⟩ = some (.int .i64 r)) :
    Calls Try.prog 95 #[.slice x.a x.l.length x.c, .pointer (some ⟨g, 0, none⟩)] w fun e w' => e = .returned (.bool (!nearB r x.l)) ∧ Below w.heap.size w w' := by
  have C1 := Lib.hid (sitesWithin_any x r w hx h7)
  have C2 := Lib.hid (fun u => by have := isEmpty_any (nearAt x.l r x.l.length) u; rw [near_marks x.l r h7 _ rfl] at this; exact this)
  clear hx h7
  go_enter Try.func95, Try.ntmps95
  go_wp2_with fail
  refine (show Calls _ _ _ _ _ from C1.out).mono ?_
  rintro e W1 ⟨rfl, hb1⟩
  go_wp2_with fail
  refine (show Calls _ _ _ _ _ from C2.out W1).mono ?_
  rintro e W2 ⟨rfl, hb2⟩
  go_wp2
  go_ret
  exact ⟨rfl, hb1.trans (hb2.mono hb1.size)⟩

set_option maxHeartbeats 1000000 in
theorem indexNear_any (T : Tab) (r : Int) (g : Nat) (w : World) (hT : T.At w) (h7 : ∀ x ∈ T.R, x.l.length ≤ 7) (hg : w.cell? ⟨g, 0, none⟩ = some (.int .i64 r)) :
    Calls Try.prog 118 #[.slice T.a T.R.length T.c, .func (.func 95) #[] #[.pointer (some ⟨g, 0, none⟩)]] w fun e w' => (∃ i : Int, e = .returned (.int .i64 i) ∧ decide (0 ≤ i) = !T.con.all (nearB r)) ∧ Below w.heap.size w w' := by
  obtain ⟨a, c, R⟩ := T
  obtain ⟨⟨h1, h2, h3⟩, hrows⟩ := hT
  simp only at h1 h2 h3 hrows h7 ⊢
  rw [tv_length] at h1
  unfold maxLen at h2
  have hni : (R.length : Int) ≤ 9223372036854775807 := by omega
  have HR := Lib.hid h3
  have HW := Lib.hid hrows
  have H7 := Lib.hid h7
  have hglt : g < w.heap.size := World.block_lt_of_cell? w _ hg
  have HGC := Lib.hid hg
  have HCON : Hid ((Tab.mk a c R).con = R.map Row.l) := Lib.hid rfl
  rw [HCON.out]
  clear h3 hg hrows h7
  go_enter Try.func118, Try.ntmps118
  go_wp2
  go_loopw [5, 8] (fun _ i wr => ∃ k : Nat, k ≤ R.length ∧ i = .int .i64 k ∧ Below w.heap.size w wr ∧ ((R.map Row.l).take k).all (nearB r) = true) (fun _ i _ => R.length - (intOf i).toNat)
  case atStart => exact ⟨0, Nat.zero_le _, rfl, Below.refl _ _, by simp⟩
  case round =>
    obtain ⟨k, hk, rfl, hnx, hall⟩ := hrel
    have HALL := Lib.hid hall
    have HNX := Lib.hid hnx
    clear hall
    by_cases hlt : k < R.length
    · have hlti : (k : Int) < (R.length : Int) := by omega
      rcases HR.out with h3 | ⟨b, o, ha, hb, hcell⟩
      · have h3' := congrArg List.length h3; rw [tv_length, List.length_nil] at h3'; omega
      obtain ⟨x, hx⟩ : ∃ x, x = R[k] := ⟨_, rfl⟩
      have hxm : x ∈ R := by rw [hx]; exact List.getElem_mem hlt
      have hcl : wr.cell? ⟨b, o + k, none⟩ = some (.slice x.a x.l.length x.c) := (hnx.cell (p := ⟨b, o + k, none⟩) hb).trans (by rw [hx]; exact hcell k _ (tv_at hlt))
      obtain ⟨v, hv⟩ : ∃ v, v = nearB r x.l := ⟨_, rfl⟩
      have C1 := Lib.hid (by
        have := allHave1_any x r g wr ((HW.out x hxm).on hnx) (H7.out x hxm) ((hnx.cell (p := ⟨g, 0, none⟩) hglt).trans HGC.out)
        rw [← hv] at this; exact this)
      have HX : Hid ((R.map Row.l)[k]'(by rw [List.length_map]; exact hlt) = x.l) := Lib.hid (by rw [List.getElem_map, hx])
      have HV := Lib.hid hv
      rw [ha]
      clear hx hcell hxm hv ha hnx
      go_wp2_with fail
      refine (show Calls _ _ _ _ _ from C1.out).mono ?_
      rintro e W1 ⟨rfl, hb1⟩
      have HB1 := Lib.hid (HNX.out.trans (hb1.mono HNX.out.size))
      clear hb1 hcl
      cases v with
      | true =>
        have HS : Hid (((R.map Row.l).take (k + 1)).all (nearB r) = true) := Lib.hid (all_take (by rw [List.length_map]; exact hlt) HALL.out (by rw [HX.out]; exact HV.out.symm))
        go_wp2
        go_roundw
        case rel => exact ⟨k + 1, by omega, by go_num, HB1.out, HS.out⟩
        case measure => simp [intOf]; omega
      | false =>
        have HS : Hid ((R.map Row.l).all (nearB r) = false) := Lib.hid (all_out (by rw [List.length_map]; exact hlt) (by rw [HX.out]; exact HV.out.symm))
        go_wp2
        go_ret
        exact ⟨⟨(k : Int), rfl, by rw [HS.out]; simp⟩, HB1.out⟩
    · obtain rfl : k = R.length := by omega
      have HS : Hid ((R.map Row.l).all (nearB r) = true) := Lib.hid (all_end (by rw [List.length_map]; exact HALL.out))
      go_wp2
      go_ret
      exact ⟨⟨-1, rfl, by rw [HS.out]; rfl⟩, hnx⟩

theorem containsNear_any (T : Tab) (r : Int) (g : Nat) (w : World) (hT : T.At w) (h7 : ∀ x ∈ T.R, x.l.length ≤ 7) (hg : w.cell? ⟨g, 0, none⟩ = some (.int .i64 r)) :
    Calls Try.prog 94 #[.slice T.a T.R.length T.c, .func (.func 95) #[] #[.pointer (some ⟨g, 0, none⟩)]] w fun e w' => e = .returned (.bool (!T.con.all (nearB r))) ∧ Below w.heap.size w w' := by
  have CI := Lib.hid (indexNear_any T r g w hT h7 hg)
  clear hT h7 hg
  go_enter Try.func94, Try.ntmps94
  go_wp2_with fail
  refine (show Calls _ _ _ _ _ from CI.out).mono ?_
  rintro e W ⟨⟨i, rfl, hi⟩, hb⟩
  have HI := Lib.hid hi
  clear hi
  go_wp2
  go_ret
  exact ⟨by rw [← HI.out]; rfl, hb⟩

set_option maxHeartbeats 1000000 in
theorem allHaveSites_any (F : Fld) (r : Int) (w : World) (hF : F.At w) (hg : F.good = true) :
    Calls Try.prog 61 #[F.val, .int .i64 r] w fun e w' => e = .returned (.bool (allNearB F r)) ∧ Below w.heap.size w w' := by
  obtain ⟨wA, hA, hbA, bx, hFA, hszA⟩ := laid_fld F w 29 hF
  obtain ⟨wB, hB⟩ : ∃ wB, wB = wA.alloc (.cells #[.int .i64 r] 3) := ⟨_, rfl⟩
  have hbB0 : Below wA.heap.size wA wB := by rw [hB]; exact below_alloc _ _
  have hbB : Below w.heap.size w wB := hbA.trans (hbB0.mono hbA.size)
  have hz : wB.cell? ⟨w.heap.size + 1, 0, none⟩ = some (.int .i64 r) := by
    have := (Boxed.new wA 3 (.int .i64 r)).cell
    rw [← hB, hszA] at this; exact this
  have HB : Hid (wB = (w.alloc (Obj.cells #[F.o.val, F.t.val] 29)).alloc (.cells #[.int .i64 r] 3)) := Lib.hid (by rw [hB, hA])
  have hsz := good_sizes hg
  have CC := Lib.hid (by
    have := containsNear_any F.t r (w.heap.size + 1) wB (hFA.on hbB0).2 (fun x hx => by rw [(good_row hg hx).1]; omega) hz
    rw [show F.t.con.all (nearB r) = allNearB F r from rfl] at this; exact this)
  have x0 := (bx.on hbB0).c0
  have x1 : wB.cell? ⟨w.heap.size, 1, none⟩ = some (.slice F.t.a F.t.R.length F.t.c) := (bx.on hbB0).c1
  rw [HB.out] at x0 x1
  obtain ⟨v, hv⟩ : ∃ v, v = allNearB F r := ⟨_, rfl⟩
  rw [← hv] at CC ⊢
  clear hF hA hFA bx hB hg hsz hz hv
  show Calls _ _ #[.agg #[F.o.val, .slice F.t.a F.t.R.length F.t.c], _] w _
  go_enter Try.func61, Try.ntmps61
  go_wp2_with fail
  rw [show (w.alloc (Obj.cells #[F.o.val, .slice F.t.a F.t.R.length F.t.c] 29)).alloc (.cells #[.int .i64 r] 3) = wB from HB.out.symm]
  refine (show Calls _ _ _ _ _ from CC.out).mono ?_
  rintro e W1 ⟨rfl, hb1⟩
  clear x0 x1
  cases v with
  | true =>
    go_wp2
    go_ret
    exact ⟨rfl, hbB.trans (hb1.mono hbB.size)⟩
  | false =>
    go_wp2
    go_ret
    exact ⟨rfl, hbB.trans (hb1.mono hbB.size)⟩

theorem any_step {l : List Int} {r : Int} {k : Nat} (h : k < l.length) : nearB r (l.take (k + 1)) = (nearB r (l.take k) || decide (l[k] ≤ r)) := by
  unfold nearB; rw [List.take_succ_eq_append_getElem h, List.any_append]; simp

set_option maxHeartbeats 2000000 in
theorem l5Near_any (F : Fld) (r : Int) (w : World) (hF : F.At w) (hg : F.good = true) :
    Calls Try.prog 58 #[F.val, .int .i64 r] w fun e w' => e = .returned (.bool (allNearB F r)) ∧ Below w.heap.size w w' := by
  obtain ⟨wA, hA, hbA, bx, hFA, hszA⟩ := laid_fld F w 29 hF
  have hsz := good_sizes hg
  obtain ⟨n, hn⟩ : ∃ n, n = F.t.R.length := ⟨_, rfl⟩
  obtain ⟨o, ho⟩ : ∃ o, o = F.o.l.length := ⟨_, rfl⟩
  have HN := Lib.hid hn
  have HO := Lib.hid ho
  have hni : (n : Int) ≤ 7 := by omega
  have hoi : (o : Int) ≤ 7 := by omega
  have HX0 : Hid (wA.cell? ⟨w.heap.size, 0, none⟩ = some (.slice F.o.a o F.o.c)) := Lib.hid (by rw [ho]; exact bx.c0)
  have HX1 : Hid (wA.cell? ⟨w.heap.size, 1, none⟩ = some (.slice F.t.a n F.t.c)) := Lib.hid (by rw [hn]; exact bx.c1)
  have HC := Lib.hid fun i (hi : i < F.t.R.length) => row_cells hFA hg (DrewTo.refl wA) hi
  have HRL := Lib.hid fun i (hi : i < F.t.R.length) => (good_row hg (List.getElem_mem hi)).1
  have HA := Lib.hid hA
  clear hF hA hFA bx hg hsz hn ho
  show Calls _ _ #[.agg #[F.o.val, F.t.val], _] w _
  go_enter Try.func58, Try.ntmps58
  go_wp2
  rw [show w.alloc (Obj.cells #[F.o.val, F.t.val] 29) = wA from HA.out.symm]
  go_loopw [5, 6, 7] (fun iv _ _ wr => ∃ k : Nat, k ≤ n ∧ iv = .int .i64 k ∧ (F.t.con.take k).all (nearB r) = true ∧ wr = wA) (fun iv _ _ _ => n - (intOf iv).toNat)
  case atStart => exact ⟨0, Nat.zero_le _, rfl, by simp, rfl⟩
  case round =>
    obtain ⟨k, hk, rfl, hall, rfl⟩ := hrel
    have HALL := Lib.hid hall
    clear hall
    have y0 := HX0.out
    have y1 := HX1.out
    by_cases hlt : k < n
    · have hlti : (k : Int) < (n : Int) := by omega
      have hkR : k < F.t.R.length := by rw [← HN.out]; exact hlt
      have hkc : k < F.t.con.length := by rw [con_length]; exact hkR
      obtain ⟨bt, ot, bi, oi, ci, hta, hci, hri⟩ := HC.out k hkR
      rw [← HO.out] at hci hri
      obtain ⟨l, hl⟩ : ∃ l, l = F.t.R[k].l := ⟨_, rfl⟩
      have hll : l.length = o := by rw [hl, HO.out]; exact HRL.out k hkR
      have HLL := Lib.hid hll
      have HCK : Hid (F.t.con[k] = l) := Lib.hid (by rw [con_at F.t hkR, hl])
      have HRI : Hid (∀ m, (hm : m < l.length) → wr.cell? ⟨bi, oi + m, none⟩ = some (.int .i64 l[m])) := Lib.hid fun m hm => by
        rw [hri m (by rw [← hll]; exact hm), len_at F hkR, ← hl, getD_at hm]
      have HTA := Lib.hid hta
      have HY1 : Hid (wr.cell? ⟨w.heap.size, 1, none⟩ = some (.slice (some ⟨bt, ot, none⟩) n F.t.c)) := Lib.hid (by rw [← hta]; exact y1)
      clear hl hll hri hta y1
      have y1 := HX1.out
      go_wp2
      clear y1
      have y1 := HY1.out
      go_loopw [6, 7] (fun nv jv wi => ∃ j : Nat, j ≤ o ∧ jv = .int .i64 j ∧ nv = .bool (nearB r (l.take j)) ∧ wi = wr) (fun _ jv _ => o - (intOf jv).toNat)
      case atStart => exact ⟨0, Nat.zero_le _, rfl, rfl, rfl⟩
      case round =>
        obtain ⟨j, hj, rfl, rfl, rfl⟩ := hrel
        obtain ⟨u, hu⟩ : ∃ u, u = nearB r (l.take j) := ⟨_, rfl⟩
        rw [← hu]
        by_cases hltj : j < o
        · have hltji : (j : Int) < (o : Int) := by omega
          have hjl : j < l.length := by rw [HLL.out]; exact hltj
          obtain ⟨x, hx⟩ : ∃ x, x = l[j] := ⟨_, rfl⟩
          have hcx : wr.cell? ⟨bi, oi + j, none⟩ = some (.int .i64 x) := by rw [hx]; exact HRI.out j hjl
          have HST : Hid (nearB r (l.take (j + 1)) = (u || decide (x ≤ r))) := Lib.hid (by rw [any_step hjl, ← hu, ← hx])
          clear hu hx hjl
          cases u with
          | true =>
            have HS1 : Hid (nearB r (l.take (j + 1)) = true) := Lib.hid (by rw [HST.out]; rfl)
            go_wp2
            go_roundw
            case rel => exact ⟨j + 1, by omega, by go_num, by rw [HS1.out], by first | rfl | trivial⟩
            case measure => simp [intOf]; omega
          | false =>
            by_cases hxr : x ≤ r
            · have HS1 : Hid (nearB r (l.take (j + 1)) = true) := Lib.hid (by rw [HST.out, decide_eq_true hxr]; rfl)
              go_wp2
              go_roundw
              case rel => exact ⟨j + 1, by omega, by go_num, by rw [HS1.out], by first | rfl | trivial⟩
              case measure => simp [intOf]; omega
            · have HS1 : Hid (nearB r (l.take (j + 1)) = false) := Lib.hid (by rw [HST.out, decide_eq_false hxr]; rfl)
              go_wp2
              go_roundw
              case rel => exact ⟨j + 1, by omega, by go_num, by rw [HS1.out], by first | rfl | trivial⟩
              case measure => simp [intOf]; omega
        · obtain rfl : j = o := by omega
          have hfull : nearB r l = u := by rw [hu, List.take_of_length_le (by rw [HLL.out]; exact Nat.le_refl _)]
          have HFU := Lib.hid hfull
          clear hu hfull
          cases u with
          | true =>
            have HS1 : Hid ((F.t.con.take (k + 1)).all (nearB r) = true) := Lib.hid (all_take hkc HALL.out (by rw [HCK.out]; exact HFU.out))
            go_wp2
            go_roundw
            case rel => exact ⟨k + 1, by omega, by go_num, HS1.out, by first | rfl | trivial⟩
            case measure => simp [intOf]; omega
          | false =>
            have HS1 : Hid (allNearB F r = false) := Lib.hid (all_out hkc (by rw [HCK.out]; exact HFU.out))
            go_wp2
            go_ret
            exact ⟨by rw [HS1.out]; rfl, hbA⟩
    · obtain rfl : k = n := by omega
      have HS1 : Hid (allNearB F r = true) := Lib.hid (by
        have := HALL.out
        rw [List.take_of_length_le (by rw [con_length, HN.out]; exact Nat.le_refl _)] at this; exact this)
      go_wp2
      go_ret
      exact ⟨by rw [HS1.out]; rfl, hbA⟩
end Go.Proofs.Ytjeodblaekdpkaa
