/- Whether a ground is metric: the program's side, and the pair. Condition: the table reads as such. -/
import Derived.Test.YtmbgipllkbahpaaMetricG
import Derived.RangeFuncBox
namespace Go.Proofs.Ytmbgipllkbahpaa
open Go.RowKit

set_option maxHeartbeats 1000000 in
theorem indexSh_any (T : Tab) (w : World) (hT : T.At w) (p : List Int → Bool) (x0 x1 x2 : Value) (CO : ∀ x ∈ T.R, ∀ u, Below w.heap.size w u → Calls Try.prog 30 #[.slice x.a x.l.length x.c, x0, x1, x2] u fun e w' => e = .returned (.bool (!p x.l)) ∧ Below u.heap.size u w') :
    Calls Try.prog 53 #[.slice T.a T.R.length T.c, .func (.func 30) #[] #[x0, x1, x2]] w fun e w' => (∃ i : Int, e = .returned (.int .i64 i) ∧ decide (0 ≤ i) = !T.con.all p) ∧ Below w.heap.size w w' := by
  obtain ⟨a, c, R⟩ := T
  obtain ⟨⟨h1, h2, h3⟩, hrows⟩ := hT
  simp only at h1 h2 h3 hrows CO ⊢
  rw [tv_length] at h1
  unfold maxLen at h2
  have hni : (R.length : Int) ≤ 9223372036854775807 := by omega
  have HR := Lib.hid h3
  have HCO := Lib.hid CO
  obtain ⟨L, hL⟩ : ∃ L, L = R.map Row.l := ⟨_, rfl⟩
  have HLL := Lib.hid hL
  have HCON : Hid ((Tab.mk a c R).con = L) := Lib.hid hL.symm
  rw [HCON.out]
  clear h3 hrows CO hL HCON
  go_enter Try.func53, Try.ntmps53
  go_wp2
  go_loopw [5, 8] (fun _ i wr => ∃ k : Nat, k ≤ R.length ∧ i = .int .i64 k ∧ Below w.heap.size w wr ∧ Hid ((L.take k).all p = true)) (fun _ i _ => R.length - (intOf i).toNat)
  case atStart => exact ⟨0, Nat.zero_le _, rfl, Below.refl _ _, Lib.hid (by simp)⟩
  case round =>
    obtain ⟨k, hk, rfl, hnx, HALL⟩ := hrel
    have HNX := Lib.hid hnx
    by_cases hlt : k < R.length
    · have hlti : (k : Int) < (R.length : Int) := by omega
      rcases HR.out with h3 | ⟨b, o, ha, hb, hcell⟩
      · have h3' := congrArg List.length h3; rw [tv_length, List.length_nil] at h3'; omega
      obtain ⟨x, hx⟩ : ∃ x, x = R[k] := ⟨_, rfl⟩
      have hxm : x ∈ R := by rw [hx]; exact List.getElem_mem hlt
      have hcl : wr.cell? ⟨b, o + k, none⟩ = some (.slice x.a x.l.length x.c) := (hnx.cell (p := ⟨b, o + k, none⟩) hb).trans (by rw [hx]; exact hcell k _ (tv_at hlt))
      obtain ⟨v, hv⟩ : ∃ v, v = p x.l := ⟨_, rfl⟩
      have C1 := Lib.hid (by have := HCO.out x hxm wr hnx; rw [← hv] at this; exact this)
      have HX : Hid (∃ h : k < L.length, p L[k] = v) := Lib.hid ⟨by rw [HLL.out, List.length_map]; exact hlt, by simp only [HLL.out, List.getElem_map]; rw [← hx, hv]⟩
      rw [ha]
      clear hx hcell hxm hv ha hnx
      go_wp2_with fail
      refine (show Calls _ _ _ _ _ from C1.out).mono ?_
      rintro e W1 ⟨rfl, hb1⟩
      have HB1 := Lib.hid (HNX.out.trans (hb1.mono HNX.out.size))
      clear hb1 hcl
      cases v with
      | true =>
        have HS : Hid ((L.take (k + 1)).all p = true) := Lib.hid (by obtain ⟨h1, h2⟩ := HX.out; exact all_take h1 HALL.out h2)
        go_wp2
        go_roundw
        case rel => exact ⟨k + 1, by omega, by go_num, HB1.out, HS⟩
        case measure => simp [intOf]; omega
      | false =>
        have HS : Hid (L.all p = false) := Lib.hid (by obtain ⟨h1, h2⟩ := HX.out; exact all_out h1 h2)
        go_wp2
        go_ret
        exact ⟨⟨(k : Int), rfl, by rw [HS.out]; simp⟩, HB1.out⟩
    · obtain rfl : k = R.length := by omega
      have HS : Hid (L.all p = true) := Lib.hid (by
        have h := HALL.out
        rw [List.take_of_length_le (by rw [HLL.out]; rw [List.length_map]; exact Nat.le_refl _)] at h; exact h)
      go_wp2
      go_ret
      exact ⟨⟨-1, rfl, by rw [HS.out]; rfl⟩, hnx⟩

theorem containsSh_any (T : Tab) (w : World) (hT : T.At w) (p : List Int → Bool) (x0 x1 x2 : Value) (CO : ∀ x ∈ T.R, ∀ u, Below w.heap.size w u → Calls Try.prog 30 #[.slice x.a x.l.length x.c, x0, x1, x2] u fun e w' => e = .returned (.bool (!p x.l)) ∧ Below u.heap.size u w') :
    Calls Try.prog 31 #[.slice T.a T.R.length T.c, .func (.func 30) #[] #[x0, x1, x2]] w fun e w' => e = .returned (.bool (!T.con.all p)) ∧ Below w.heap.size w w' := by
  have CI := Lib.hid (indexSh_any T w hT p x0 x1 x2 CO)
  clear hT CO
  go_enter Try.func31, Try.ntmps31
  go_wp2_with fail
  refine (show Calls _ _ _ _ _ from CI.out).mono ?_
  rintro e W ⟨⟨i, rfl, hi⟩, hb⟩
  have HI := Lib.hid hi
  clear hi
  go_wp2
  go_ret
  exact ⟨by rw [← HI.out]; rfl, hb⟩

/-- No shortcut by way of a place. -/
def noShort (i j : Nat) (x : Int) (l : List Int) : Bool := decide (x ≤ l.getD i 0 + l.getD j 0)
set_option maxHeartbeats 1000000 in
theorem shorter_any (r : Row) (i j g1 g2 g3 : Nat) (x : Int) (w : World) (hr : r.At w) (hi : i < r.l.length) (hj : j < r.l.length) (h7 : r.l.length ≤ 7) (hb : r.l.all (upTo 99) = true) (h1 : w.cell? ⟨g1, 0, none⟩ = some (.int .i64 i)) (h2 : w.cell? ⟨g2, 0, none⟩ = some (.int .i64 j)) (h3 : w.cell? ⟨g3, 0, none⟩ = some (.int .i64 x)) :
    Calls Try.prog 30 #[.slice r.a r.l.length r.c, .pointer (some ⟨g1, 0, none⟩), .pointer (some ⟨g2, 0, none⟩), .pointer (some ⟨g3, 0, none⟩)] w fun e w' => e = .returned (.bool (!noShort i j x r.l)) ∧ Below w.heap.size w w' := by
  obtain ⟨b, o, ha, _, hc⟩ := row_cell hr (by omega)
  obtain ⟨y, hy⟩ : ∃ y, y = r.l.getD i 0 := ⟨_, rfl⟩
  obtain ⟨z, hz⟩ : ∃ z, z = r.l.getD j 0 := ⟨_, rfl⟩
  have c1 := hc w (Below.refl _ _) i hi
  have c2 := hc w (Below.refl _ _) j hj
  have b1 := getD_all hb i
  have b2 := getD_all hb j
  rw [← hy] at c1 b1
  rw [← hz] at c2 b2
  obtain ⟨n, hn⟩ : ∃ n, n = r.l.length := ⟨_, rfl⟩
  have hii : (i : Int) < (n : Int) := by omega
  have hji : (j : Int) < (n : Int) := by omega
  have hni : (n : Int) ≤ 7 := by omega
  have HE : Hid ((!noShort i j x r.l) = decide (y + z < x)) := Lib.hid (by
    unfold noShort
    rw [← hy, ← hz]
    by_cases h : x ≤ y + z
    · rw [decide_eq_true h, decide_eq_false (by omega)]; rfl
    · rw [decide_eq_false h, decide_eq_true (by omega)]; rfl)
  rw [HE.out, ha, ← hn]
  clear hr hi hj h7 hb ha hc hy hz hn HE
  go_enter Try.func30, Try.ntmps30
  go_wp2
  go_quiet (fail)
  go_wp2
  go_ret
  exact ⟨rfl, below_draws w _⟩

theorem metG_sym {d : List (List Int)} (h : Grd d) : metG d = true ↔ ∀ i, i < d.length → ∀ j, j < d.length → d.all (noShort i j (cel d i j)) = true := by
  rw [metG_iff]
  constructor
  · intro hm i hi j hj
    rw [List.all_eq_true]
    intro l hl
    obtain ⟨k, hk, rfl⟩ := List.mem_iff_getElem.1 hl
    have := hm i hi j hj k hk
    rw [h.sym hi hk, cel_at d hk, cel_at d hk] at this
    unfold noShort
    exact decide_eq_true this
  · intro hm i hi j hj k hk
    have := List.all_eq_true.1 (hm i hi j hj) d[k] (List.getElem_mem hk)
    unfold noShort at this
    rw [h.sym hi hk, cel_at d hk i, cel_at d hk j]
    exact of_decide_eq_true this

set_option maxRecDepth 16000 in
set_option maxHeartbeats 2000000 in
theorem implMetricG_any (T : Tab) (w : World) (hT : T.At w) :
    Calls Try.prog 15 #[.slice T.a T.R.length T.c] w (PBool2 (grdB T.con && metG T.con) (grdB T.con) w) := by
  have C := Lib.hid (implIsGround_any T w hT)
  by_cases hgb : ¬ grdB T.con = true
  · have hgf : grdB T.con = false := by simpa using hgb
    rw [hgf] at C ⊢
    clear hT hgb hgf
    show Calls _ _ _ _ fun e w' => e = .returned (.tuple #[.bool false, .bool false]) ∧ Below w.heap.size w w'
    go_enter Try.func15, Try.ntmps15
    go_wp2_with fail
    refine (show Calls _ _ _ _ _ from C.out).mono ?_
    rintro e W ⟨rfl, hb⟩
    go_wp2
    go_ret2
    exact ⟨rfl, hb⟩
  have hgt : grdB T.con = true := by simpa using hgb
  have hg := grdB_iff.1 hgt
  rw [hgt] at C ⊢
  obtain ⟨n, hn⟩ : ∃ n, n = T.R.length := ⟨_, rfl⟩
  have HCL : Hid (T.con.length = n) := Lib.hid (by rw [con_length, hn])
  have hn7 : (n : Int) ≤ 7 := by have := hg.few; rw [HCL.out] at this; omega
  have HMS := Lib.hid (metG_sym hg)
  have HT := Lib.hid hT
  have HG := Lib.hid hg
  have HN := Lib.hid hn
  show Calls _ _ _ _ fun e w' => e = .returned (.tuple #[.bool (metG T.con), .bool true]) ∧ Below w.heap.size w w'
  by_cases h0 : n = 0
  · have HE : Hid (metG T.con = true) := Lib.hid (metG_iff.2 fun i hi => by rw [HCL.out] at hi; omega)
    have C1 := Lib.hid (by have := C.out; rw [← hn, h0] at this; exact this)
    rw [HE.out, ← hn]
    subst h0
    clear hT hg hn HE hgb hgt C
    go_enter Try.func15, Try.ntmps15
    go_wp2_with fail
    refine (show Calls _ _ _ _ _ from C1.out).mono ?_
    rintro e W1 ⟨rfl, hb⟩
    go_wp2
    go_loopw [4, 5, 6, 7, 8, 14, 21] (fun _ _ _ _ _ i _ wr => i = .int .i64 0 ∧ W1 = wr) (fun _ _ _ _ _ _ _ _ => 0)
    case atStart => exact ⟨rfl, rfl⟩
    case round =>
      obtain ⟨rfl, rfl⟩ := hrel
      go_wp2
      go_ret2
      exact ⟨rfl, hb⟩
  obtain ⟨b, o, ha, hrow⟩ := grd_cells hT hg (by omega)
  rw [← hn] at hrow
  have HROW := Lib.hid hrow
  have HA := Lib.hid ha
  have C1 := Lib.hid (by have := C.out; rw [← hn, ha] at this; exact this)
  rw [ha, ← hn]
  clear hT hg hn ha hrow hgb hgt C
  go_enter Try.func15, Try.ntmps15
  go_wp2_with fail
  refine (show Calls _ _ _ _ _ from C1.out).mono ?_
  rintro e W1 ⟨rfl, hb⟩
  have HB := Lib.hid hb
  clear hb C1
  go_wp2
  go_loopw [4, 5, 6, 7, 8, 14, 21] (fun _ _ _ _ _ iv _ wr => ∃ i : Nat, i ≤ n ∧ iv = .int .i64 i ∧ Below w.heap.size w wr ∧ Hid (∀ i', i' < i → ∀ j, j < n → T.con.all (noShort i' j (cel T.con i' j)) = true)) (fun _ _ _ _ _ iv _ _ => n - (intOf iv).toNat)
  case atStart => exact ⟨0, Nat.zero_le _, rfl, HB.out, Lib.hid fun i hi => absurd hi (by omega)⟩
  case round =>
    obtain ⟨i, hi, rfl, hnx, HI⟩ := hrel
    by_cases hlt : i < n
    · have hlti : (i : Int) < (n : Int) := by omega
      obtain ⟨V0, rfl⟩ : ∃ V, V = wr := ⟨_, rfl⟩
      obtain ⟨bi, oi, ci, hri⟩ := HROW.out i hlt
      have c1 := (hri V0 hnx).1
      have HRI := Lib.hid hri
      have HNX := Lib.hid hnx
      clear hri
      obtain ⟨V, hV⟩ : ∃ V, V = V0.alloc (Obj.cells #[.int .i64 i] 3) := ⟨_, rfl⟩
      have hbV : Below V0.heap.size V0 V := by rw [hV]; exact below_alloc _ _
      have hgV : V.cell? ⟨V0.heap.size, 0, none⟩ = some (.int .i64 i) := by rw [hV]; exact (Boxed.new V0 3 (.int .i64 i)).cell
      have HG1 := Lib.hid hgV
      have HV := Lib.hid (hnx.trans (hbV.mono hnx.size))
      have HVE := Lib.hid hV
      clear hnx hV hbV hgV
      go_wp2_with fail
      rw [show V0.alloc (Obj.cells #[.int .i64 i] 3) = V from HVE.out.symm]
      clear c1 HVE
      go_loopw [6, 7, 8, 21] (fun _ _ _ jv wr => ∃ j : Nat, j ≤ n ∧ jv = .int .i64 j ∧ Below V.heap.size V wr ∧ Hid (∀ j', j' < j → T.con.all (noShort i j' (cel T.con i j')) = true)) (fun _ _ _ jv _ => n - (intOf jv).toNat)
      case atStart => exact ⟨0, Nat.zero_le _, rfl, Below.refl _ _, Lib.hid fun j hj => absurd hj (by omega)⟩
      case round =>
        obtain ⟨j, hj, rfl, hnx, HJ⟩ := hrel
        by_cases hltj : j < n
        · have hltji : (j : Int) < (n : Int) := by omega
          obtain ⟨x, hx⟩ : ∃ x, x = cel T.con i j := ⟨_, rfl⟩
          have hw := HV.out.trans (hnx.mono HV.out.size)
          have d2 := (HRI.out _ hw).2 j hltj
          rw [← hx] at d2
          have HW := Lib.hid hw
          have HX := Lib.hid hx
          have HNJ := Lib.hid hnx
          clear hw hx hnx
          obtain ⟨U, hU⟩ : ∃ U, U = (wr.alloc (Obj.cells #[.int .i64 j] 3)).alloc (Obj.cells #[.int .i64 x] 3) := ⟨_, rfl⟩
          have hbU : Below wr.heap.size wr U := by rw [hU]; exact (below_alloc _ _).alloc (below_alloc _ _).size _
          have hwU := HW.out.trans (hbU.mono HW.out.size)
          have g1 : U.cell? ⟨V0.heap.size, 0, none⟩ = some (.int .i64 i) := ((HNJ.out.trans (hbU.mono HNJ.out.size)).cell (p := ⟨V0.heap.size, 0, none⟩) (World.block_lt_of_cell? _ _ HG1.out)).trans HG1.out
          have g2 : U.cell? ⟨wr.heap.size, 0, none⟩ = some (.int .i64 j) := by rw [hU]; exact ((Boxed.new wr 3 (.int .i64 j)).alloc _).cell
          have g3 : U.cell? ⟨wr.heap.size + 1, 0, none⟩ = some (.int .i64 x) := by
            have := (Boxed.new (wr.alloc (Obj.cells #[.int .i64 j] 3)) 3 (.int .i64 x)).cell
            rw [size_alloc] at this; rw [hU]; exact this
          have CC := Lib.hid (by
            have := containsSh_any T U (HT.out.on hwU) (noShort i j x) (.pointer (some ⟨V0.heap.size, 0, none⟩)) (.pointer (some ⟨wr.heap.size, 0, none⟩)) (.pointer (some ⟨wr.heap.size + 1, 0, none⟩)) (fun r hr u hu => by
              have hl : rowB n r.l = true := by have := List.all_eq_true.1 HG.out.rows r.l (List.mem_map_of_mem hr); rw [HCL.out] at this; exact this
              have hl2 := rowB_iff.1 hl
              exact shorter_any r i j _ _ _ x u ((HT.out.2 r hr).on (hwU.trans (hu.mono hwU.size))) (by rw [hl2.2]; exact hlt) (by rw [hl2.2]; exact hltj) (by rw [hl2.2]; omega) hl2.1 ((hu.cell (p := ⟨V0.heap.size, 0, none⟩) (World.block_lt_of_cell? _ _ g1)).trans g1) ((hu.cell (p := ⟨wr.heap.size, 0, none⟩) (World.block_lt_of_cell? _ _ g2)).trans g2) ((hu.cell (p := ⟨wr.heap.size + 1, 0, none⟩) (World.block_lt_of_cell? _ _ g3)).trans g3))
            rw [← HN.out, HA.out] at this; exact this)
          obtain ⟨v, hv⟩ : ∃ v, v = T.con.all (noShort i j x) := ⟨_, rfl⟩
          rw [← hv] at CC
          have HU := Lib.hid hU
          have HVV := Lib.hid hv
          have HNU := Lib.hid (HNJ.out.trans (hbU.mono HNJ.out.size))
          have HWU := Lib.hid hwU
          clear hU hbU hwU g1 g2 g3 hv
          go_wp2_with fail
          rw [← HU.out]
          refine (show Calls _ _ _ _ _ from CC.out).mono ?_
          rintro e W2 ⟨rfl, hb2⟩
          clear d2
          cases v with
          | false =>
            have HE : Hid (metG T.con = false) := Lib.hid (by
              rw [Bool.eq_false_iff]; intro h
              have := HMS.out.1 h i (by rw [HCL.out]; exact hlt) j (by rw [HCL.out]; exact hltj)
              rw [← HX.out, ← HVV.out] at this; cases this)
            go_wp2
            go_ret2
            exact ⟨by rw [HE.out]; rfl, HWU.out.trans (hb2.mono HWU.out.size)⟩
          | true =>
            have HS : Hid (∀ j', j' < j + 1 → T.con.all (noShort i j' (cel T.con i j')) = true) := Lib.hid fun j' hj' => by
              rcases Nat.lt_or_ge j' j with q | q
              · exact HJ.out j' q
              · obtain rfl : j' = j := by omega
                rw [← HX.out]; exact HVV.out.symm
            have HR2 := HNU.out.trans (hb2.mono HNU.out.size)
            clear hb2
            go_wp2
            go_roundw
            case rel => exact ⟨j + 1, by omega, by go_num, HR2, HS⟩
            case measure => simp [intOf]; omega
        · obtain rfl : j = n := by omega
          have HS : Hid (∀ i', i' < i + 1 → ∀ j', j' < j → T.con.all (noShort i' j' (cel T.con i' j')) = true) := Lib.hid fun i' hi' => by
            rcases Nat.lt_or_ge i' i with q | q
            · exact HI.out i' q
            · obtain rfl : i' = i := by omega
              exact HJ.out
          have HR2 := HV.out.trans (hnx.mono HV.out.size)
          clear hnx
          go_wp2
          go_roundw
          case rel => exact ⟨i + 1, by omega, by go_num, HR2, HS⟩
          case measure => simp [intOf]; omega
    · obtain rfl : i = n := by omega
      have HE : Hid (metG T.con = true) := Lib.hid (HMS.out.2 (by rw [HCL.out]; exact HI.out))
      go_wp2
      go_ret2
      exact ⟨by rw [HE.out]; rfl, hnx⟩
end Go.Proofs.Ytmbgipllkbahpaa
