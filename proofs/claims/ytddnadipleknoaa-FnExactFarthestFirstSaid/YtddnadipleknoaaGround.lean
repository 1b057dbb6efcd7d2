/- Whether a table is a ground: the contracts of both sides. Condition: the table reads as such. -/
import Derived.Test.YtddnadipleknoaaSquare
namespace Go.Proofs.Ytddnadipleknoaa
open Go.RowKit

theorem row_at {T : Tab} {w : World} (hT : T.At w) {i : Nat} (hi : i < T.R.length) {n : Nat} (hl : T.R[i].l.length = n) (hn : 0 < n) {b o : Nat} (ha : T.a = some ⟨b, o, none⟩) : ∃ b' o' c, ∀ u, Below w.heap.size w u → u.cell? ⟨b, o + i, none⟩ = some (.slice (some ⟨b', o', none⟩) n c) ∧ ∀ m, m < n → u.cell? ⟨b', o' + m, none⟩ = some (.int .i64 (cel T.con i m)) := by
  obtain ⟨b0, o0, ha0, _, hc⟩ := tab_rows hT (by omega)
  rw [ha] at ha0
  simp only [Option.some.injEq, Addr.mk.injEq] at ha0
  obtain ⟨rfl, rfl, -⟩ := ha0
  obtain ⟨b', o', ha', _, hc'⟩ := row_cell (hT.2 _ (List.getElem_mem hi)) (by rw [hl]; exact hn)
  refine ⟨b', o', T.R[i].c, fun u hu => ⟨?_, fun m hm => ?_⟩⟩
  · rw [hc u hu i hi, ha', hl]
  · rw [hc' u hu m (by rw [hl]; exact hm), cel_row T hi]
theorem grd_empty {T : Tab} (h : T.R.length = 0) : grdB T.con = true := by
  have : T.con = [] := List.eq_nil_of_length_eq_zero (by rw [con_length]; exact h)
  rw [this]; rfl
theorem con_row (T : Tab) {i : Nat} (h : i < T.R.length) : ∃ q : i < T.con.length, T.con[i] = T.R[i].l := ⟨by rw [con_length]; exact h, con_at T h⟩
theorem not_grd_row {T : Tab} {i : Nat} (h : i < T.R.length) (hr : rowB T.R.length T.R[i].l = false) : grdB T.con = false := grdB_no fun hg => by
  obtain ⟨q, e⟩ := con_row T h
  have h1 := hg.rows
  rw [con_length] at h1
  have := all_out (p := rowB T.R.length) q (by rw [e]; exact hr)
  rw [h1] at this; cases this

set_option maxRecDepth 16000 in
set_option maxHeartbeats 2000000 in
theorem l11Ground_any (T : Tab) (w : World) (hT : T.At w) :
    Calls Try.prog 37 #[.slice T.a T.R.length T.c] w fun e w' => e = .returned (.bool (grdB T.con)) ∧ DrewTo w w' := by
  have hlim := tab_lim0 hT
  by_cases h0 : T.R.length = 0
  · rw [grd_empty h0, h0]
    clear hT hlim h0
    go_enter Try.func37, Try.ntmps37
    go_wp2
    go_loopw [4, 5] (fun i _ wr => i = .int .i64 0 ∧ w = wr) (fun _ _ _ => 0)
    case atStart => exact ⟨rfl, rfl⟩
    case round =>
      obtain ⟨rfl, rfl⟩ := hrel
      go_wp2
      go_ret
      exact ⟨rfl, DrewTo.refl _⟩
  · obtain ⟨b, o, ha, _, hc⟩ := tab_rows hT (by omega)
    obtain ⟨n, hn⟩ : ∃ n, n = T.R.length := ⟨_, rfl⟩
    have HROW := Lib.hid (fun i (hi : i < T.R.length) (hl : T.R[i].l.length = n) => row_at hT hi hl (by omega) ha)
    have HC := Lib.hid (fun k (hk : k < T.R.length) => hc w (Below.refl _ _) k hk)
    have CR := Lib.hid fun k (hk : k < T.R.length) u (hu : DrewTo w u) => l2Row_any T.R[k] n u ((hT.2 _ (List.getElem_mem hk)).on hu.below)
    have HNR : Hid (∀ k (hk : k < T.R.length), rowB n T.R[k].l = false → grdB T.con = false) := Lib.hid (by rw [hn]; exact fun k hk => not_grd_row hk)
    have HN := Lib.hid hn
    have HCL : Hid (T.con.length = n) := Lib.hid (by rw [con_length, hn])
    rw [ha, ← hn]
    rw [← hn] at hlim
    clear hT ha hc h0 hn
    go_enter Try.func37, Try.ntmps37
    go_wp2
    go_loopw [4, 5] (fun i _ wr => ∃ k : Nat, k ≤ n ∧ i = .int .i64 k ∧ DrewTo w wr ∧ Hid ((∀ i, i < k → ∀ h : i < T.R.length, rowB n T.R[i].l = true) ∧ ∀ i, i < k → cel T.con i i = 0 ∧ ∀ j, j < i → cel T.con i j = cel T.con j i)) (fun i _ _ => n - (intOf i).toNat)
    case atStart => exact ⟨0, Nat.zero_le _, rfl, DrewTo.refl _, Lib.hid ⟨fun i hi => absurd hi (by omega), fun i hi => absurd hi (by omega)⟩⟩
    case round =>
      obtain ⟨k, hk, rfl, hdw, HI⟩ := hrel
      by_cases hlt : k < n
      · have hlti : (k : Int) < (n : Int) := by omega
        have hkT : k < T.R.length := by rw [← HN.out]; exact hlt
        obtain ⟨v, hv⟩ : ∃ v, v = rowB n T.R[k].l := ⟨_, rfl⟩
        have C1 := CR.out k hkT wr hdw
        rw [← hv] at C1
        have hcl := HC.out k hkT
        cases v with
        | false =>
          have HE : Hid (grdB T.con = false) := Lib.hid (HNR.out k hkT hv.symm)
          have hcl' : wr.cell? ⟨b, o + k, none⟩ = some (.slice T.R[k].a T.R[k].l.length T.R[k].c) := by rw [hdw.cell]; exact hcl
          obtain ⟨x, hx⟩ : ∃ x, x = T.R[k] := ⟨_, rfl⟩
          rw [← hx] at hcl' C1
          have C2 := Lib.hid C1
          clear hv hcl C1 hx
          go_wp2_with fail
          refine (show Calls _ _ _ _ _ from C2.out).mono ?_
          rintro e W ⟨rfl, rfl⟩
          go_wp2
          go_ret
          exact ⟨by rw [HE.out]; rfl, hdw⟩
        | true =>
          have hlk : T.R[k].l.length = n := (rowB_iff.1 hv.symm).2
          obtain ⟨b', o', c', hrow⟩ := HROW.out k hkT hlk
          have hrw := hrow w (Below.refl _ _)
          have e1 := hcl.symm.trans hrw.1
          simp only [Option.some.injEq, Value.slice.injEq] at e1
          obtain ⟨ea, -, ec⟩ := e1
          rw [ea, hlk, ec] at C1
          have C2 := Lib.hid C1
          have HRK := Lib.hid (fun u (hu : DrewTo w u) => hrow u hu.below)
          have HROWS : Hid (∀ i, i < k + 1 → ∀ h : i < T.R.length, rowB n T.R[i].l = true) := Lib.hid fun i hi h => by
            rcases Nat.lt_or_ge i k with q | q
            · exact HI.out.1 i q h
            · obtain rfl : i = k := by omega
              exact hv.symm
          have hcl' := (HRK.out wr hdw).1
          obtain ⟨z, hz⟩ : ∃ z, z = cel T.con k k := ⟨_, rfl⟩
          have hcz : wr.cell? ⟨b', o' + k, none⟩ = some (.int .i64 z) := by rw [hz]; exact (HRK.out wr hdw).2 k hlt
          clear hv hcl C1 ea ec hrw hrow hlk
          by_cases hz0 : z = 0
          · have HZ : Hid (cel T.con k k = 0) := Lib.hid (hz.symm.trans hz0)
            clear hz
            subst hz0
            go_wp2_with fail
            refine (show Calls _ _ _ _ _ from C2.out).mono ?_
            rintro e W ⟨rfl, rfl⟩
            go_wp2
            have HD := Lib.hid hdw
            clear hdw hcl' hcz
            go_loopw [5] (fun jv wr => ∃ j : Nat, j ≤ k ∧ jv = .int .i64 j ∧ DrewTo w wr ∧ Hid (∀ j', j' < j → cel T.con k j' = cel T.con j' k)) (fun jv _ => k - (intOf jv).toNat)
            case atStart => exact ⟨0, Nat.zero_le _, rfl, HD.out, Lib.hid fun j hj => absurd hj (by omega)⟩
            case round =>
              obtain ⟨j, hj, rfl, hdw, HJ⟩ := hrel
              by_cases hltj : j < k
              · have hltji : (j : Int) < (k : Int) := by omega
                have hjn : (j : Int) < (n : Int) := by omega
                have hjT : j < T.R.length := by omega
                obtain ⟨b2, o2, c2, hrow⟩ := HROW.out j hjT (rowB_iff.1 (HI.out.1 j hltj hjT)).2
                obtain ⟨x, hx⟩ : ∃ x, x = cel T.con k j := ⟨_, rfl⟩
                obtain ⟨y, hy⟩ : ∃ y, y = cel T.con j k := ⟨_, rfl⟩
                have d1 := (HRK.out _ hdw).1
                have d2 := (HRK.out _ hdw).2 j (by omega)
                have d3 := (hrow _ hdw.below).1
                have d4 := (hrow _ hdw.below).2 k hlt
                rw [← hx] at d2
                rw [← hy] at d4
                by_cases hxy : x = y
                · have HS : Hid (∀ j', j' < j + 1 → cel T.con k j' = cel T.con j' k) := Lib.hid fun j' hj' => by
                    rcases Nat.lt_or_ge j' j with q | q
                    · exact HJ.out j' q
                    · obtain rfl : j' = j := by omega
                      rw [← hx, ← hy]; exact hxy
                  have hne : (x != y) = false := by rw [hxy]; simp
                  clear hx hy hxy hrow
                  go_wp2
                  go_quiet (fail)
                  go_wp2
                  go_roundw
                  case rel => exact ⟨j + 1, by omega, by go_num, hdw.more _, HS⟩
                  case measure => simp [intOf]; omega
                · have HE : Hid (grdB T.con = false) := Lib.hid (grdB_no fun hg => hxy (by rw [hx, hy]; exact hg.same k (by rw [con_length]; exact hkT) j hltj))
                  have hne : (x != y) = true := by simp [hxy]
                  clear hx hy hxy hrow
                  go_wp2
                  go_quiet (fail)
                  go_wp2
                  go_ret
                  exact ⟨by rw [HE.out]; rfl, hdw.more _⟩
              · obtain rfl : j = k := by omega
                have HS : Hid ((∀ i, i < j + 1 → ∀ h : i < T.R.length, rowB n T.R[i].l = true) ∧ ∀ i, i < j + 1 → cel T.con i i = 0 ∧ ∀ j', j' < i → cel T.con i j' = cel T.con j' i) := Lib.hid ⟨HROWS.out, fun i hi => by
                  rcases Nat.lt_or_ge i j with q | q
                  · exact HI.out.2 i q
                  · obtain rfl : i = j := by omega
                    exact ⟨HZ.out, HJ.out⟩⟩
                go_wp2
                go_roundw
                case rel => exact ⟨j + 1, by omega, by go_num, hdw, HS⟩
                case measure => simp [intOf]; omega
          · have HE : Hid (grdB T.con = false) := Lib.hid (grdB_no fun hg => hz0 (by rw [hz]; exact hg.diag k (by rw [con_length]; exact hkT)))
            have hne : (z != 0) = true := by simp [hz0]
            clear hz hz0
            go_wp2_with fail
            refine (show Calls _ _ _ _ _ from C2.out).mono ?_
            rintro e W ⟨rfl, rfl⟩
            go_wp2
            go_ret
            exact ⟨by rw [HE.out]; rfl, hdw⟩
      · obtain rfl : k = n := by omega
        have HE : Hid (grdB T.con = decide ((k : Int) ≤ 7)) := Lib.hid (by
          have hall : T.con.all (rowB k) = true := by
            rw [List.all_eq_true]
            intro r hr
            obtain ⟨x, hx, rfl⟩ := List.mem_map.1 hr
            obtain ⟨i, hi, rfl⟩ := List.mem_iff_getElem.1 hx
            exact HI.out.1 i (by rw [HN.out]; exact hi) hi
          by_cases h7 : k ≤ 7
          · rw [decide_eq_true (by omega)]
            exact grdB_iff.2 ⟨by rw [HCL.out]; exact h7, by rw [HCL.out]; exact hall, fun i hi => (HI.out.2 i (by rw [← HCL.out]; exact hi)).1, fun i hi => (HI.out.2 i (by rw [← HCL.out]; exact hi)).2⟩
          · rw [decide_eq_false (by omega)]
            exact grdB_no fun hg => h7 (by have := hg.few; rw [HCL.out] at this; exact this))
        go_wp2
        go_ret
        exact ⟨by rw [HE.out]; rfl, hdw⟩
end Go.Proofs.Ytddnadipleknoaa
