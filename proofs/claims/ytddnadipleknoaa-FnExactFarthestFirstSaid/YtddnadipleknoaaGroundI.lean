/- Whether a table is a ground: the program's side, and IsGround on both sides. Condition: the table reads as such. -/
import Derived.Test.YtddnadipleknoaaGround
import Derived.Test.YtddnadipleknoaaTabLaw
namespace Go.Proofs.Ytddnadipleknoaa
open Go.RowKit

set_option maxRecDepth 16000 in
set_option maxHeartbeats 2000000 in
theorem isValid_any (T : Tab) (w : World) (hT : T.At w) :
    Calls Try.prog 56 #[.slice T.a T.R.length T.c] w fun e w' => e = .returned (.bool (grdB T.con)) ∧ Below w.heap.size w w' := by
  have hlim := tab_lim0 hT
  obtain ⟨n, hn⟩ : ∃ n, n = T.R.length := ⟨_, rfl⟩
  have HCL : Hid (T.con.length = n) := Lib.hid (by rw [con_length, hn])
  rw [← hn] at hlim
  by_cases h7 : (n : Int) > 7
  · have HE : Hid (grdB T.con = false) := Lib.hid (grdB_no fun hg => by have := hg.few; rw [HCL.out] at this; omega)
    rw [HE.out, ← hn]
    clear hT hn HE
    go_enter Try.func56, Try.ntmps56
    go_wp2
    go_ret
    exact ⟨rfl, Below.refl _ _⟩
  have hn7 : (n : Int) ≤ 7 := by omega
  clear h7
  obtain ⟨v, hv⟩ : ∃ v, v = sqB n T.con := ⟨_, rfl⟩
  have CS := Lib.hid (by have := isSquare_any T n w hT (by omega); rw [← hv, ← hn] at this; exact this)
  cases v with
  | false =>
    have HE : Hid (grdB T.con = false) := Lib.hid (grdB_no fun hg => by
      have h1 := hg.rows
      rw [HCL.out] at h1
      have : sqB n T.con = true := by unfold sqB; rw [HCL.out, h1]; simp
      rw [← hv] at this; cases this)
    rw [HE.out, ← hn]
    clear hT hn hv HE
    go_enter Try.func56, Try.ntmps56
    go_wp2_with fail
    refine (show Calls _ _ _ _ _ from CS.out).mono ?_
    rintro e W ⟨rfl, hb⟩
    go_wp2
    go_ret
    exact ⟨rfl, hb⟩
  | true =>
    have hall : T.con.all (rowB n) = true := by have := hv.symm; unfold sqB at this; simp only [Bool.and_eq_true] at this; exact this.2
    by_cases h0 : n = 0
    · have HE : Hid (grdB T.con = true) := Lib.hid (grd_empty (by omega))
      rw [HE.out, ← hn]
      subst h0
      clear hT hn hv HE hall
      go_enter Try.func56, Try.ntmps56
      go_wp2_with fail
      refine (show Calls _ _ _ _ _ from CS.out).mono ?_
      rintro e W1 ⟨rfl, hb⟩
      go_wp2
      go_loopw [3, 4, 17, 21] (fun _ _ i _ wr => i = .int .i64 0 ∧ W1 = wr) (fun _ _ _ _ _ => 0)
      case atStart => exact ⟨rfl, rfl⟩
      case round =>
        obtain ⟨rfl, rfl⟩ := hrel
        go_wp2
        go_ret
        exact ⟨rfl, hb⟩
    · obtain ⟨b, o, ha, hrow⟩ := sq_cells hT hall (by omega) (by omega)
      have HROW := Lib.hid hrow
      have HALL := Lib.hid hall
      have HN := Lib.hid hn
      rw [ha] at CS
      rw [ha, ← hn]
      clear hT hn hv ha hrow hall
      go_enter Try.func56, Try.ntmps56
      go_wp2_with fail
      refine (show Calls _ _ _ _ _ from CS.out).mono ?_
      rintro e W1 ⟨rfl, hb⟩
      have HB := Lib.hid hb
      clear hb CS
      go_wp2
      go_loopw [3, 4, 17, 21] (fun _ _ i _ wr => ∃ k : Nat, k ≤ n ∧ i = .int .i64 k ∧ W1 = wr ∧ Hid (∀ i, i < k → cel T.con i i = 0 ∧ ∀ j, j < i → cel T.con i j = cel T.con j i)) (fun _ _ i _ _ => n - (intOf i).toNat)
      case atStart => exact ⟨0, Nat.zero_le _, rfl, rfl, Lib.hid fun i hi => absurd hi (by omega)⟩
      case round =>
        obtain ⟨k, hk, rfl, rfl, HI⟩ := hrel
        by_cases hlt : k < n
        · have hlti : (k : Int) < (n : Int) := by omega
          have hkT : k < T.R.length := by rw [← HN.out]; exact hlt
          obtain ⟨b', o', c', hr1⟩ := HROW.out k hkT
          have HRK := Lib.hid (hr1 W1 HB.out)
          clear hr1
          go_wp2
          go_loopw [4, 21] (fun _ jv wr => ∃ j : Nat, j ≤ k ∧ jv = .int .i64 j ∧ W1 = wr ∧ Hid (∀ j', j' < j → cel T.con k j' = cel T.con j' k)) (fun _ jv _ => k - (intOf jv).toNat)
          case atStart => exact ⟨0, Nat.zero_le _, rfl, rfl, Lib.hid fun j hj => absurd hj (by omega)⟩
          case round =>
            obtain ⟨j, hj, rfl, rfl, HJ⟩ := hrel
            by_cases hltj : j < k
            · have hltji : (j : Int) < (k : Int) := by omega
              have hjT : j < T.R.length := by omega
              obtain ⟨b2, o2, c2, hr2⟩ := HROW.out j hjT
              have hrw2 := hr2 W1 HB.out
              obtain ⟨x, hx⟩ : ∃ x, x = cel T.con k j := ⟨_, rfl⟩
              obtain ⟨y, hy⟩ : ∃ y, y = cel T.con j k := ⟨_, rfl⟩
              have D1 := Lib.hid (dist_cell b o b' o' n T.c n c' k j x W1 hlt (by omega) (by omega) (by omega) HRK.out.1 (by rw [hx]; exact HRK.out.2 j (by omega)))
              have D2 := Lib.hid (dist_cell b o b2 o2 n T.c n c2 j k y W1 (by omega) hlt (by omega) (by omega) hrw2.1 (by rw [hy]; exact hrw2.2 k hlt))
              clear hr2 hrw2
              by_cases hxy : x = y
              · have HS : Hid (∀ j', j' < j + 1 → cel T.con k j' = cel T.con j' k) := Lib.hid fun j' hj' => by
                  rcases Nat.lt_or_ge j' j with q | q
                  · exact HJ.out j' q
                  · obtain rfl : j' = j := by omega
                    rw [← hx, ← hy]; exact hxy
                have hne : (x != y) = false := by rw [hxy]; simp
                clear hx hy hxy
                go_wp2_with fail
                refine (show Calls _ _ _ _ _ from D1.out).mono ?_
                rintro e W ⟨rfl, rfl⟩
                go_wp2_with fail
                refine (show Calls _ _ _ _ _ from D2.out).mono ?_
                rintro e W ⟨rfl, rfl⟩
                go_wp2
                go_roundw
                case rel => exact ⟨j + 1, by omega, by go_num, by first | rfl | trivial, HS⟩
                case measure => simp [intOf]; omega
              · have HE : Hid (grdB T.con = false) := Lib.hid (grdB_no fun hg => hxy (by rw [hx, hy]; exact hg.same k (by rw [con_length]; exact hkT) j hltj))
                have hne : (x != y) = true := by simp [hxy]
                clear hx hy hxy
                go_wp2_with fail
                refine (show Calls _ _ _ _ _ from D1.out).mono ?_
                rintro e W ⟨rfl, rfl⟩
                go_wp2_with fail
                refine (show Calls _ _ _ _ _ from D2.out).mono ?_
                rintro e W ⟨rfl, rfl⟩
                go_wp2
                go_ret
                exact ⟨by rw [HE.out]; rfl, HB.out⟩
            · obtain rfl : j = k := by omega
              obtain ⟨z, hz⟩ : ∃ z, z = cel T.con j j := ⟨_, rfl⟩
              have D3 := Lib.hid (dist_cell b o b' o' n T.c n c' j j z W1 hlt hlt (by omega) (by omega) HRK.out.1 (by rw [hz]; exact HRK.out.2 j hlt))
              by_cases hz0 : z = 0
              · have HS : Hid (∀ i, i < j + 1 → cel T.con i i = 0 ∧ ∀ j', j' < i → cel T.con i j' = cel T.con j' i) := Lib.hid fun i hi => by
                  rcases Nat.lt_or_ge i j with q | q
                  · exact HI.out i q
                  · obtain rfl : i = j := by omega
                    exact ⟨hz.symm.trans hz0, HJ.out⟩
                have hne : (z != 0) = false := by rw [hz0]; rfl
                clear hz hz0
                go_wp2_with fail
                refine (show Calls _ _ _ _ _ from D3.out).mono ?_
                rintro e W ⟨rfl, rfl⟩
                go_wp2
                go_roundw
                case rel => exact ⟨j + 1, by omega, by go_num, by first | rfl | trivial, HS⟩
                case measure => simp [intOf]; omega
              · have HE : Hid (grdB T.con = false) := Lib.hid (grdB_no fun hg => hz0 (by rw [hz]; exact hg.diag j (by rw [con_length]; exact hkT)))
                have hne : (z != 0) = true := by simp [hz0]
                clear hz hz0
                go_wp2_with fail
                refine (show Calls _ _ _ _ _ from D3.out).mono ?_
                rintro e W ⟨rfl, rfl⟩
                go_wp2
                go_ret
                exact ⟨by rw [HE.out]; rfl, HB.out⟩
        · obtain rfl : k = n := by omega
          have HE : Hid (grdB T.con = true) := Lib.hid (grdB_iff.2 ⟨by rw [HCL.out]; omega, by rw [HCL.out]; exact HALL.out, fun i hi => (HI.out i (by rw [← HCL.out]; exact hi)).1, fun i hi => (HI.out i (by rw [← HCL.out]; exact hi)).2⟩)
          go_wp2
          go_ret
          exact ⟨by rw [HE.out]; rfl, HB.out⟩

end Go.Proofs.Ytddnadipleknoaa
