/- Whether a ground is metric: the contracts of both sides. Condition: the table reads as such. -/
import Derived.Test.YtmbgipllkbahpaaGroundI
namespace Go.Proofs.Ytmbgipllkbahpaa
open Go.RowKit

def metG (d : List (List Int)) : Bool := (List.range d.length).all fun i => (List.range d.length).all fun j => (List.range d.length).all fun k => decide (cel d i j ≤ cel d i k + cel d k j)
theorem metG_iff {d : List (List Int)} : metG d = true ↔ ∀ i, i < d.length → ∀ j, j < d.length → ∀ k, k < d.length → cel d i j ≤ cel d i k + cel d k j := by
  unfold metG
  simp only [List.all_eq_true, List.mem_range, decide_eq_true_eq]
theorem metG_out {d : List (List Int)} {i j k : Nat} (hi : i < d.length) (hj : j < d.length) (hk : k < d.length) (h : ¬ cel d i j ≤ cel d i k + cel d k j) : metG d = false := by
  rw [Bool.eq_false_iff]; intro e; exact h (metG_iff.1 e i hi j hj k hk)

set_option maxRecDepth 16000 in
set_option maxHeartbeats 2000000 in
theorem l11Metric_any (T : Tab) (w : World) (hT : T.At w) (hg : Grd T.con) :
    Calls Try.prog 29 #[.slice T.a T.R.length T.c] w fun e w' => e = .returned (.bool (metG T.con)) ∧ DrewTo w w' := by
  obtain ⟨n, hn⟩ : ∃ n, n = T.R.length := ⟨_, rfl⟩
  have HCL : Hid (T.con.length = n) := Lib.hid (by rw [con_length, hn])
  have hn7 : (n : Int) ≤ 7 := by have := hg.few; rw [HCL.out] at this; omega
  by_cases h0 : n = 0
  · have HE : Hid (metG T.con = true) := Lib.hid (metG_iff.2 fun i hi => by rw [HCL.out] at hi; omega)
    rw [HE.out, ← hn]
    subst h0
    clear hT hg hn HE
    go_enter Try.func29, Try.ntmps29
    go_wp2
    go_loopw [3, 4, 5] (fun i _ _ wr => i = .int .i64 0 ∧ w = wr) (fun _ _ _ _ => 0)
    case atStart => exact ⟨rfl, rfl⟩
    case round =>
      obtain ⟨rfl, rfl⟩ := hrel
      go_wp2
      go_ret
      exact ⟨rfl, DrewTo.refl _⟩
  obtain ⟨b, o, ha, hrow⟩ := grd_cells hT hg (by omega)
  rw [← hn] at hrow
  have HROW := Lib.hid (fun i (hi : i < n) => (let ⟨b', o', c, h⟩ := hrow i hi; ⟨b', o', c, fun u (hu : DrewTo w u) => h u hu.below⟩ : ∃ b' o' c, ∀ u, DrewTo w u → u.cell? ⟨b, o + i, none⟩ = some (.slice (some ⟨b', o', none⟩) n c) ∧ ∀ m, m < n → u.cell? ⟨b', o' + m, none⟩ = some (.int .i64 (cel T.con i m))))
  have HB := Lib.hid (fun i j => hg.bound i j)
  rw [ha, ← hn]
  clear hT hg hn ha hrow
  go_enter Try.func29, Try.ntmps29
  go_wp2
  go_loopw [3, 4, 5] (fun i _ _ wr => ∃ k : Nat, k ≤ n ∧ i = .int .i64 k ∧ DrewTo w wr ∧ Hid (∀ i, i < k → ∀ j, j < n → ∀ k, k < n → cel T.con i j ≤ cel T.con i k + cel T.con k j)) (fun i _ _ _ => n - (intOf i).toNat)
  case atStart => exact ⟨0, Nat.zero_le _, rfl, DrewTo.refl _, Lib.hid fun i hi => absurd hi (by omega)⟩
  case round =>
    obtain ⟨i, hi, rfl, hdw, HI⟩ := hrel
    by_cases hlt : i < n
    · have hlti : (i : Int) < (n : Int) := by omega
      have HD := Lib.hid hdw
      obtain ⟨bi, oi, ci, hri⟩ := HROW.out i hlt
      have HRI := Lib.hid hri
      clear hdw hri
      go_wp2
      go_loopw [4, 5] (fun jv _ wr => ∃ j : Nat, j ≤ n ∧ jv = .int .i64 j ∧ DrewTo w wr ∧ Hid (∀ j', j' < j → ∀ k, k < n → cel T.con i j' ≤ cel T.con i k + cel T.con k j')) (fun jv _ _ => n - (intOf jv).toNat)
      case atStart => exact ⟨0, Nat.zero_le _, rfl, HD.out, Lib.hid fun i hi => absurd hi (by omega)⟩
      case round =>
        obtain ⟨j, hj, rfl, hdw, HJ⟩ := hrel
        by_cases hltj : j < n
        · have hltji : (j : Int) < (n : Int) := by omega
          have HD := Lib.hid hdw
          clear hdw
          go_wp2
          go_loopw [5] (fun kv wr => ∃ k : Nat, k ≤ n ∧ kv = .int .i64 k ∧ DrewTo w wr ∧ Hid (∀ k', k' < k → cel T.con i j ≤ cel T.con i k' + cel T.con k' j)) (fun kv _ => n - (intOf kv).toNat)
          case atStart => exact ⟨0, Nat.zero_le _, rfl, HD.out, Lib.hid fun i hi => absurd hi (by omega)⟩
          case round =>
            obtain ⟨k, hk, rfl, hdw, HK⟩ := hrel
            by_cases hltk : k < n
            · have hltki : (k : Int) < (n : Int) := by omega
              obtain ⟨bk, ok, ck, hrk⟩ := HROW.out k hltk
              obtain ⟨x, hx⟩ : ∃ x, x = cel T.con i j := ⟨_, rfl⟩
              obtain ⟨y, hy⟩ : ∃ x, x = cel T.con i k := ⟨_, rfl⟩
              obtain ⟨z, hz⟩ : ∃ x, x = cel T.con k j := ⟨_, rfl⟩
              have by1 := HB.out i k
              have bz1 := HB.out k j
              have c1 := (HRI.out wr hdw).1
              have c2 := (HRI.out wr hdw).2 j hltj
              have c3 := (HRI.out wr hdw).2 k hltk
              have c4 := (hrk wr hdw).1
              have c5 := (hrk wr hdw).2 j hltj
              rw [← hx] at c2
              rw [← hy] at c3 by1
              rw [← hz] at c5 bz1
              by_cases hle : x ≤ y + z
              · have HS : Hid (∀ k', k' < k + 1 → cel T.con i j ≤ cel T.con i k' + cel T.con k' j) := Lib.hid fun k' hk' => by
                  rcases Nat.lt_or_ge k' k with q | q
                  · exact HK.out k' q
                  · obtain rfl : k' = k := by omega
                    rw [← hx, ← hy, ← hz]; exact hle
                have hng : ¬ x > y + z := by omega
                clear hx hy hz hrk
                go_wp2
                go_quiet (fail)
                go_wp2
                go_roundw
                case rel => exact ⟨k + 1, by omega, by go_num, hdw.more _, HS⟩
                case measure => simp [intOf]; omega
              · have HE : Hid (metG T.con = false) := Lib.hid (metG_out (i := i) (j := j) (k := k) (by rw [HCL.out]; exact hlt) (by rw [HCL.out]; exact hltj) (by rw [HCL.out]; exact hltk) (by rw [← hx, ← hy, ← hz]; exact hle))
                have hng : x > y + z := by omega
                clear hx hy hz hrk
                go_wp2
                go_quiet (fail)
                go_wp2
                go_ret
                exact ⟨by rw [HE.out]; rfl, hdw.more _⟩
            · obtain rfl : k = n := by omega
              have HS : Hid (∀ j', j' < j + 1 → ∀ m, m < k → cel T.con i j' ≤ cel T.con i m + cel T.con m j') := Lib.hid fun j' hj' => by
                rcases Nat.lt_or_ge j' j with q | q
                · exact HJ.out j' q
                · obtain rfl : j' = j := by omega
                  exact HK.out
              go_wp2
              go_roundw
              case rel => exact ⟨j + 1, by omega, by go_num, hdw, HS⟩
              case measure => simp [intOf]; omega
        · obtain rfl : j = n := by omega
          have HS : Hid (∀ i', i' < i + 1 → ∀ j', j' < j → ∀ m, m < j → cel T.con i' j' ≤ cel T.con i' m + cel T.con m j') := Lib.hid fun i' hi' => by
            rcases Nat.lt_or_ge i' i with q | q
            · exact HI.out i' q
            · obtain rfl : i' = i := by omega
              exact HJ.out
          go_wp2
          go_roundw
          case rel => exact ⟨i + 1, by omega, by go_num, hdw, HS⟩
          case measure => simp [intOf]; omega
    · obtain rfl : i = n := by omega
      have HE : Hid (metG T.con = true) := Lib.hid (metG_iff.2 (by rw [HCL.out]; exact HI.out))
      go_wp2
      go_ret
      exact ⟨by rw [HE.out]; rfl, hdw⟩

theorem specMetricG_any (T : Tab) (w : World) (hT : T.At w) :
    Calls Try.prog 14 #[.slice T.a T.R.length T.c] w (PBool2 (grdB T.con && metG T.con) (grdB T.con) w) := by
  have C := Lib.hid (l11Ground_any T w hT)
  obtain ⟨g, hg⟩ : ∃ g, g = grdB T.con := ⟨_, rfl⟩
  have CM := Lib.hid (fun u (hu : DrewTo w u) (h : grdB T.con = true) => l11Metric_any T u (hT.on hu.below) (grdB_iff.1 h))
  rw [← hg] at C CM ⊢
  clear hT hg
  show Calls _ _ _ _ fun e w' => e = .returned (.tuple #[.bool (g && metG T.con), .bool g]) ∧ Below w.heap.size w w'
  go_enter Try.func14, Try.ntmps14
  go_wp2_with fail
  refine (show Calls _ _ _ _ _ from C.out).mono ?_
  rintro e W ⟨rfl, hd⟩
  cases g with
  | false =>
    go_wp2
    go_ret2
    exact ⟨rfl, hd.below⟩
  | true =>
    go_wp2_with fail
    refine (show Calls _ _ _ _ _ from CM.out W hd (by first | rfl | trivial)).mono ?_
    rintro e W2 ⟨rfl, hd2⟩
    go_wp2
    go_ret2
    exact ⟨rfl, hd.below.trans (hd2.below.mono hd.below.size)⟩
end Go.Proofs.Ytmbgipllkbahpaa
