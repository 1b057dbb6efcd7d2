/- The dispersion of places: the model's and the program's sums. Condition: a ground, and at least two places of it. -/
import Derived.Test.YtddnadipleknoaaDisp
namespace Go.Proofs.Ytddnadipleknoaa
open Go.RowKit

theorem row_take {s : Row} {w : World} (h : s.At w) (k : Nat) : (Row.mk s.a s.c (s.l.take k)).At w := by
  obtain ⟨h1, h2, h3⟩ := h
  refine ⟨?_, h2, ?_⟩
  · rw [iv_length] at h1 ⊢
    simp only [List.length_take]; omega
  · rcases h3 with h3 | ⟨b, o, ha, hb, hc⟩
    · left
      rw [iv_nil h3]; simp [iv]
    · refine .inr ⟨b, o, ha, hb, fun j x hj => hc j x ?_⟩
      simp only at hj
      unfold iv at hj ⊢
      rw [List.map_take] at hj
      rw [List.getElem?_take] at hj
      split at hj
      · exact hj
      · cases hj

set_option maxRecDepth 16000 in
set_option maxHeartbeats 2000000 in
theorem dispersion_any (T : Tab) (s : Row) (L : List Nat) (w : World) (hT : T.At w) (hg : Grd T.con) (hs : s.At w) (hl : s.l = up L) (hL : ∀ m ∈ L, m < T.R.length) (h2 : 2 ≤ L.length) :
    Calls Try.prog 32 #[.slice T.a T.R.length T.c, .slice s.a s.l.length s.c] w fun e w' => e = .returned (.int .i64 (dispT T.con L)) ∧ w' = w := by
  have hlim := row_lim0 hs
  have hlen : s.l.length = L.length := by rw [hl, up_length]
  obtain ⟨b1, o1, ha1, hc1⟩ := up_row hs hl (by omega)
  have HC := Lib.hid (hc1 w (Below.refl _ _))
  have HLT := Lib.hid (fun k (hk : k < L.length) => (by rw [getD_nat hk]; exact hL _ (List.getElem_mem hk) : L.getD k 0 < T.R.length))
  have HG := Lib.hid (fun k (hk : k < L.length) => by
    have := leastGap_any T ⟨s.a, s.c, s.l.take k⟩ (L.take k) (L.getD k 0) w hT hg (row_take hs k) (by simp only [hl]; unfold up; rw [List.map_take]) (fun m hm => hL m (List.mem_of_mem_take hm)) (HLT.out k hk)
    simp only [ha1, List.length_take] at this
    rw [show min k s.l.length = k by omega, ← inn_gap T.con L k 198 k (by omega)] at this
    exact this)
  have HST : Hid (∀ k, dsp T.con L 198 (k + 1) = min (dsp T.con L 198 k) (inn T.con L k 198 k)) := Lib.hid (dsp_gap T.con L)
  have hsc : (L.length : Int) ≤ (s.c : Int) := by obtain ⟨q, _, _⟩ := hs; rw [iv_length] at q; omega
  rw [hlen] at hlim
  rw [ha1, hlen]
  clear hT hg hs hl hL h2 hlen ha1 hc1 HLT
  unfold dispT
  go_enter Try.func32, Try.ntmps32
  go_wp2
  go_loopw [5, 6, 7, 10] (fun sv _ _ i wr => ∃ k : Nat, k ≤ L.length ∧ i = .int .i64 k ∧ sv = .int .i64 (dsp T.con L 198 k) ∧ w = wr) (fun _ _ _ i _ => L.length - (intOf i).toNat)
  case atStart => exact ⟨0, Nat.zero_le _, rfl, by rw [dsp_zero], rfl⟩
  case round =>
    obtain ⟨k, hk, rfl, rfl, rfl⟩ := hrel
    by_cases hlt : k < L.length
    · have hlti : (k : Int) < (L.length : Int) := by omega
      have hkc : (k : Int) ≤ (s.c : Int) := by omega
      obtain ⟨m, hm⟩ : ∃ m, m = L.getD k 0 := ⟨_, rfl⟩
      have hcl := HC.out k hlt
      have CG := HG.out k hlt
      rw [← hm] at hcl CG
      obtain ⟨y, hy⟩ : ∃ y, y = inn T.con L k 198 k := ⟨_, rfl⟩
      obtain ⟨x, hx⟩ : ∃ x, x = dsp T.con L 198 k := ⟨_, rfl⟩
      have hst := HST.out k
      rw [← hx] at hst ⊢
      rw [← hy] at hst CG
      have HS := Lib.hid hst
      have CG1 := Lib.hid CG
      clear hm hy hx hst CG
      go_wp2_with fail
      refine (show Calls _ _ _ _ _ from CG1.out).mono ?_
      rintro e W ⟨rfl, rfl⟩
      go_wp2
      go_roundw
      case rel => exact ⟨k + 1, by omega, by go_num, by rw [HS.out]; first | rfl | (congr 1; omega), by first | rfl | trivial⟩
      case measure => simp [intOf]; omega
    · obtain rfl : k = L.length := by omega
      go_wp2
      go_ret
      exact ⟨rfl, rfl⟩

set_option maxRecDepth 16000 in
set_option maxHeartbeats 2000000 in
theorem l11Disp_any (T : Tab) (s : Row) (L : List Nat) (w : World) (hT : T.At w) (hg : Grd T.con) (hs : s.At w) (hl : s.l = up L) (hL : ∀ m ∈ L, m < T.R.length) (h2 : 2 ≤ L.length) :
    Calls Try.prog 26 #[.slice T.a T.R.length T.c, .slice s.a s.l.length s.c] w fun e w' => e = .returned (.int .i64 (dispT T.con L)) ∧ DrewTo w w' := by
  have hlim := row_lim0 hs
  have hlen : s.l.length = L.length := by rw [hl, up_length]
  obtain ⟨b1, o1, ha1, hc1⟩ := up_row hs hl (by omega)
  have HC := Lib.hid (fun u (hu : DrewTo w u) => hc1 u hu.below)
  have HLT := Lib.hid (fun k (hk : k < L.length) => (by rw [getD_nat hk]; exact hL _ (List.getElem_mem hk) : L.getD k 0 < T.R.length))
  obtain ⟨b, o, ha, hrow⟩ := grd_cells hT hg (by have := HLT.out 0 (by omega); omega)
  obtain ⟨n, hn⟩ : ∃ n, n = T.R.length := ⟨_, rfl⟩
  have hn7 : (n : Int) ≤ 7 := by have := hg.few; rw [con_length] at this; omega
  rw [← hn] at hrow HLT
  have HROW := Lib.hid (fun i (hi : i < n) => (let ⟨b', o', c, h⟩ := hrow i hi; ⟨b', o', c, fun u (hu : DrewTo w u) => h u hu.below⟩ : ∃ b' o' c, ∀ u, DrewTo w u → u.cell? ⟨b, o + i, none⟩ = some (.slice (some ⟨b', o', none⟩) n c) ∧ ∀ m, m < n → u.cell? ⟨b', o' + m, none⟩ = some (.int .i64 (cel T.con i m))))
  have HEND : Hid (dsp T.con L (cel T.con (L.getD 0 0) (L.getD 1 0)) L.length = dispT T.con L) := Lib.hid (disp_from hg h2 (by rw [con_length]; exact hL))
  rw [hlen] at hlim
  have h2i : (2 : Int) ≤ (L.length : Int) := by omega
  rw [ha1, hlen, ha, ← hn, ← HEND.out]
  clear hT hg hs hl hL hlen ha1 hc1 hrow ha hn
  obtain ⟨m0, hm0⟩ : ∃ m, m = L.getD 0 0 := ⟨_, rfl⟩
  obtain ⟨m1, hm1⟩ : ∃ m, m = L.getD 1 0 := ⟨_, rfl⟩
  have q0 := HC.out w (DrewTo.refl _) 0 (by omega)
  have q1 := HC.out w (DrewTo.refl _) 1 (by omega)
  have l0 := HLT.out 0 (by omega)
  have l1 := HLT.out 1 (by omega)
  rw [← hm0] at q0 l0 ⊢
  rw [← hm1] at q1 l1 ⊢
  rw [Nat.add_zero] at q0
  obtain ⟨bq, oq, cq, hq⟩ := HROW.out m0 l0
  obtain ⟨s0, hs0⟩ : ∃ s, s = cel T.con m0 m1 := ⟨_, rfl⟩
  have q2 := (hq w (DrewTo.refl _)).1
  have q3 := (hq w (DrewTo.refl _)).2 m1 l1
  rw [← hs0] at q3 ⊢
  have l0i : (m0 : Int) < (n : Int) := by omega
  have l1i : (m1 : Int) < (n : Int) := by omega
  clear hm0 hm1 hq hs0 HEND l0 l1
  go_enter Try.func26, Try.ntmps26
  go_wp2
  go_quiet (fail)
  go_wp2
  clear q0 q1 q2 q3 l0i l1i
  go_loopw [5, 6, 7] (fun sv iv _ wr => ∃ i : Nat, i ≤ L.length ∧ iv = .int .i64 i ∧ sv = .int .i64 (dsp T.con L s0 i) ∧ DrewTo w wr) (fun _ iv _ _ => L.length - (intOf iv).toNat)
  case atStart => exact ⟨0, Nat.zero_le _, rfl, by rw [dsp_zero], ⟨_, rfl⟩⟩
  case round =>
    obtain ⟨i, hi, rfl, rfl, hdw⟩ := hrel
    by_cases hlt : i < L.length
    · have hlti : (i : Int) < (L.length : Int) := by omega
      obtain ⟨x, hx⟩ : ∃ x, x = dsp T.con L s0 i := ⟨_, rfl⟩
      have HS1 : Hid (dsp T.con L s0 (i + 1) = inn T.con L i x i) := Lib.hid (by rw [hx]; exact dsp_step _ _ _ _)
      obtain ⟨mi, hmi⟩ : ∃ m, m = L.getD i 0 := ⟨_, rfl⟩
      have hmin := HLT.out i hlt
      have HCI := Lib.hid (fun u (hu : DrewTo w u) => HC.out u hu i hlt)
      rw [← hmi] at hmin HCI
      obtain ⟨bi, oi, ci, hri⟩ := HROW.out mi hmin
      have HRI := Lib.hid hri
      have hmii : (mi : Int) < (n : Int) := by omega
      have HMI := Lib.hid hmi
      have HD := Lib.hid hdw
      rw [← hx]
      clear hx hri hmi hdw
      go_wp2
      go_loopw [5, 7] (fun sv jv wr => ∃ j : Nat, j ≤ i ∧ jv = .int .i64 j ∧ sv = .int .i64 (inn T.con L i x j) ∧ DrewTo w wr) (fun _ jv _ => i - (intOf jv).toNat)
      case atStart => exact ⟨0, Nat.zero_le _, rfl, by rw [inn_zero], HD.out⟩
      case round =>
        obtain ⟨j, hj, rfl, rfl, hdw⟩ := hrel
        by_cases hltj : j < i
        · have hltji : (j : Int) < (i : Int) := by omega
          have hjl : (j : Int) < (L.length : Int) := by omega
          obtain ⟨mj, hmj⟩ : ∃ m, m = L.getD j 0 := ⟨_, rfl⟩
          have hmjn := HLT.out j (by omega)
          have hcj := HC.out wr hdw j (by omega)
          rw [← hmj] at hmjn hcj
          have hmji : (mj : Int) < (n : Int) := by omega
          have hci := HCI.out wr hdw
          obtain ⟨y, hy⟩ : ∃ y, y = cel T.con mi mj := ⟨_, rfl⟩
          have hc2 := (HRI.out wr hdw).1
          have hc3 := (HRI.out wr hdw).2 mj hmjn
          rw [← hy] at hc3
          obtain ⟨z, hz⟩ : ∃ z, z = inn T.con L i x j := ⟨_, rfl⟩
          have HS : Hid (inn T.con L i x (j + 1) = min z y) := Lib.hid (by rw [inn_step, ← HMI.out, ← hmj, hz, hy])
          have CL := Lib.hid (fun W => least_any z y W)
          rw [← hz]
          clear hmj hy hz hmjn
          go_wp2
          go_quiet ((go_at_call 55; exact Calls.quiet_of_same (CL.out _)))
          go_wp2
          go_roundw
          case rel => exact ⟨j + 1, by omega, by go_num, by rw [HS.out], hdw.more _⟩
          case measure => simp [intOf]; omega
        · obtain rfl : j = i := by omega
          go_wp2
          go_roundw
          case rel => exact ⟨j + 1, by omega, by go_num, by rw [HS1.out], hdw⟩
          case measure => simp [intOf]; omega
    · obtain rfl : i = L.length := by omega
      go_wp2
      go_ret
      exact ⟨rfl, hdw⟩
end Go.Proofs.Ytddnadipleknoaa
