/- The contracts of the search of the site that serves a client, on both sides. Condition: a valid Field and a set with at least one site. -/
import Derived.Test.YtgapoeliijnmaaaSets
import Derived.Deep.RegionHeld3
import Derived.Test.YtgapoeliijnmaaaPost
namespace Go.Proofs.Ytgapoeliijnmaaa
open Go.RowKit

set_option maxHeartbeats 1000000 in
theorem nearest_any (r s : Row) (T : List Nat) (w : World) (hr : r.At w) (hs : s.At w) (hT : s.l = up T) (h0 : 0 < T.length) (hb : ∀ m ∈ T, m < r.l.length) :
    Calls Try.prog 40 #[.slice r.a r.l.length r.c, .slice s.a s.l.length s.c] w fun e w' => e = .returned (.int .i64 ((near r.l T : Nat) : Int)) ∧ DrewTo w w' := by
  obtain ⟨ra, rc, rl⟩ := r
  obtain ⟨a, c, l⟩ := s
  obtain ⟨g1, g2, g3⟩ := hr
  obtain ⟨h1, h2, h3⟩ := hs
  simp only at g1 g2 g3 h1 h2 h3 hT hb ⊢
  subst hT
  rw [iv_length] at g1 h1
  rw [up_length] at h1 ⊢
  unfold maxLen at g2 h2
  have hri : (rl.length : Int) ≤ 9223372036854775807 := by omega
  have hni : (T.length : Int) ≤ 9223372036854775807 := by omega
  rcases h3 with h3 | ⟨b, o, rfl, hbb, hcell⟩
  · have h3' := congrArg List.length (iv_nil h3); rw [up_length, List.length_nil] at h3'; omega
  have hm0 := hb _ (List.getElem_mem h0)
  rcases g3 with g3 | ⟨b', o', rfl, hbb', hcell'⟩
  · have g3' := congrArg List.length (iv_nil g3); rw [List.length_nil] at g3'; omega
  have hc0 : w.cell? ⟨b, o, none⟩ = some (.int .i64 (T[0] : Int)) := by have := hcell 0 _ (iv_at (by rw [up_length]; exact h0)); rw [Nat.add_zero, up_at h0] at this; exact this
  have HC := Lib.hid (fun j (hj : j < T.length) => by have := hcell j _ (iv_at (by rw [up_length]; exact hj)); rw [up_at hj] at this; exact this : ∀ j (hj : j < T.length), w.cell? ⟨b, o + j, none⟩ = some (.int .i64 (T[j] : Int)))
  have HC' := Lib.hid (fun m (hm : m < rl.length) => by have := hcell' m _ (iv_at hm); rw [← getD_at hm] at this; exact this : ∀ m (hm : m < rl.length), w.cell? ⟨b', o' + m, none⟩ = some (.int .i64 (rl.getD m 0)))
  have HB := Lib.hid hb
  have HN0 : Hid (T[0] = nearTo rl T 0) := Lib.hid (by rw [near_zero, head_eq h0])
  have h0i : (0 : Int) < (T.length : Int) := by omega
  obtain ⟨t0, ht0⟩ : ∃ t, t = T[0] := ⟨_, rfl⟩
  rw [← ht0] at hc0 HN0
  clear hcell hcell' hb ht0 hm0
  go_enter Try.func40, Try.ntmps40
  go_wp2
  go_loopw [5, 13] (fun nb i wr => ∃ k : Nat, k ≤ T.length ∧ i = .int .i64 k ∧ nb = .int .i64 ((nearTo rl T k : Nat) : Int) ∧ DrewTo w wr) (fun _ i _ => T.length - (intOf i).toNat)
  case atStart => exact ⟨0, Nat.zero_le _, rfl, by rw [← HN0.out], DrewTo.refl _⟩
  case round =>
    obtain ⟨k, hk, rfl, rfl, hdw⟩ := hrel
    clear hc0
    by_cases hlt : k < T.length
    · have hlti : (k : Int) < (T.length : Int) := by omega
      obtain ⟨m, hm⟩ : ∃ m, m = T[k] := ⟨_, rfl⟩
      obtain ⟨q, hq⟩ : ∃ q, q = nearTo rl T k := ⟨_, rfl⟩
      have hcm : wr.cell? ⟨b, o + k, none⟩ = some (.int .i64 (m : Int)) := by rw [hdw.cell, hm]; exact HC.out k hlt
      have hmb : m < rl.length := HB.out m (by rw [hm]; exact List.getElem_mem hlt)
      have hqb : q < rl.length := HB.out q (by rw [hq]; exact near_mem h0 k hk)
      obtain ⟨x, hx⟩ : ∃ x, x = rl.getD m 0 := ⟨_, rfl⟩
      obtain ⟨y, hy⟩ : ∃ y, y = rl.getD q 0 := ⟨_, rfl⟩
      have hc1 : wr.cell? ⟨b', o' + m, none⟩ = some (.int .i64 x) := by rw [hdw.cell, hx]; exact HC'.out m hmb
      have hc2 : wr.cell? ⟨b', o' + q, none⟩ = some (.int .i64 y) := by rw [hdw.cell, hy]; exact HC'.out q hqb
      have hmi : (m : Int) < (rl.length : Int) := by omega
      have hqi : (q : Int) < (rl.length : Int) := by omega
      have hst : nearTo rl T (k + 1) = if x < y then m else q := by rw [near_step hlt, hx, hy, hm, hq]; rfl
      have HST := Lib.hid hst
      rw [← hq]
      clear hm hq hx hy hst
      by_cases hxy : x < y
      · go_wp2
        go_quiet (fail)
        go_wp2
        go_roundw
        case rel => exact ⟨k + 1, by omega, by go_num, by rw [HST.out, if_pos hxy], hdw.more _⟩
        case measure => simp [intOf]; omega
      · go_wp2
        go_quiet (fail)
        go_wp2
        go_roundw
        case rel => exact ⟨k + 1, by omega, by go_num, by rw [HST.out, if_neg (by omega)], hdw.more _⟩
        case measure => simp [intOf]; omega
    · obtain rfl : k = T.length := by omega
      go_wp2
      go_ret
      exact ⟨rfl, hdw⟩

set_option maxHeartbeats 1000000 in
theorem l2Site_any (F : Fld) (s : Row) (T : List Nat) (i : Nat) (w : World) (hF : F.At w) (hs : s.At w) (hg : F.good = true) (hT : s.l = up T) (h0 : 0 < T.length) (hb : ∀ m ∈ T, m < F.o.l.length) (hi : i < F.t.R.length) :
    Calls Try.prog 36 #[F.val, .int .i64 i, .slice s.a s.l.length s.c] w fun e w' => e = .returned (.int .i64 ((near F.t.R[i].l T : Nat) : Int)) ∧ Below w.heap.size w w' := by
  obtain ⟨wA, hA, hbA, bx, hFA, _⟩ := laid_fld F w 29 hF
  have hsA := hs.on hbA
  obtain ⟨r, hr⟩ : ∃ r, r = F.t.R[i] := ⟨_, rfl⟩
  have hrm : r ∈ F.t.R := by rw [hr]; exact List.getElem_mem hi
  have hlen := (good_row hg hrm).1
  rw [← hlen] at hb
  have x1 : wA.cell? ⟨w.heap.size, 1, none⟩ = some (.slice F.t.a F.t.R.length F.t.c) := bx.c1
  have X1 := Lib.hid x1
  obtain ⟨hr1, hr2, hr3⟩ := hFA.2.1
  rw [tv_length] at hr1
  have hRi : (F.t.R.length : Int) ≤ 9223372036854775807 := by unfold maxLen at hr2; omega
  rcases hr3 with hr3 | ⟨bt, ot, hta, hbt, hct⟩
  · have h3' := congrArg List.length hr3; rw [tv_length, List.length_nil] at h3'; omega
  have hci : wA.cell? ⟨bt, ot + i, none⟩ = some (.slice r.a r.l.length r.c) := by rw [hr]; exact hct i _ (tv_at hi)
  have HCI := Lib.hid hci
  obtain ⟨g1, g2, g3⟩ := hFA.2.2 r hrm
  obtain ⟨h1, h2, h3⟩ := hsA
  rw [← hr]
  obtain ⟨ra, rc, rl⟩ := r
  obtain ⟨a, c, l⟩ := s
  simp only at g1 g2 g3 h1 h2 h3 hT hb hlen hci HCI ⊢
  subst hT
  rw [iv_length] at g1 h1
  rw [up_length] at h1 ⊢
  unfold maxLen at g2 h2
  have hri : (rl.length : Int) ≤ 9223372036854775807 := by omega
  have hni : (T.length : Int) ≤ 9223372036854775807 := by omega
  rcases h3 with h3 | ⟨b, o, rfl, hbb, hcell⟩
  · have h3' := congrArg List.length (iv_nil h3); rw [up_length, List.length_nil] at h3'; omega
  have hm0 := hb _ (List.getElem_mem h0)
  rcases g3 with g3 | ⟨b', o', rfl, hbb', hcell'⟩
  · have g3' := congrArg List.length (iv_nil g3); rw [List.length_nil] at g3'; omega
  have hc0 : wA.cell? ⟨b, o, none⟩ = some (.int .i64 (T[0] : Int)) := by have := hcell 0 _ (iv_at (by rw [up_length]; exact h0)); rw [Nat.add_zero, up_at h0] at this; exact this
  have HC := Lib.hid (fun j (hj : j < T.length) => by have := hcell j _ (iv_at (by rw [up_length]; exact hj)); rw [up_at hj] at this; exact this : ∀ j (hj : j < T.length), wA.cell? ⟨b, o + j, none⟩ = some (.int .i64 (T[j] : Int)))
  have HC' := Lib.hid (fun m (hm : m < rl.length) => by have := hcell' m _ (iv_at hm); rw [← getD_at hm] at this; exact this : ∀ m (hm : m < rl.length), wA.cell? ⟨b', o' + m, none⟩ = some (.int .i64 (rl.getD m 0)))
  have HB := Lib.hid hb
  have HN0 : Hid (T[0] = nearTo rl T 1) := Lib.hid (by rw [near_one h0])
  have h0i : (0 : Int) < (T.length : Int) := by omega
  have hii : (i : Int) < (F.t.R.length : Int) := by omega
  obtain ⟨t0, ht0⟩ : ∃ t, t = T[0] := ⟨_, rfl⟩
  rw [← ht0] at hc0 HN0
  have HA := Lib.hid hA
  have HCT := Lib.hid hct
  obtain ⟨Fo, ⟨ta, tc, R⟩⟩ := F
  simp only at *
  subst hta
  clear hcell hcell' hb ht0 hm0 hr hrm hlen hA bx hFA hF hs hg hct
  show Calls _ _ #[.agg #[Fo.val, .slice (some ⟨bt, ot, none⟩) R.length tc], _, _] w _
  have hc00 : (w.alloc (Obj.cells #[Fo.val, Value.slice (some ⟨bt, ot, none⟩) R.length tc] 29)).cell? ⟨b, o, none⟩ = some (.int .i64 (t0 : Int)) := by
    rw [show w.alloc (Obj.cells #[Fo.val, Value.slice (some ⟨bt, ot, none⟩) R.length tc] 29) = wA from HA.out.symm]; exact hc0
  go_enter Try.func36, Try.ntmps36
  go_wp2
  go_loopw [7, 8] (fun nb i wr => ∃ k : Nat, 1 ≤ k ∧ k ≤ T.length ∧ i = .int .i64 k ∧ nb = .int .i64 ((nearTo rl T k : Nat) : Int) ∧ DrewTo wA wr) (fun _ i _ => T.length - (intOf i).toNat)
  case atStart => exact ⟨1, Nat.le_refl _, h0, rfl, by rw [← HN0.out], by rw [HA.out]; exact DrewTo.refl _⟩
  case round =>
    obtain ⟨k, hk1, hk, rfl, rfl, hdw⟩ := hrel
    clear hc0 hc00
    by_cases hlt : k < T.length
    · have hlti : (k : Int) < (T.length : Int) := by omega
      obtain ⟨m, hm⟩ : ∃ m, m = T[k] := ⟨_, rfl⟩
      obtain ⟨q, hq⟩ : ∃ q, q = nearTo rl T k := ⟨_, rfl⟩
      have hcm : wr.cell? ⟨b, o + k, none⟩ = some (.int .i64 (m : Int)) := by rw [hdw.cell, hm]; exact HC.out k hlt
      have hmb : m < rl.length := HB.out m (by rw [hm]; exact List.getElem_mem hlt)
      have hqb : q < rl.length := HB.out q (by rw [hq]; exact near_mem h0 k hk)
      obtain ⟨x, hx⟩ : ∃ x, x = rl.getD m 0 := ⟨_, rfl⟩
      obtain ⟨y, hy⟩ : ∃ y, y = rl.getD q 0 := ⟨_, rfl⟩
      have hc1 : wr.cell? ⟨b', o' + m, none⟩ = some (.int .i64 x) := by rw [hdw.cell, hx]; exact HC'.out m hmb
      have hc2 : wr.cell? ⟨b', o' + q, none⟩ = some (.int .i64 y) := by rw [hdw.cell, hy]; exact HC'.out q hqb
      have hc3 : wr.cell? ⟨w.heap.size, 1, none⟩ = some (.slice (some ⟨bt, ot, none⟩) R.length tc) := by rw [hdw.cell]; exact X1.out
      have hc4 : wr.cell? ⟨bt, ot + i, none⟩ = some (.slice (some ⟨b', o', none⟩) rl.length rc) := by rw [hdw.cell]; exact HCI.out
      have hmi : (m : Int) < (rl.length : Int) := by omega
      have hqi : (q : Int) < (rl.length : Int) := by omega
      have hst : nearTo rl T (k + 1) = if x < y then m else q := by rw [near_step hlt, hx, hy, hm, hq]; rfl
      have HST := Lib.hid hst
      rw [← hq]
      clear hm hq hx hy hst
      by_cases hxy : x < y
      · go_wp2
        go_quiet (fail)
        have hcm2 : (wr.drewN nq).cell? ⟨b, o + k, none⟩ = some (.int .i64 (m : Int)) := hcm
        go_wp2
        go_roundw
        case rel => exact ⟨k + 1, by omega, by omega, by go_num, by rw [HST.out, if_pos hxy], hdw.more _⟩
        case measure => simp [intOf]; omega
      · go_wp2
        go_quiet (fail)
        go_wp2
        go_roundw
        case rel => exact ⟨k + 1, by omega, by omega, by go_num, by rw [HST.out, if_neg (by omega)], hdw.more _⟩
        case measure => simp [intOf]; omega
    · obtain rfl : k = T.length := by omega
      go_wp2
      go_ret
      exact ⟨rfl, hbA.trans (hdw.below.mono hbA.size)⟩

end Go.Proofs.Ytgapoeliijnmaaa
