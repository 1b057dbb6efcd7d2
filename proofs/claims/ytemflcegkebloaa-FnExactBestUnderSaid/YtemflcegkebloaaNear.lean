/- The contracts of the search of the site that serves a client, on both sides. Condition: a valid Field and a set with at least one site. -/
import Derived.Test.YtemflcegkebloaaSets
import Derived.Deep.RegionHeld3
import Derived.Test.YtemflcegkebloaaPost
namespace Go.Proofs.Ytemflcegkebloaa
open Go.RowKit

set_option maxHeartbeats 1000000 in
theorem nearest_any (r s : Row) (T : List Nat) (w : World) (hr : r.At w) (hs : s.At w) (hT : s.l = up T) (h0 : 0 < T.length) (hb : ∀ m ∈ T, m < r.l.length) :
    Calls Try.prog 91 #[.slice r.a r.l.length r.c, .slice s.a s.l.length s.c] w fun e w' => e = .returned (.int .i64 ((near r.l T : Nat) : Int)) ∧ DrewTo w w' := by
  obtain ⟨ra, rc, rl⟩ := r
  obtain ⟨a, c, l⟩ := s
  obtain ⟨g1, g2, g3⟩ := hr
  obtain ⟨h1, h2, h3⟩ := hs
  simp only at g1 g2 g3 h1 h2 h3 hT hb ⊢
  subst hT
  rw [iv_length] at g1 h1
  rw [up_length] at h1 ⊢
  unfold maxLen at g2 h2
  have hri : (rl.length : Int) ≤ 9223372036854775807 := by omega
  have hni : (T.length : Int) ≤ 9223372036854775807 := by omega
  rcases h3 with h3 | ⟨b, o, rfl, hbb, hcell⟩
  · have h3' := congrArg List.length (iv_nil h3); rw [up_length, List.length_nil] at h3'; omega
  have hm0 := hb _ (List.getElem_mem h0)
  rcases g3 with g3 | ⟨b', o', rfl, hbb', hcell'⟩
  · have g3' := congrArg List.length (iv_nil g3); rw [List.length_nil] at g3'; omega
  have hc0 : w.cell? ⟨b, o, none⟩ = some (.int .i64 (T[0] : Int)) := by have := hcell 0 _ (iv_at (by rw [up_length]; exact h0)); rw [Nat.add_zero, up_at h0] at this; exact this
  have HC := Lib.hid (fun j (hj : j < T.length) => by have := hcell j _ (iv_at (by rw [up_length]; exact hj)); rw [up_at hj] at this; exact this : ∀ j (hj : j < T.length), w.cell? ⟨b, o + j, none⟩ = some (.int .i64 (T[j] : Int)))
  have HC' := Lib.hid (fun m (hm : m < rl.length) => by have := hcell' m _ (iv_at hm); rw [← getD_at hm] at this; exact this : ∀ m (hm : m < rl.length), w.cell? ⟨b', o' + m, none⟩ = some (.int .i64 (rl.getD m 0)))
  have HB := Lib.hid hb
  have HN0 : Hid (T[0] = nearTo rl T 0) := Lib.hid (by rw [near_zero, head_eq h0])
  have h0i : (0 : Int) < (T.length : Int) := by omega
  obtain ⟨t0, ht0⟩ : ∃ t, t = T[0] := ⟨_, rfl⟩
  rw [← ht0] at hc0 HN0
  clear hcell hcell' hb ht0 hm0
  go_enter Try.func91, Try.ntmps91
  go_wp2
  go_loopw [5, 13] (fun nb i wr => ∃ k : Nat, k ≤ T.length ∧ i = .int .i64 k ∧ nb = .int .i64 ((nearTo rl T k : Nat) : Int) ∧ DrewTo w wr) (fun _ i _ => T.length - (intOf i).toNat)
  case atStart => exact ⟨0, Nat.zero_le _, rfl, by rw [← HN0.out], DrewTo.refl _⟩
  case round =>
    obtain ⟨k, hk, rfl, rfl, hdw⟩ := hrel
    clear hc0
    by_cases hlt : k < T.length
    · have hlti : (k : Int) < (T.length : Int) := by omega
      obtain ⟨m, hm⟩ : ∃ m, m = T[k] := ⟨_, rfl⟩
      obtain ⟨q, hq⟩ : ∃ q, q = nearTo rl T k := ⟨_, rfl⟩
      have hcm : wr.cell? ⟨b, o + k, none⟩ = some (.int .i64 (m : Int)) := by rw [hdw.cell, hm]; exact HC.out k hlt
      have hmb : m < rl.length := HB.out m (by rw [hm]; exact List.getElem_mem hlt)
      have hqb : q < rl.length := HB.out q (by rw [hq]; exact near_mem h0 k hk)
      obtain ⟨x, hx⟩ : ∃ x, x = rl.getD m 0 := ⟨_, rfl⟩
      obtain ⟨y, hy⟩ : ∃ y, y = rl.getD q 0 := ⟨_, rfl⟩
      have hc1 : wr.cell? ⟨b', o' + m, none⟩ = some (.int .i64 x) := by rw [hdw.cell, hx]; exact HC'.out m hmb
      have hc2 : wr.cell? ⟨b', o' + q, none⟩ = some (.int .i64 y) := by rw [hdw.cell, hy]; exact HC'.out q hqb
      have hmi : (m : Int) < (rl.length : Int) := by omega
      have hqi : (q : Int) < (rl.length : Int) := by omega
      have hst : nearTo rl T (k + 1) = if x < y then m else q := by rw [near_step hlt, hx, hy, hm, hq]; rfl
      have HST := Lib.hid hst
      rw [← hq]
      clear hm hq hx hy hst
      by_cases hxy : x < y
      · go_wp2
        go_quiet (fail)
        go_wp2
        go_roundw
        case rel => exact ⟨k + 1, by omega, by go_num, by rw [HST.out, if_pos hxy], hdw.more _⟩
        case measure => simp [intOf]; omega
      · go_wp2
        go_quiet (fail)
        go_wp2
        go_roundw
        case rel => exact ⟨k + 1, by omega, by go_num, by rw [HST.out, if_neg (by omega)], hdw.more _⟩
        case measure => simp [intOf]; omega
    · obtain rfl : k = T.length := by omega
      go_wp2
      go_ret
      exact ⟨rfl, hdw⟩

set_option maxHeartbeats 1000000 in
theorem l2Site_any (F : Fld) (s : Row) (T : List Nat) (i : Nat) (w : World) (hF : F.At w) (hs : s.At w) (hg : F.good = true) (hT : s.l = up T) (h0 : 0 < T.length) (hb : ∀ m ∈ T, m < F.o.l.length) (hi : i < F.t.R.length) :
    Calls Try.prog 78 #[F.val, .int .i64 i, .slice s.a s.l.length s.c] w fun e w' => e = .returned (.int .i64 ((near F.t.R[i].l T : Nat) : Int)) ∧ Below w.heap.size w w' := by
  obtain ⟨wA, hA, hbA, bx, hFA, _⟩ := laid_fld F w 29 hF
  have hsA := hs.on hbA
  obtain ⟨r, hr⟩ : ∃ r, r = F.t.R[i] := ⟨_, rfl⟩
  have hrm : r ∈ F.t.R := by rw [hr]; exact List.getElem_mem hi
  have hlen := (good_row hg hrm).1
  rw [← hlen] at hb
  have x1 : wA.cell? ⟨w.heap.size, 1, none⟩ = some (.slice F.t.a F.t.R.length F.t.c) := bx.c1
  have X1 := Lib.hid x1
  obtain ⟨hr1, hr2, hr3⟩ := hFA.2.1
  rw [tv_length] at hr1
  have hRi : (F.t.R.length : Int) ≤ 9223372036854775807 := by unfold maxLen at hr2; omega
  rcases hr3 with hr3 | ⟨bt, ot, hta, hbt, hct⟩
  · have h3' := congrArg List.length hr3; rw [tv_length, List.length_nil] at h3'; omega
  have hci : wA.cell? ⟨bt, ot + i, none⟩ = some (.slice r.a r.l.length r.c) := by rw [hr]; exact hct i _ (tv_at hi)
  have HCI := Lib.hid hci
  obtain ⟨g1, g2, g3⟩ := hFA.2.2 r hrm
  obtain ⟨h1, h2, h3⟩ := hsA
  rw [← hr]
  obtain ⟨ra, rc, rl⟩ := r
  obtain ⟨a, c, l⟩ := s
  simp only at g1 g2 g3 h1 h2 h3 hT hb hlen hci HCI ⊢
  subst hT
  rw [iv_length] at g1 h1
  rw [up_length] at h1 ⊢
  unfold maxLen at g2 h2
  have hri : (rl.length : Int) ≤ 9223372036854775807 := by omega
  have hni : (T.length : Int) ≤ 9223372036854775807 := by omega
  rcases h3 with h3 | ⟨b, o, rfl, hbb, hcell⟩
  · have h3' := congrArg List.length (iv_nil h3); rw [up_length, List.length_nil] at h3'; omega
  have hm0 := hb _ (List.getElem_mem h0)
  rcases g3 with g3 | ⟨b', o', rfl, hbb', hcell'⟩
  · have g3' := congrArg List.length (iv_nil g3); rw [List.length_nil] at g3'; omega
  have hc0 : wA.cell? ⟨b, o, none⟩ = some (.int .i64 (T[0] : Int)) := by have := hcell 0 _ (iv_at (by rw [up_length]; exact h0)); rw [Nat.add_zero, up_at h0] at this; exact this
  have HC := Lib.hid (fun j (hj : j < T.length) => by have := hcell j _ (iv_at (by rw [up_length]; exact hj)); rw [up_at hj] at this; exact this : ∀ j (hj : j < T.length), wA.cell? ⟨b, o + j, none⟩ = some (.int .i64 (T[j] : Int)))
  have HC' := Lib.hid (fun m (hm : m < rl.length) => by have := hcell' m _ (iv_at hm); rw [← getD_at hm] at this; exact this : ∀ m (hm : m < rl.length), wA.cell? ⟨b', o' + m, none⟩ = some (.int .i64 (rl.getD m 0)))
  have HB := Lib.hid hb
  have HN0 : Hid (T[0] = nearTo rl T 1) := Lib.hid (by rw [near_one h0])
  have h0i : (0 : Int) < (T.length : Int) := by omega
  have hii : (i : Int) < (F.t.R.length : Int) := by omega
  obtain ⟨t0, ht0⟩ : ∃ t, t = T[0] := ⟨_, rfl⟩
  rw [← ht0] at hc0 HN0
  have HA := Lib.hid hA
  have HCT := Lib.hid hct
  obtain ⟨Fo, ⟨ta, tc, R⟩⟩ := F
  simp only at *
  subst hta
  clear hcell hcell' hb ht0 hm0 hr hrm hlen hA bx hFA hF hs hg hct
  show Calls _ _ #[.agg #[Fo.val, .slice (some ⟨bt, ot, none⟩) R.length tc], _, _] w _
  have hc00 : (w.alloc (Obj.cells #[Fo.val, Value.slice (some ⟨bt, ot, none⟩) R.length tc] 29)).cell? ⟨b, o, none⟩ = some (.int .i64 (t0 : Int)) := by
    rw [show w.alloc (Obj.cells #[Fo.val, Value.slice (some ⟨bt, ot, none⟩) R.length tc] 29) = wA from HA.out.symm]; exact hc0
  go_enter Try.func78, Try.ntmps78
  go_wp2
  go_loopw [7, 8] (fun nb i wr => ∃ k : Nat, 1 ≤ k ∧ k ≤ T.length ∧ i = .int .i64 k ∧ nb = .int .i64 ((nearTo rl T k : Nat) : Int) ∧ DrewTo wA wr) (fun _ i _ => T.length - (intOf i).toNat)
  case atStart => exact ⟨1, Nat.le_refl _, h0, rfl, by rw [← HN0.out], by rw [HA.out]; exact DrewTo.refl _⟩
  case round =>
    obtain ⟨k, hk1, hk, rfl, rfl, hdw⟩ := hrel
    clear hc0 hc00
    by_cases hlt : k < T.length
    · have hlti : (k : Int) < (T.length : Int) := by omega
      obtain ⟨m, hm⟩ : ∃ m, m = T[k] := ⟨_, rfl⟩
      obtain ⟨q, hq⟩ : ∃ q, q = nearTo rl T k := ⟨_, rfl⟩
      have hcm : wr.cell? ⟨b, o + k, none⟩ = some (.int .i64 (m : Int)) := by rw [hdw.cell, hm]; exact HC.out k hlt
      have hmb : m < rl.length := HB.out m (by rw [hm]; exact List.getElem_mem hlt)
      have hqb : q < rl.length := HB.out q (by rw [hq]; exact near_mem h0 k hk)
      obtain ⟨x, hx⟩ : ∃ x, x = rl.getD m 0 := ⟨_, rfl⟩
      obtain ⟨y, hy⟩ : ∃ y, y = rl.getD q 0 := ⟨_, rfl⟩
      have hc1 : wr.cell? ⟨b', o' + m, none⟩ = some (.int .i64 x) := by rw [hdw.cell, hx]; exact HC'.out m hmb
      have hc2 : wr.cell? ⟨b', o' + q, none⟩ = some (.int .i64 y) := by rw [hdw.cell, hy]; exact HC'.out q hqb
      have hc3 : wr.cell? ⟨w.heap.size, 1, none⟩ = some (.slice (some ⟨bt, ot, none⟩) R.length tc) := by rw [hdw.cell]; exact X1.out
      have hc4 : wr.cell? ⟨bt, ot + i, none⟩ = some (.slice (some ⟨b', o', none⟩) rl.length rc) := by rw [hdw.cell]; exact HCI.out
      have hmi : (m : Int) < (rl.length : Int) := by omega
      have hqi : (q : Int) < (rl.length : Int) := by omega
      have hst : nearTo rl T (k + 1) = if x < y then m else q := by rw [near_step hlt, hx, hy, hm, hq]; rfl
      have HST := Lib.hid hst
      rw [← hq]
      clear hm hq hx hy hst
      by_cases hxy : x < y
      · go_wp2
        go_quiet (fail)
        have hcm2 : (wr.drewN nq).cell? ⟨b, o + k, none⟩ = some (.int .i64 (m : Int)) := hcm
        go_wp2
        go_roundw
        case rel => exact ⟨k + 1, by omega, by omega, by go_num, by rw [HST.out, if_pos hxy], hdw.more _⟩
        case measure => simp [intOf]; omega
      · go_wp2
        go_quiet (fail)
        go_wp2
        go_roundw
        case rel => exact ⟨k + 1, by omega, by omega, by go_num, by rw [HST.out, if_neg (by omega)], hdw.more _⟩
        case measure => simp [intOf]; omega
    · obtain rfl : k = T.length := by omega
      go_wp2
      go_ret
      exact ⟨rfl, hbA.trans (hdw.below.mono hbA.size)⟩

set_option maxHeartbeats 1000000 in
theorem l2Nearest_any (F : Fld) (s : Row) (T : List Nat) (i : Nat) (w : World) (hF : F.At w) (hs : s.At w) (hg : F.good = true) (hT : s.l = up T) (h0 : 0 < T.length) (hb : ∀ m ∈ T, m < F.o.l.length) (hi : i < F.t.R.length) :
    Calls Try.prog 62 #[F.val, .int .i64 i, .slice s.a s.l.length s.c] w fun e w' => e = .returned (.int .i64 (F.t.R[i].l.getD (near F.t.R[i].l T) 0)) ∧ Below w.heap.size w w' := by
  obtain ⟨wA, hA, hbA, bx, hFA, _⟩ := laid_fld F w 29 hF
  have hsA := hs.on hbA
  obtain ⟨r, hr⟩ : ∃ r, r = F.t.R[i] := ⟨_, rfl⟩
  have hrm : r ∈ F.t.R := by rw [hr]; exact List.getElem_mem hi
  have hlen := (good_row hg hrm).1
  obtain ⟨q, hq⟩ : ∃ q, q = near r.l T := ⟨_, rfl⟩
  have hqb : q < r.l.length := by rw [hlen, hq]; exact hb _ (near_mem h0 _ (Nat.le_refl _))
  obtain ⟨x, hx⟩ : ∃ x, x = r.l.getD q 0 := ⟨_, rfl⟩
  have CS := Lib.hid (fun W (h : Below wA.heap.size wA W) => by have := l2Site_any F s T i W (hFA.on h) (hsA.on h) hg hT h0 hb hi; rw [← hr, ← hq] at this; exact this : ∀ W, Below wA.heap.size wA W → Calls Try.prog 78 #[F.val, .int .i64 i, .slice s.a s.l.length s.c] W fun e w' => e = .returned (.int .i64 (q : Int)) ∧ Below W.heap.size W w')
  rw [← hr, ← hq, ← hx]
  obtain ⟨hr1, hr2, hr3⟩ := hFA.2.1
  rw [tv_length] at hr1
  have hRi : (F.t.R.length : Int) ≤ 9223372036854775807 := by unfold maxLen at hr2; omega
  rcases hr3 with hr3 | ⟨bt, ot, hta, hbt, hct⟩
  · have h3' := congrArg List.length hr3; rw [tv_length, List.length_nil] at h3'; omega
  have hci : wA.cell? ⟨bt, ot + i, none⟩ = some (.slice r.a r.l.length r.c) := by rw [hr]; exact hct i _ (tv_at hi)
  obtain ⟨g1, g2, g3⟩ := hFA.2.2 r hrm
  rw [iv_length] at g1
  have hri : (r.l.length : Int) ≤ 9223372036854775807 := by unfold maxLen at g2; omega
  rcases g3 with g3 | ⟨b', o', hra, hbb', hcell'⟩
  · have g3' := congrArg List.length (iv_nil g3); rw [List.length_nil] at g3'; omega
  have hcq : wA.cell? ⟨b', o' + q, none⟩ = some (.int .i64 x) := by rw [hx, getD_at hqb]; exact hcell' q _ (iv_at hqb)
  rw [hra] at hci
  have hc0 := bx.c0
  have hc1 : wA.cell? ⟨w.heap.size, 1, none⟩ = some (.slice (some ⟨bt, ot, none⟩) F.t.R.length F.t.c) := by rw [← hta]; exact bx.c1
  have hqi : (q : Int) < (r.l.length : Int) := by omega
  have hii : (i : Int) < (F.t.R.length : Int) := by omega
  have hlt0 := bx.lt
  have HS : Hid (∀ u, Below wA.heap.size wA u → ((u.cell? ⟨w.heap.size, 0, none⟩ = some F.o.val ∧ u.cell? ⟨w.heap.size, 1, none⟩ = some (.slice (some ⟨bt, ot, none⟩) F.t.R.length F.t.c) ∧ u.cell? ⟨bt, ot + i, none⟩ = some (.slice (some ⟨b', o', none⟩) r.l.length r.c) ∧ u.cell? ⟨b', o' + q, none⟩ = some (.int .i64 x)) ∧ Below wA.heap.size wA u)) := Lib.hid fun u hu =>
    ⟨⟨(hu.cell (p := ⟨w.heap.size, 0, none⟩) hlt0).trans hc0, (hu.cell (p := ⟨w.heap.size, 1, none⟩) hlt0).trans hc1, (hu.cell (p := ⟨bt, ot + i, none⟩) hbt).trans hci, (hu.cell (p := ⟨b', o' + q, none⟩) hbb').trans hcq⟩, hu⟩
  have s0 := HS.out wA.drew (Below.refl _ _).drew
  have HA := Lib.hid hA
  clear hA bx hFA hF hs hsA hg hb hct hcell' hr hrm hlen hq hx hci hcq hc0 hc1 hr1 hr2 g1 g2 hbt hbb' hlt0 hra
  have CS1 : Hid (∀ u, Below wA.heap.size wA u → Calls Try.prog 78 #[.agg #[F.o.val, .slice (some ⟨bt, ot, none⟩) F.t.R.length F.t.c], .int .i64 i, .slice s.a s.l.length s.c] u fun e w' => e = .returned (.int .i64 (q : Int)) ∧ Below u.heap.size u w') := Lib.hid fun u hu => by
    rw [← hta]; exact CS.out u hu
  clear CS
  show Calls _ _ #[.agg #[F.o.val, .slice F.t.a F.t.R.length F.t.c], _, _] w _
  have HA1 : Hid (wA = w.alloc (Obj.cells #[F.o.val, Value.slice (some ⟨bt, ot, none⟩) F.t.R.length F.t.c] 29)) := Lib.hid (by rw [← hta]; exact HA.out)
  rw [hta]
  obtain ⟨n, hn⟩ : ∃ n, n = F.t.R.length := ⟨_, rfl⟩
  obtain ⟨tc, htc⟩ : ∃ n, n = F.t.c := ⟨_, rfl⟩
  obtain ⟨fo, hfo⟩ : ∃ n, n = F.o.val := ⟨_, rfl⟩
  obtain ⟨rn, hrn⟩ : ∃ n, n = r.l.length := ⟨_, rfl⟩
  rw [← hn, ← htc, ← hfo] at HA1 CS1 HS s0 ⊢
  rw [← hrn] at HS s0 hqi hri
  rw [← hn] at hii hRi
  clear HA hta hn htc hfo hrn hT h0 hi
  go_enter Try.func62, Try.ntmps62
  go_wp2_with fail
  rw [← HA1.out]
  go_region_held3 (fun u => ((u.cell? ⟨w.heap.size, 0, none⟩ = some fo ∧ u.cell? ⟨w.heap.size, 1, none⟩ = some (.slice (some ⟨bt, ot, none⟩) n tc) ∧ u.cell? ⟨bt, ot + i, none⟩ = some (.slice (some ⟨b', o', none⟩) rn r.c) ∧ u.cell? ⟨b', o' + q, none⟩ = some (.int .i64 x)) ∧ Below wA.heap.size wA u)) (first | exact s0 | exact keep_reg HS.out (by first | assumption | exact And.right (by assumption)) hb1) ((go_at_call 78; refine (CS1.out _ (by first | assumption | exact And.right (by assumption))).mono ?_; rintro e u1 ⟨rfl, hb1⟩))
  refine at_exit (W := wA) (by first | assumption | exact And.right (by assumption)) ?_
  intro W8 hb8
  go_wp2
  go_ret
  exact ⟨rfl, hbA.trans (hb8.mono hbA.size)⟩

end Go.Proofs.Ytemflcegkebloaa
