/- The cost of a move on the model's side. Condition: a valid Season, a round of it, sets of its sites, the second of which may be that of the round. -/
import Derived.Test.YtifgmbljimfebaaMoveBound
namespace Go.Proofs.Ytifgmbljimfebaa
open Go.RowKit Go.Shelf

set_option maxRecDepth 32000 in
set_option maxHeartbeats 2000000 in
theorem l10Move_any (S : Sea) (i : Nat) (s t : Row) (B T : List Nat) (w : World) (hS : S.At w) (hs : s.At w) (ht : t.At w) (h : Moves S i s t B T) :
    Calls Try.prog 43 #[.agg #[.slice S.o.a S.o.l.length S.o.c, .slice S.x.a S.x.l.length S.x.c, .slice S.k.a S.k.l.length S.k.c, .slice S.r.a S.r.T.length S.r.c], .int .i64 i, .slice s.a s.l.length s.c, .slice t.a t.l.length t.c] w fun e w' => e = .returned (.int .i64 (moveC S.o.l S.x.l S.k.l (S.r.con.getD i []) B T)) ∧ Below w.heap.size w w' := by
  obtain ⟨wA, hA, hbA, bx, hSA, hszA⟩ := laid_sea S w 31 hS
  obtain ⟨h1, h2, h3, h4, h5, h6, h7⟩ := h.parts
  obtain ⟨ls, lt, lB, lT, l3, l4⟩ := h.lens
  have HsA := Lib.hid (hs.on hbA)
  have HtA := Lib.hid (ht.on hbA)
  obtain ⟨X, hX⟩ : ∃ X, X = S.r.T[i]'h.round := ⟨_, rfl⟩
  have hXc : S.r.con.getD i [] = X.con := by rw [getD_cube h.round, ← hX]
  rw [hXc] at h6 h7 ⊢
  have hgo : goodB S.o.l X.con = true := good_round l3 l4 h1 h6 h7
  obtain ⟨v, hv⟩ : ∃ v, v = (lens X.con T).sum := ⟨_, rfl⟩
  have av := lens_sum_bound hgo h6 T
  rw [← hv] at av
  have HE : Hid (v + sumN (siteC S.o.l S.x.l S.k.l B T) S.o.l.length = moveC S.o.l S.x.l S.k.l X.con B T) := Lib.hid (by rw [hv]; exact move_sites S.o.l S.x.l S.k.l X.con h.ndB h.ndT h.ltB h.ltT)
  have HSB := Lib.hid (fun a => sumN_bound (siteC_bound h1 h2 h3 B T) a)
  obtain ⟨b, o, X', ha, hcl, hXA, hte⟩ := cube_cells hSA.2.2.2 (Below.refl _ _) h.round
  obtain rfl : X' = X := hte.trans hX.symm
  have hii : (i : Int) < (S.r.T.length : Int) := by have := h.round; omega
  have hKi := cubeLim hS.2.2.2
  have x0 := bx.c0
  have x3 := bx.c3
  rw [ha] at x3
  have PS := Lib.hid (fun (u : World) (hu : Below wA.heap.size wA u) => (by
    have := serveE_any ⟨S.o, X'⟩ t T u ⟨hSA.1.on hu, hXA.on hu⟩ (HtA.out.on hu) hgo h.set h.ltT (by have := h.some; rw [hXc, con_length] at this; exact this)
    rw [← hv] at this; exact this : Calls Try.prog 70 #[.agg #[.slice S.o.a S.o.l.length S.o.c, .slice X'.a X'.R.length X'.c], .slice t.a t.l.length t.c] u fun e w' => e = .returned (.int .i64 v) ∧ Below u.heap.size u w'))
  have HT := Lib.hid (fun a : Nat => (by unfold hasI; rw [h.set]; exact has_upT T a : hasI t.l (a : Int) = decide (a ∈ T)))
  have HB := Lib.hid (fun a : Nat => (by unfold hasI; rw [h.before]; exact has_upT B a : hasI s.l (a : Int) = decide (a ∈ B)))
  obtain ⟨n, hn⟩ : ∃ n, n = S.o.l.length := ⟨_, rfl⟩
  have hn5 : n ≤ 5 := by omega
  have hni : (n : Int) ≤ 5 := by omega
  have GO := Lib.hid (fun a => getD99 h1 a)
  have GX := Lib.hid (fun a => getD99 h2 a)
  have GK := Lib.hid (fun a => getD99 h3 a)
  have HN := Lib.hid hn
  have HLX : Hid (S.x.l.length = n) := Lib.hid (by rw [h4, hn])
  have HLK : Hid (S.k.l.length = n) := Lib.hid (by rw [h5, hn])
  have HSA := Lib.hid hSA
  have HBX := Lib.hid bx
  have HBA := Lib.hid hbA
  have HA : Hid (wA = w.alloc (Obj.cells #[.slice S.o.a S.o.l.length S.o.c, .slice S.x.a S.x.l.length S.x.c, .slice S.k.a S.k.l.length S.k.c, .slice (some ⟨b, o, none⟩) S.r.T.length S.r.c] 31)) := Lib.hid (by rw [hA, ha])
  have HAA := Lib.hid ha
  rw [← hn] at HE
  rw [ha]
  clear hS hs ht h hA hbA bx hSA h1 h2 h3 h4 h5 h6 h7 ls lt lB lT l3 l4 hX hXc hgo hv hte ha hn
  go_enter Try.func43, Try.ntmps43
  go_wp2_with fail
  rw [← HA.out]
  go_still_tail 9, (by kernel_rfl)
  change wpList _ _ _ _ _ wA.drew
  obtain ⟨Wd, hWd⟩ : ∃ u, u = wA.drew := ⟨_, rfl⟩
  have hbd : Below wA.heap.size wA Wd := by rw [hWd]; exact (Below.refl _ _).drew
  rw [← hWd]
  have PS1 := Lib.hid (PS.out Wd hbd)
  have hzd := hbd.size
  clear hWd x0 x3 hcl
  go_wp2_with fail
  refine (show Calls _ _ _ _ _ from PS1.out).mono ?_
  rintro e W2 ⟨rfl, hb2⟩
  have HB2 := Lib.hid (hbd.trans (hb2.mono hzd))
  have x0 : W2.cell? ⟨w.heap.size, 0, none⟩ = some (.slice S.o.a n S.o.c) := by rw [HN.out]; exact (HBX.out.on HB2.out).c0
  clear hbd hb2 hzd
  go_wp2_with fail
  go_loopw [9, 10, 11, 12] (fun sv i _ _ wr => ∃ a : Nat, a ≤ n ∧ i = .int .i64 a ∧ sv = .int .i64 (v + sumN (siteC S.o.l S.x.l S.k.l B T) a) ∧ wr = W2) (fun _ i _ _ _ => n - (intOf i).toNat)
  case atStart => exact ⟨0, Nat.zero_le _, rfl, by simp [sumN], rfl⟩
  case round =>
    obtain ⟨a, ha, rfl, rfl, rfl⟩ := hrel
    by_cases hlt : a < n
    · have hlti : (a : Int) < (n : Int) := by omega
      have sO := HSA.out.on HB2.out
      obtain ⟨b0, o0, ao, co⟩ := row_cell sO.1 (show a < S.o.l.length by rw [← HN.out]; exact hlt)
      obtain ⟨b1, o1, ax, cx⟩ := row_cell sO.2.1 (show a < S.x.l.length by rw [HLX.out]; exact hlt)
      obtain ⟨b2, o2, ak, ck⟩ := row_cell sO.2.2.1 (show a < S.k.l.length by rw [HLK.out]; exact hlt)
      have x1 := (HBX.out.on HB2.out).c1
      have x2 := (HBX.out.on HB2.out).c2
      rw [HLX.out, ax] at x1
      rw [HLK.out, ak] at x2
      rw [ao] at x0
      obtain ⟨y, hy⟩ : ∃ y, y = v + sumN (siteC S.o.l S.x.l S.k.l B T) a := ⟨_, rfl⟩
      have hyb := HSB.out a
      have g0 := GO.out a
      have g1 := GX.out a
      have g2 := GK.out a
      obtain ⟨ov, hov⟩ : ∃ q, q = S.o.l.getD a 0 := ⟨_, rfl⟩
      obtain ⟨xv, hxv⟩ : ∃ q, q = S.x.l.getD a 0 := ⟨_, rfl⟩
      obtain ⟨kv, hkv⟩ : ∃ q, q = S.k.l.getD a 0 := ⟨_, rfl⟩
      rw [← hov] at g0 co
      rw [← hxv] at g1 cx
      rw [← hkv] at g2 ck
      have hy2 : 0 ≤ y ∧ y ≤ 2000 := by omega
      have HY : Hid (v + sumN (siteC S.o.l S.x.l S.k.l B T) (a + 1) = y + ((if a ∈ T then kv else 0) + (if a ∈ T ∧ a ∉ B then ov else 0) + (if a ∈ B ∧ a ∉ T then xv else 0))) := Lib.hid (by
        rw [sumN_succ, hy]; unfold siteC; rw [← hov, ← hxv, ← hkv]; omega)
      rw [← hy]
      obtain ⟨p, hp⟩ : ∃ p, p = decide (a ∈ T) := ⟨_, rfl⟩
      obtain ⟨q, hq⟩ : ∃ q, q = decide (a ∈ B) := ⟨_, rfl⟩
      have CT := Lib.hid (by have := l1Has_any t (a : Int) wr (HtA.out.on HB2.out); rw [HT.out, ← hp] at this; exact this)
      have CB := Lib.hid (by have := l1Has_any s (a : Int) wr (HsA.out.on HB2.out); rw [HB.out, ← hq] at this; exact this)
      have HP := Lib.hid hp
      have HQ := Lib.hid hq
      clear hy hyb hov hxv hkv hp hq ao ax ak sO
      go_wp2_with fail
      refine (show Calls _ _ _ _ _ from CT.out).mono ?_
      rintro e W3 ⟨rfl, rfl⟩
      go_wp2_with fail
      refine (show Calls _ _ _ _ _ from CB.out).mono ?_
      rintro e W4 ⟨rfl, rfl⟩
      have e1 : (0 : Int) ≤ y + kv := by omega
      have e2 : y + kv ≤ 9223372036854775807 := by omega
      have e3 : (0 : Int) ≤ y + kv + ov := by omega
      have e4 : y + kv + ov ≤ 9223372036854775807 := by omega
      have e5 : (0 : Int) ≤ y + xv := by omega
      have e6 : y + xv ≤ 9223372036854775807 := by omega
      cases p with
      | true =>
        have hT := of_decide_eq_true HP.out.symm
        cases q with
        | true =>
          have hB := of_decide_eq_true HQ.out.symm
          have HZ : Hid (v + sumN (siteC S.o.l S.x.l S.k.l B T) (a + 1) = y + kv) := Lib.hid (by rw [HY.out]; simp [hT, hB])
          clear hT hB
          go_wp2
          go_roundw
          case rel => exact ⟨a + 1, by omega, by go_num, by rw [HZ.out], by first | rfl | trivial⟩
          case measure => simp [intOf]; omega
        | false =>
          have hB := of_decide_eq_false HQ.out.symm
          have HZ : Hid (v + sumN (siteC S.o.l S.x.l S.k.l B T) (a + 1) = y + kv + ov) := Lib.hid (by rw [HY.out]; simp [hT, hB]; omega)
          clear hT hB
          go_wp2
          go_roundw
          case rel => exact ⟨a + 1, by omega, by go_num, by rw [HZ.out], by first | rfl | trivial⟩
          case measure => simp [intOf]; omega
      | false =>
        have hT := of_decide_eq_false HP.out.symm
        cases q with
        | true =>
          have hB := of_decide_eq_true HQ.out.symm
          have HZ : Hid (v + sumN (siteC S.o.l S.x.l S.k.l B T) (a + 1) = y + xv) := Lib.hid (by rw [HY.out]; simp [hT, hB])
          clear hT hB
          go_wp2
          go_roundw
          case rel => exact ⟨a + 1, by omega, by go_num, by rw [HZ.out], by first | rfl | trivial⟩
          case measure => simp [intOf]; omega
        | false =>
          have hB := of_decide_eq_false HQ.out.symm
          have HZ : Hid (v + sumN (siteC S.o.l S.x.l S.k.l B T) (a + 1) = y) := Lib.hid (by rw [HY.out]; simp [hT, hB])
          clear hT hB
          go_wp2
          go_roundw
          case rel => exact ⟨a + 1, by omega, by go_num, by rw [HZ.out], by first | rfl | trivial⟩
          case measure => simp [intOf]; omega
    · obtain rfl : a = n := by omega
      go_wp2
      go_ret
      exact ⟨by rw [HE.out]; rfl, HBA.out.trans (HB2.out.mono HBA.out.size)⟩

end Go.Proofs.Ytifgmbljimfebaa
