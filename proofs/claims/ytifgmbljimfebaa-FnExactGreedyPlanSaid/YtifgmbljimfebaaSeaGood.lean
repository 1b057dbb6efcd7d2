/- The contracts of the tests whether a Season is valid, on both sides. Condition: the Season reads as such. -/
import Derived.Test.YtifgmbljimfebaaSeaMem
import Derived.Test.YtifgmbljimfebaaPlainSea
import Derived.Test.YtifgmbljimfebaaGood
import Derived.StillTailTactics
namespace Go.Proofs.Ytifgmbljimfebaa
open Go.RowKit

def Sea.good (S : Sea) : Bool := seaB S.o.l S.x.l S.k.l S.r.con
theorem Sea.Like.good {S G : Sea} (h : S.Like G) : S.good = G.good := by unfold Sea.good; rw [h.1, h.2.1, h.2.2.1, h.2.2.2]
/-- A Season that has been laid as a function's own variable. -/
theorem laid_sea (S : Sea) (w : World) (t : TypeId) (hS : S.At w) : ∃ wA, wA = w.alloc (Obj.cells #[.slice S.o.a S.o.l.length S.o.c, .slice S.x.a S.x.l.length S.x.c, .slice S.k.a S.k.l.length S.k.c, .slice S.r.a S.r.T.length S.r.c] t) ∧ Below w.heap.size w wA ∧ Box4 wA w.heap.size (.slice S.o.a S.o.l.length S.o.c) (.slice S.x.a S.x.l.length S.x.c) (.slice S.k.a S.k.l.length S.k.c) (.slice S.r.a S.r.T.length S.r.c) t ∧ S.At wA ∧ wA.heap.size = w.heap.size + 1 :=
  ⟨_, rfl, below_alloc _ _, Box4.made _ _ _ _ _ _, hS.on (below_alloc _ _), size_alloc _ _⟩
theorem cube_cells {K : Cube} {w u : World} (hK : K.At w) (hu : Below w.heap.size w u) {k : Nat} (hk : k < K.T.length) : ∃ b o, ∃ t : Tab, K.a = some ⟨b, o, none⟩ ∧ u.cell? ⟨b, o + k, none⟩ = some (.slice t.a t.R.length t.c) ∧ t.At u ∧ t = K.T[k] := by
  obtain ⟨⟨_, _, h3⟩, hr⟩ := hK
  rcases h3 with h3 | ⟨b, o, ha, hb, hcell⟩
  · have h3' := congrArg List.length h3; rw [cv_length, List.length_nil] at h3'; omega
  · exact ⟨b, o, K.T[k], ha, (hu.cell (p := ⟨b, o + k, none⟩) hb).trans (hcell k _ (cv_at hk)), (hr _ (List.getElem_mem hk)).on hu, rfl⟩
theorem tab_cell {T : Tab} {w : World} (hT : T.At w) {k : Nat} (hk : k < T.R.length) : ∃ b o, ∃ r : Row, T.a = some ⟨b, o, none⟩ ∧ w.cell? ⟨b, o + k, none⟩ = some (.slice r.a r.l.length r.c) ∧ r.At w ∧ r = T.R[k] := by
  obtain ⟨⟨_, _, h3⟩, hr⟩ := hT
  rcases h3 with h3 | ⟨b, o, ha, hb, hcell⟩
  · have h3' := congrArg List.length h3; rw [tv_length, List.length_nil] at h3'; omega
  · exact ⟨b, o, T.R[k], ha, hcell k _ (tv_at hk), hr _ (List.getElem_mem hk), rfl⟩
theorem cubeLim {K : Cube} {w : World} (hK : K.At w) : (K.T.length : Int) ≤ 9223372036854775807 := by obtain ⟨⟨q1, q2, _⟩, _⟩ := hK; rw [cv_length] at q1; unfold maxLen at q2; omega
theorem tabLim {T : Tab} {w : World} (hT : T.At w) : (T.R.length : Int) ≤ 9223372036854775807 := by obtain ⟨⟨q1, q2, _⟩, _⟩ := hT; rw [tv_length] at q1; unfold maxLen at q2; omega
theorem rowLim' {r : Row} {w : World} (hr : r.At w) : (r.l.length : Int) ≤ 9223372036854775807 := by obtain ⟨q1, q2, _⟩ := hr; rw [iv_length] at q1; unfold maxLen at q2; omega

set_option maxRecDepth 32000 in
set_option maxHeartbeats 1500000 in
theorem l10Good_any (S : Sea) (w : World) (hS : S.At w) :
    Calls Try.prog 26 #[.agg #[.slice S.o.a S.o.l.length S.o.c, .slice S.x.a S.x.l.length S.x.c, .slice S.k.a S.k.l.length S.k.c, .slice S.r.a S.r.T.length S.r.c]] w fun e w' => e = .returned (.bool S.good) ∧ Below w.heap.size w w' := by
  obtain ⟨wA, hA, hbA, bx, hSA, hszA⟩ := laid_sea S w 31 hS
  obtain ⟨n, hn⟩ : ∃ n, n = S.o.l.length := ⟨_, rfl⟩
  obtain ⟨K, hK⟩ : ∃ K, K = S.r.T.length := ⟨_, rfl⟩
  have hni : (n : Int) ≤ 9223372036854775807 := by rw [hn]; exact rowLim' hS.1
  have hKi : (K : Int) ≤ 9223372036854775807 := by rw [hK]; exact cubeLim hS.2.2.2
  have HC := Lib.hid (fun k (hk : k < S.r.T.length) => cube_cells hSA.2.2.2 (Below.refl _ _) hk)
  have HGOOD : Hid (∀ g, (S.r.con).all (roundB S.o.l.length) = g → S.good = ((decide (1 ≤ S.o.l.length) && decide (S.o.l.length ≤ 5) && rowB S.o.l.length S.o.l && rowB S.o.l.length S.x.l && rowB S.o.l.length S.k.l && decide (S.r.T.length ≤ 5)) && g)) := Lib.hid fun g hg => by
    unfold Sea.good seaB; rw [hg, Cube.con_length]
  have C0 := Lib.hid (l2Row_any S.o n wA hSA.1)
  have C1 := Lib.hid (l2Row_any S.x n wA hSA.2.1)
  have C2 := Lib.hid (l2Row_any S.k n wA hSA.2.2.1)
  have CR := Lib.hid fun (r : Row) (hr : r.At wA) => l2Row_any r n wA hr
  have CI := Lib.hid (l1In_any n 1 5 wA)
  have x0 := bx.c0
  have x1 := bx.c1
  have x2 := bx.c2
  have x3 := bx.c3
  have x0' := x0
  have x3' := x3
  rw [hA, ← hn, ← hK] at x0' x3'
  rw [← hn] at x0
  rw [← hK] at x3
  have HA : Hid (wA = w.alloc (Obj.cells #[.slice S.o.a n S.o.c, .slice S.x.a S.x.l.length S.x.c, .slice S.k.a S.k.l.length S.k.c, .slice S.r.a K S.r.c] 31)) := Lib.hid (by rw [hn, hK]; exact hA)
  rw [← hn, ← hK] at HGOOD
  have HN := Lib.hid hn
  have HKK := Lib.hid hK
  have HSA := Lib.hid hSA
  have C0n : Hid (Calls Try.prog 56 #[.slice S.o.a n S.o.c, .int .i64 n, .int .i64 99] wA fun e w' => e = .returned (.bool (rowB n S.o.l)) ∧ w' = wA) := Lib.hid (by have := C0.out; rw [← hn] at this; exact this)
  rw [← hn, ← hK]
  have HNAT : Hid (decide (1 ≤ n) = decide ((1 : Int) ≤ (n : Int)) ∧ decide (n ≤ 5) = decide ((n : Int) ≤ 5) ∧ decide (K ≤ 5) = decide ((K : Int) ≤ 5)) := Lib.hid (by
    refine ⟨?_, ?_, ?_⟩ <;> (rw [Bool.eq_iff_iff]; simp; try omega))
  have HCL : Hid (S.r.con.length = K) := Lib.hid (by rw [Cube.con_length, hK])
  clear hS hA bx hSA hszA hn hK C0
  go_enter Try.func26, Try.ntmps26
  go_wp2_with fail
  go_loopw [4] (fun i wr => ∃ k : Nat, k ≤ K ∧ i = .int .i64 k ∧ wA = wr ∧ Hid ((S.r.con.take k).all (roundB n) = true)) (fun i _ => K - (intOf i).toNat)
  case atStart => exact ⟨0, Nat.zero_le _, rfl, HA.out, Lib.hid (by simp)⟩
  case round =>
    obtain ⟨k, hk, rfl, rfl, HALL⟩ := hrel
    clear x0' x3'
    by_cases hlt : k < K
    · have hlti : (k : Int) < (K : Int) := by omega
      have hkc : k < S.r.T.length := by rw [← HKK.out]; exact hlt
      obtain ⟨b, o, t, ha, hcl, htA, hte⟩ := HC.out k hkc
      rw [ha] at x3
      have HTC : Hid (∃ h : k < S.r.con.length, S.r.con[k] = t.con) := Lib.hid ⟨by rw [Cube.con_length]; exact hkc, by rw [hte]; simp [Cube.con]⟩
      have HT := Lib.hid (fun m (hm : m < t.R.length) => tab_cell htA hm)
      obtain ⟨q, hq⟩ : ∃ q, q = t.R.length := ⟨_, rfl⟩
      have hqi : (q : Int) ≤ 9223372036854775807 := by rw [hq]; exact tabLim htA
      have HQ := Lib.hid hq
      rw [← hq] at hcl
      clear ha htA hte hq hkc
      go_wp2_with fail
      go_loopw [5] (fun i wr => ∃ m : Nat, m ≤ q ∧ i = .int .i64 m ∧ wA = wr ∧ Hid ((t.con.take m).all (rowB n) = true)) (fun i _ => q - (intOf i).toNat)
      case atStart => exact ⟨0, Nat.zero_le _, rfl, rfl, Lib.hid (by simp)⟩
      case round =>
        obtain ⟨m, hm, rfl, rfl, HALL2⟩ := hrel
        by_cases hlt2 : m < q
        · have hlti2 : (m : Int) < (q : Int) := by omega
          have hmc : m < t.R.length := by rw [← HQ.out]; exact hlt2
          obtain ⟨b2, o2, r, ha2, hcl2, hrA, hre⟩ := HT.out m hmc
          rw [ha2] at hcl
          obtain ⟨v, hv⟩ : ∃ v, v = rowB n r.l := ⟨_, rfl⟩
          have CR1 := Lib.hid (by have := CR.out r hrA; rw [← hv] at this; exact this)
          have hmc' : m < t.con.length := by rw [con_length]; exact hmc
          have hrc : t.con[m] = r.l := by rw [hre]; exact con_at t hmc
          clear hre ha2 hrA
          cases v with
          | false =>
            have HE : Hid (S.good = false) := Lib.hid (by
              obtain ⟨h1, h2⟩ := HTC.out
              have e1 : t.con.all (rowB n) = false := all_out hmc' (by rw [hrc]; exact hv.symm)
              have e2 : S.r.con.all (roundB n) = false := all_out h1 (by rw [h2]; unfold roundB; rw [e1]; simp)
              rw [HGOOD.out _ e2]; simp)
            clear hv hrc hmc hmc'
            go_wp2_with fail
            refine (show Calls _ _ _ _ _ from CR1.out).mono ?_
            rintro e W ⟨rfl, rfl⟩
            go_wp2
            go_ret
            exact ⟨by rw [HE.out]; rfl, hbA⟩
          | true =>
            have HS2 : Hid ((t.con.take (m + 1)).all (rowB n) = true) := Lib.hid (all_take hmc' HALL2.out (by rw [hrc]; exact hv.symm))
            clear hv hrc hmc hmc'
            go_wp2_with fail
            refine (show Calls _ _ _ _ _ from CR1.out).mono ?_
            rintro e W ⟨rfl, rfl⟩
            go_wp2
            go_roundw
            case rel => exact ⟨m + 1, by omega, by go_num, by first | rfl | trivial, HS2⟩
            case measure => simp [intOf]; omega
        · obtain rfl : m = q := by omega
          have e1 : t.con.all (rowB n) = true := by have := HALL2.out; rw [HQ.out, ← con_length] at this; exact all_end this
          by_cases h5 : (m : Int) > 5
          · have HE : Hid (S.good = false) := Lib.hid (by
              obtain ⟨h1, h2⟩ := HTC.out
              have e2 : S.r.con.all (roundB n) = false := all_out h1 (by rw [h2]; unfold roundB; rw [con_length, ← HQ.out, decide_eq_false (by omega)]; rfl)
              rw [HGOOD.out _ e2]; simp)
            clear e1
            go_wp2
            go_ret
            exact ⟨by rw [HE.out]; rfl, hbA⟩
          · have HS1 : Hid ((S.r.con.take (k + 1)).all (roundB n) = true) := Lib.hid (by
              obtain ⟨h1, h2⟩ := HTC.out
              exact all_take h1 HALL.out (by rw [h2]; unfold roundB; rw [con_length, ← HQ.out, decide_eq_true (by omega), e1]; rfl))
            clear e1
            go_wp2
            go_roundw
            case rel => exact ⟨k + 1, by omega, by go_num, by first | rfl | trivial, HS1⟩
            case measure => simp [intOf]; omega
    · obtain rfl : k = K := by omega
      have e1 : S.r.con.all (roundB n) = true := by have := HALL.out; rw [← HCL.out] at this; exact all_end this
      obtain ⟨g0, hg0⟩ : ∃ g, g = (decide ((1 : Int) ≤ (n : Int)) && decide ((n : Int) ≤ 5)) := ⟨_, rfl⟩
      obtain ⟨v0, hv0⟩ : ∃ v, v = rowB n S.o.l := ⟨_, rfl⟩
      obtain ⟨v1, hv1⟩ : ∃ v, v = rowB n S.x.l := ⟨_, rfl⟩
      obtain ⟨v2, hv2⟩ : ∃ v, v = rowB n S.k.l := ⟨_, rfl⟩
      have HE : Hid (S.good = (g0 && v0 && v1 && v2 && decide ((k : Int) ≤ 5))) := Lib.hid (by
        obtain ⟨q1, q2, q3⟩ := HNAT.out
        rw [HGOOD.out _ e1, q1, q2, q3, hg0, hv0, hv1, hv2, Bool.and_true])
      have CI1 := Lib.hid (by have := CI.out; rw [← hg0] at this; exact this)
      have D0 := Lib.hid (by have := C0n.out; rw [← hv0] at this; exact this)
      have D1 := Lib.hid (by have := C1.out; rw [← hv1] at this; exact this)
      have D2 := Lib.hid (by have := C2.out; rw [← hv2] at this; exact this)
      clear e1 hg0 hv0 hv1 hv2
      go_wp2_with fail
      refine (show Calls _ _ _ _ _ from CI1.out).mono ?_
      rintro e W ⟨rfl, rfl⟩
      cases g0 with
      | false =>
        go_wp2
        go_ret
        exact ⟨by rw [HE.out]; rfl, hbA⟩
      | true =>
        go_wp2_with fail
        refine (show Calls _ _ _ _ _ from D0.out).mono ?_
        rintro e W ⟨rfl, rfl⟩
        cases v0 with
        | false =>
          go_wp2
          go_ret
          exact ⟨by rw [HE.out]; rfl, hbA⟩
        | true =>
          go_wp2_with fail
          refine (show Calls _ _ _ _ _ from D1.out).mono ?_
          rintro e W ⟨rfl, rfl⟩
          cases v1 with
          | false =>
            go_wp2
            go_ret
            exact ⟨by rw [HE.out]; rfl, hbA⟩
          | true =>
            go_wp2_with fail
            refine (show Calls _ _ _ _ _ from D2.out).mono ?_
            rintro e W ⟨rfl, rfl⟩
            cases v2 with
            | false =>
              go_wp2
              go_ret
              exact ⟨by rw [HE.out]; rfl, hbA⟩
            | true =>
              go_wp2
              go_ret
              exact ⟨by rw [HE.out]; simp, hbA⟩

set_option maxRecDepth 32000 in
set_option maxHeartbeats 1000000 in
/-- The Field of a round. -/
theorem fieldOfRound_any (S : Sea) (i : Nat) (w : World) (hS : S.At w) (hi : i < S.r.T.length) (T : Tab) (hT : T = S.r.T[i]) :
    Calls Try.prog 60 #[.agg #[.slice S.o.a S.o.l.length S.o.c, .slice S.x.a S.x.l.length S.x.c, .slice S.k.a S.k.l.length S.k.c, .slice S.r.a S.r.T.length S.r.c], .int .i64 i] w fun e w' => e = .returned (.agg #[.slice S.k.a S.k.l.length S.k.c, .slice T.a T.R.length T.c]) ∧ Below w.heap.size w w' := by
  obtain ⟨wA, hA, hbA, bx, hSA, hszA⟩ := laid_sea S w 31 hS
  obtain ⟨b, o, t, ha, hcl, htA, hte⟩ := cube_cells hSA.2.2.2 (Below.refl _ _) hi
  obtain rfl : t = T := hte.trans hT.symm
  have hKi := cubeLim hS.2.2.2
  have hii : (i : Int) < (S.r.T.length : Int) := by omega
  obtain ⟨wB, hB⟩ : ∃ u, u = wA.alloc (Obj.cells #[.slice none 0 0, .slice none 0 0] 71) := ⟨_, rfl⟩
  have hbB : Below wA.heap.size wA wB := by rw [hB]; exact below_alloc _ _
  have bB : Box2 wB wA.heap.size (.slice none 0 0) (.slice none 0 0) 71 := by rw [hB]; exact Box2.made _ _ _ _
  have bx' := bx.on hbB
  have x2 := bx'.c2
  have x3 := bx'.c3
  have hcl' : wB.cell? ⟨b, o + i, none⟩ = some (.slice t.a t.R.length t.c) := (hbB.cell (p := ⟨b, o + i, none⟩) (World.block_lt_of_cell? _ _ hcl)).trans hcl
  have z0 := bB.c0
  have z1 := bB.c1
  have f0 := bB.fr 0
  have f1 := bB.fr 1
  rw [hszA] at z0 z1 f0 f1
  rw [ha] at x3
  have HB : Hid (wB = (w.alloc (Obj.cells #[.slice S.o.a S.o.l.length S.o.c, .slice S.x.a S.x.l.length S.x.c, .slice S.k.a S.k.l.length S.k.c, .slice (some ⟨b, o, none⟩) S.r.T.length S.r.c] 31)).alloc (Obj.cells #[.slice none 0 0, .slice none 0 0] 71)) := Lib.hid (by rw [hB, hA, ha])
  have HBB := Lib.hid bB
  have HBA := Lib.hid (hbA.trans (hbB.mono hbA.size))
  have hsz : wA.heap.size = w.heap.size + 1 := hszA
  have HDC : Hid (∀ u, DrewTo wB u → u.cell? ⟨w.heap.size, 2, none⟩ = some (.slice S.k.a S.k.l.length S.k.c) ∧ u.cell? ⟨w.heap.size, 3, none⟩ = some (.slice (some ⟨b, o, none⟩) S.r.T.length S.r.c) ∧ u.cell? ⟨b, o + i, none⟩ = some (.slice t.a t.R.length t.c)) := Lib.hid fun u hu => ⟨by rw [hu.cell]; exact x2, by rw [hu.cell]; exact x3, by rw [hu.cell]; exact hcl'⟩
  rw [ha]
  clear hS hA hbA bx hSA hszA hcl htA hte hB hbB bB bx' hT hi ha
  go_enter Try.func60, Try.ntmps60
  go_wp2
  rw [← HB.out]
  go_still_tail 7, (by kernel_rfl)
  change wpList _ _ _ _ _ wB.drew
  obtain ⟨Wd, hWd⟩ : ∃ u, u = wB.drew := ⟨_, rfl⟩
  have hbd : Below wB.heap.size wB Wd := by rw [hWd]; exact (Below.refl _ _).drew
  rw [← hWd]
  have bd : Box2 Wd (w.heap.size + 1) (.slice none 0 0) (.slice none 0 0) 71 := by rw [← hsz]; exact HBB.out.on hbd
  have HBD := Lib.hid bd
  have HBW := Lib.hid (HBA.out.trans (hbd.mono HBA.out.size))
  have d0 := bd.c0
  have d1 := bd.c1
  have g0 := bd.fr 0
  have g1 := bd.fr 1
  clear x2 x3 hcl' z0 z1 f0 f1 hbd bd HDC hWd
  go_wp2
  obtain ⟨wF, hF⟩ : ∃ wF, wF = (Wd.setCell ⟨w.heap.size + 1, 0, none⟩ (.slice S.k.a S.k.l.length S.k.c)).setCell ⟨w.heap.size + 1, 1, none⟩ (.slice t.a t.R.length t.c) := ⟨_, rfl⟩
  rw [← hF]
  have bF : Box2 wF (w.heap.size + 1) (.slice S.k.a S.k.l.length S.k.c) (.slice t.a t.R.length t.c) 71 := by rw [hF]; exact (HBD.out.set0 _).set1 _
  have r0 := bF.c0
  have r1 := bF.c1
  have HF : Hid (Below w.heap.size w wF) := Lib.hid (by
    have h1 : Below w.heap.size w (Wd.setCell ⟨w.heap.size + 1, 0, none⟩ (.slice S.k.a S.k.l.length S.k.c)) := HBW.out.setCell (p := ⟨w.heap.size + 1, 0, none⟩) (Nat.le_succ _) _
    rw [hF]; exact h1.setCell (p := ⟨w.heap.size + 1, 1, none⟩) (Nat.le_succ _) _)
  clear hF
  exact bodyPost_ret (v := .agg #[.slice S.k.a S.k.l.length S.k.c, .slice t.a t.R.length t.c]) (by simp [results, Try.results60, go_sem, r0, r1]) rfl ⟨rfl, HF.out⟩

theorem all_out_at {α : Type} {l : List α} {p : α → Bool} {k : Nat} {x : α} (h : l[k]? = some x) (hp : p x = false) : l.all p = false := by
  obtain ⟨h1, h2⟩ := List.getElem?_eq_some_iff.1 h
  exact all_out h1 (by rw [h2]; exact hp)
theorem all_take_at {α : Type} {l : List α} {p : α → Bool} {k : Nat} {x : α} (h : l[k]? = some x) (ht : (l.take k).all p = true) (hp : p x = true) : (l.take (k + 1)).all p = true := by
  obtain ⟨h1, h2⟩ := List.getElem?_eq_some_iff.1 h
  exact all_take h1 ht (by rw [h2]; exact hp)

set_option maxRecDepth 16000 in
set_option maxHeartbeats 2000000 in
theorem implIsSeason_any (S : Sea) (w : World) (hS : S.At w) :
    Calls Try.prog 31 #[.agg #[.slice S.o.a S.o.l.length S.o.c, .slice S.x.a S.x.l.length S.x.c, .slice S.k.a S.k.l.length S.k.c, .slice S.r.a S.r.T.length S.r.c]] w fun e w' => e = .returned (.bool S.good) ∧ Below w.heap.size w w' := by
  obtain ⟨wA, hA, hbA, bx, hSA, hszA⟩ := laid_sea S w 31 hS
  obtain ⟨n, hn⟩ : ∃ n, n = S.o.l.length := ⟨_, rfl⟩
  obtain ⟨K, hK⟩ : ∃ K, K = S.r.T.length := ⟨_, rfl⟩
  obtain ⟨ra, hra⟩ : ∃ a, a = S.r.a := ⟨_, rfl⟩
  have hni : (n : Int) ≤ 9223372036854775807 := by rw [hn]; exact rowLim' hS.1
  have hKi : (K : Int) ≤ 9223372036854775807 := by rw [hK]; exact cubeLim hS.2.2.2
  have HGOOD : Hid (S.good = ((decide (n ≤ 5) && decide (K ≤ 5)) && ([S.o.l, S.x.l, S.k.l].all (costsB n) && S.r.con.all (roundF S.k.l)))) := Lib.hid (by
    unfold Sea.good; rw [seaB_alt, Cube.con_length, ← hn, ← hK])
  have y0 := bx.c0
  have y3 := bx.c3
  rw [hA, ← hn, ← hK, ← hra] at y0 y3
  have HA : Hid (wA = w.alloc (Obj.cells #[.slice S.o.a n S.o.c, .slice S.x.a S.x.l.length S.x.c, .slice S.k.a S.k.l.length S.k.c, .slice ra K S.r.c] 31)) := Lib.hid (by rw [hn, hK, hra]; exact hA)
  have HN := Lib.hid hn
  have HKK := Lib.hid hK
  have HRA := Lib.hid hra
  have HSA := Lib.hid hSA
  have HBX := Lib.hid bx
  have HBA := Lib.hid hbA
  rw [← hn, ← hK, ← hra]
  by_cases hn5 : (n : Int) > 5
  · have HE : Hid (S.good = false) := Lib.hid (by rw [HGOOD.out, decide_eq_false (by omega)]; rfl)
    clear hS hA hbA bx hSA hn hK hra
    go_enter Try.func31, Try.ntmps31
    go_wp2
    go_ret
    rw [← HA.out]
    exact ⟨by rw [HE.out]; rfl, HBA.out⟩
  by_cases hK5 : (K : Int) > 5
  · have HE : Hid (S.good = false) := Lib.hid (by rw [HGOOD.out, decide_eq_false (by omega : ¬ K ≤ 5), Bool.and_false]; rfl)
    clear hS hA hbA bx hSA hn hK hra
    go_enter Try.func31, Try.ntmps31
    go_wp2
    go_ret
    rw [← HA.out]
    exact ⟨by rw [HE.out]; rfl, HBA.out⟩
  have HG2 : Hid (S.good = ([S.o.l, S.x.l, S.k.l].all (costsB n) && S.r.con.all (roundF S.k.l))) := Lib.hid (by rw [HGOOD.out, decide_eq_true (by omega), decide_eq_true (by omega)]; rfl)
  -- the list of the three lists of costs
  obtain ⟨wB, hB⟩ : ∃ u, u = wA.alloc (Obj.cells #[.slice S.o.a n S.o.c, .slice S.x.a S.x.l.length S.x.c, .slice S.k.a S.k.l.length S.k.c] 22) := ⟨_, rfl⟩
  have hbB : Below wA.heap.size wA wB := by rw [hB]; exact below_alloc _ _
  have b3 : wB.heap[wA.heap.size]? = some (Obj.cells #[.slice S.o.a n S.o.c, .slice S.x.a S.x.l.length S.x.c, .slice S.k.a S.k.l.length S.k.c] 22) := by
    rw [hB]; show (wA.heap.push _)[wA.heap.size]? = _; simp
  have hszB : wB.heap.size = wA.heap.size + 1 := by rw [hB]; exact size_alloc _ _
  have HL : Hid (∀ u, Below wB.heap.size wB u → ∀ k, k < 3 → ∃ r : Row, u.cell? ⟨w.heap.size + 1, k, none⟩ = some (.slice r.a r.l.length r.c) ∧ r.At u ∧ [S.o.l, S.x.l, S.k.l][k]? = some r.l) := Lib.hid fun u hu k hk => by
    have hc : u.heap[wA.heap.size]? = some (Obj.cells #[.slice S.o.a n S.o.c, .slice S.x.a S.x.l.length S.x.c, .slice S.k.a S.k.l.length S.k.c] 22) := (hu.block _ (by omega)).trans b3
    rw [hszA] at hc
    have hbu := hbB.trans (hu.mono hbB.size)
    match k, hk with
    | 0, _ => exact ⟨S.o, by unfold World.cell?; simp only [hc, hn]; rfl, hSA.1.on hbu, rfl⟩
    | 1, _ => exact ⟨S.x, by unfold World.cell?; simp only [hc]; rfl, hSA.2.1.on hbu, rfl⟩
    | 2, _ => exact ⟨S.k, by unfold World.cell?; simp only [hc]; rfl, hSA.2.2.1.on hbu, rfl⟩
  have y1 := (HBX.out).c1
  have y2 := (HBX.out).c2
  rw [hA, ← hn, ← hK, ← hra] at y1 y2
  have HBB : Hid (wB = (w.alloc (Obj.cells #[.slice S.o.a n S.o.c, .slice S.x.a S.x.l.length S.x.c, .slice S.k.a S.k.l.length S.k.c, .slice ra K S.r.c] 31)).alloc (Obj.cells #[.slice S.o.a n S.o.c, .slice S.x.a S.x.l.length S.x.c, .slice S.k.a S.k.l.length S.k.c] 22)) := Lib.hid (by rw [hB, HA.out])
  have HBBB := Lib.hid hbB
  have CF := Lib.hid fun (r : Row) (u : World) (hr : r.At u) => (show Calls Try.prog 59 #[.agg #[.slice r.a r.l.length r.c, .slice none 0 0]] u fun e w' => e = .returned (.bool (goodB r.l [])) ∧ Below u.heap.size u w' from implIsField_any ⟨r, ⟨none, 0, []⟩⟩ u ⟨hr, ⟨by simp [tv], (show 0 ≤ maxLen by decide), .inl rfl⟩, fun _ h => by cases h⟩)
  have hsz : wA.heap.size = w.heap.size + 1 := hszA
  clear hS hA hbA bx hSA hn hK hra hB hbB b3 HGOOD
  go_enter Try.func31, Try.ntmps31
  go_wp2_with fail
  rw [← HBB.out]
  go_loopw [5, 27] (fun _ i wr => ∃ k : Nat, k ≤ 3 ∧ i = .int .i64 k ∧ Below wB.heap.size wB wr ∧ Hid (([S.o.l, S.x.l, S.k.l].take k).all (costsB n) = true)) (fun _ i _ => 3 - (intOf i).toNat)
  case atStart => exact ⟨0, Nat.zero_le _, rfl, Below.refl _ _, Lib.hid rfl⟩
  case round =>
    obtain ⟨k, hk, rfl, hnx, HALL⟩ := hrel
    clear y0 y1 y2 y3
    have HNX := Lib.hid hnx
    have HWW := Lib.hid ((HBA.out.trans (HBBB.out.mono HBA.out.size)).trans (hnx.mono (HBA.out.trans (HBBB.out.mono HBA.out.size)).size))
    by_cases hlt : k < 3
    · have hlti : (k : Int) < 3 := by omega
      obtain ⟨r, hcl, hrA, hrl⟩ := HL.out wr hnx k hlt
      have HRL := Lib.hid hrl
      by_cases hl : r.l.length = n
      · have hli : ((r.l.length : Int) != (n : Int)) = false := by rw [nat_neB, hl]; simp
        obtain ⟨v, hv⟩ : ∃ v, v = goodB r.l [] := ⟨_, rfl⟩
        have CF1 := Lib.hid (by have := CF.out r wr hrA; rw [← hv] at this; exact this)
        have HV : Hid (costsB n r.l = v) := Lib.hid (by unfold costsB; rw [hl, hv]; simp)
        clear hl hv hrl hrA hnx
        cases v with
        | false =>
          have HE : Hid (S.good = false) := Lib.hid (by rw [HG2.out, all_out_at HRL.out HV.out]; rfl)
          go_wp2_with fail
          refine (show Calls _ _ _ _ _ from CF1.out).mono ?_
          rintro e W ⟨rfl, hb3⟩
          go_wp2
          go_ret
          exact ⟨by rw [HE.out]; rfl, HWW.out.trans (hb3.mono HWW.out.size)⟩
        | true =>
          have HT : Hid (([S.o.l, S.x.l, S.k.l].take (k + 1)).all (costsB n) = true) := Lib.hid (all_take_at HRL.out HALL.out HV.out)
          go_wp2_with fail
          refine (show Calls _ _ _ _ _ from CF1.out).mono ?_
          rintro e W ⟨rfl, hb3⟩
          have R2 := HNX.out.trans (hb3.mono HNX.out.size)
          clear hb3
          go_wp2
          go_roundw
          case rel => exact ⟨k + 1, by omega, by go_num, R2, HT⟩
          case measure => simp [intOf]; omega
      · have hli : ((r.l.length : Int) != (n : Int)) = true := by rw [nat_neB]; simp [hl]
        have HE : Hid (S.good = false) := Lib.hid (by rw [HG2.out, all_out_at HRL.out (by unfold costsB; rw [decide_eq_false hl]; rfl)]; rfl)
        clear hl hrl hrA hnx
        go_wp2
        go_ret
        exact ⟨by rw [HE.out]; rfl, HWW.out⟩
    · have hk3 : k = 3 := by omega
      have hnlt : ¬ (k : Int) < 3 := by omega
      have HG3 : Hid (S.good = S.r.con.all (roundF S.k.l)) := Lib.hid (by
        have := HALL.out
        rw [hk3] at this
        rw [HG2.out, show [S.o.l, S.x.l, S.k.l].all (costsB n) = true from this]; rfl)
      have HBW := Lib.hid ((HBBB.out).trans (hnx.mono HBBB.out.size))
      have z3 : wr.cell? ⟨w.heap.size, 3, none⟩ = some (.slice ra K S.r.c) := by rw [HKK.out, HRA.out]; exact (HBX.out.on HBW.out).c3
      obtain ⟨V, hV⟩ : ∃ V, V = wr := ⟨_, rfl⟩
      rw [← hV] at z3 HWW HBW ⊢
      clear hnx HNX HALL hV hk3
      go_wp2_with fail
      go_loopw [6, 7, 45] (fun _ _ i wr => ∃ k : Nat, k ≤ K ∧ i = .int .i64 k ∧ Below V.heap.size V wr ∧ Hid ((S.r.con.take k).all (roundF S.k.l) = true)) (fun _ _ i _ => K - (intOf i).toNat)
      case atStart => exact ⟨0, Nat.zero_le _, rfl, Below.refl _ _, Lib.hid rfl⟩
      case round =>
        obtain ⟨k, hk, rfl, hnx, HALL⟩ := hrel
        clear z3
        have HWR := Lib.hid (HWW.out.trans (hnx.mono HWW.out.size))
        have HWA := Lib.hid (HBW.out.trans (hnx.mono HBW.out.size))
        by_cases hlt : k < K
        · have hlti : (k : Int) < (K : Int) := by omega
          have hkc : k < S.r.T.length := by rw [← HKK.out]; exact hlt
          obtain ⟨b, o, t, ha, hcl, htA, hte⟩ := cube_cells HSA.out.2.2.2 HWA.out hkc
          have HTC : Hid (∃ h : k < S.r.con.length, S.r.con[k] = t.con) := Lib.hid ⟨by rw [Cube.con_length]; exact hkc, by rw [hte]; simp [Cube.con]⟩
          obtain ⟨q, hq⟩ : ∃ q, q = t.R.length := ⟨_, rfl⟩
          have hqi : (q : Int) ≤ 9223372036854775807 := by rw [hq]; exact tabLim htA
          have HQ := Lib.hid hq
          have c0 : wr.cell? ⟨w.heap.size, 0, none⟩ = some (.slice S.o.a n S.o.c) := by rw [HN.out]; exact (HBX.out.on HWA.out).c0
          have c1 := (HBX.out.on HWA.out).c1
          have c2 := (HBX.out.on HWA.out).c2
          have c3 : wr.cell? ⟨w.heap.size, 3, none⟩ = some (.slice ra K S.r.c) := by rw [HKK.out, HRA.out]; exact (HBX.out.on HWA.out).c3
          have CFR : Hid (Calls Try.prog 60 #[.agg #[.slice S.o.a n S.o.c, .slice S.x.a S.x.l.length S.x.c, .slice S.k.a S.k.l.length S.k.c, .slice ra K S.r.c], .int .i64 k] wr fun e w' => e = .returned (.agg #[.slice S.k.a S.k.l.length S.k.c, .slice t.a q t.c]) ∧ Below wr.heap.size wr w') := Lib.hid (by
            rw [HN.out, HKK.out, HRA.out, hq]; exact fieldOfRound_any S k wr (HSA.out.on HWA.out) hkc t hte)
          have hra' : ra = some ⟨b, o, none⟩ := HRA.out.trans ha
          rw [← hq] at hcl
          obtain ⟨v, hv⟩ : ∃ v, v = goodB S.k.l t.con := ⟨_, rfl⟩
          have CIF : Hid (∀ u, Below wr.heap.size wr u → Calls Try.prog 59 #[.agg #[.slice S.k.a S.k.l.length S.k.c, .slice t.a q t.c]] u fun e w' => e = .returned (.bool v) ∧ Below u.heap.size u w') := Lib.hid fun u hu => by
            rw [hq, hv]; exact implIsField_any ⟨S.k, t⟩ u ⟨(HSA.out.on HWA.out).2.2.1.on hu, htA.on hu⟩
          clear ha htA hte hkc hq
          by_cases h5 : (q : Int) > 5
          · have HE : Hid (S.good = false) := Lib.hid (by
              obtain ⟨h1, h2⟩ := HTC.out
              rw [HG3.out]
              exact all_out h1 (by rw [h2]; unfold roundF; rw [con_length, ← HQ.out, decide_eq_false (by omega)]; rfl))
            clear hv c0 c1 c2 c3 hnx
            subst hra'
            go_wp2
            go_ret
            exact ⟨by rw [HE.out]; rfl, HWR.out⟩
          · have HV : Hid (∃ h : k < S.r.con.length, roundF S.k.l S.r.con[k] = v) := Lib.hid (by
              obtain ⟨h1, h2⟩ := HTC.out
              exact ⟨h1, by rw [h2]; unfold roundF; rw [con_length, ← HQ.out, decide_eq_true (by omega), ← hv]; rfl⟩)
            have HNX := Lib.hid hnx
            clear hv hnx
            subst hra'
            go_wp2_with fail
            refine (show Calls _ _ _ _ _ from CFR.out).mono ?_
            rintro e W2 ⟨rfl, hb4⟩
            have CIF2 := Lib.hid (CIF.out W2 hb4)
            have HB4 := Lib.hid hb4
            clear hb4 c0 c1 c2 c3 hcl
            cases v with
            | false =>
              have HE : Hid (S.good = false) := Lib.hid (by
                obtain ⟨h1, h2⟩ := HV.out
                rw [HG3.out]; exact all_out h1 h2)
              go_wp2_with fail
              refine (show Calls _ _ _ _ _ from CIF2.out).mono ?_
              rintro e W3 ⟨rfl, hb5⟩
              go_wp2
              go_ret
              exact ⟨by rw [HE.out]; rfl, (HWR.out.trans (HB4.out.mono HWR.out.size)).trans (hb5.mono (HWR.out.trans (HB4.out.mono HWR.out.size)).size)⟩
            | true =>
              have HT : Hid ((S.r.con.take (k + 1)).all (roundF S.k.l) = true) := Lib.hid (by
                obtain ⟨h1, h2⟩ := HV.out
                exact all_take h1 HALL.out h2)
              go_wp2_with fail
              refine (show Calls _ _ _ _ _ from CIF2.out).mono ?_
              rintro e W3 ⟨rfl, hb5⟩
              have R2 := (HNX.out.trans (HB4.out.mono HNX.out.size)).trans (hb5.mono (HNX.out.trans (HB4.out.mono HNX.out.size)).size)
              clear hb5
              go_wp2
              go_roundw
              case rel => exact ⟨k + 1, by omega, by go_num, R2, HT⟩
              case measure => simp [intOf]; omega
        · obtain rfl : k = K := by omega
          have HE : Hid (S.good = true) := Lib.hid (by
            have h := HALL.out
            rw [HG3.out]
            rw [HKK.out, ← Cube.con_length] at h
            exact all_end h)
          go_wp2
          go_ret
          exact ⟨by rw [HE.out]; rfl, HWR.out⟩
end Go.Proofs.Ytifgmbljimfebaa
