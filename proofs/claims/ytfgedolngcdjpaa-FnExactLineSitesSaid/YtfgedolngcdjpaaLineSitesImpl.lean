/- LineSites, the program's side. Condition: the lists read as such. -/
import Derived.Test.YtfgedolngcdjpaaTakenBox
import Derived.Test.YtfgedolngcdjpaaPost
import Derived.Deep.AppendLies
import Derived.Deep.RegionLaw
namespace Go.Proofs.Ytfgedolngcdjpaa
open Go.RowKit

theorem ints_none (W : World) : PInts [] false W (.returned (.tuple #[.slice (some ⟨W.heap.size, 0, none⟩) 0 0, .bool false])) (W.alloc (.cells #[] 3)) := by
  obtain ⟨s, h1, h2, h3, h4⟩ := row_of_own (empty_own W)
  exact ⟨s, by rw [← h1], h2, h3, h4, below_alloc _ _⟩
theorem PInts.back {l : List Int} {b : Bool} {w W w' : World} {e : Ending} (h : PInts l b W e w') (hb : Below w.heap.size w W) : PInts l b w e w' := by
  obtain ⟨s, h1, h2, h3, h4, h5⟩ := h
  exact ⟨s, h1, h2, h3, h4.wide hb.size (Nat.le_refl _), hb.trans (h5.mono hb.size)⟩

set_option maxRecDepth 16000 in
set_option maxHeartbeats 4000000 in
theorem implLS_any (s c : Row) (r : Int) (w : World) (hs : s.At w) (hc : c.At w) (l : List Int) (b : Bool) (hv : LSs s.l c.l r l b) :
    Calls Try.prog 16 #[.slice s.a s.l.length s.c, .slice c.a c.l.length c.c, .int .i64 r] w (PInts l b w) := by
  obtain ⟨i0, hi, hz0, hz1, hz2⟩ := info_parts infoInt
  obtain ⟨wA, hA⟩ : ∃ u, u = w.alloc (Obj.cells #[.slice s.a s.l.length s.c, .slice c.a c.l.length c.c] 49) := ⟨_, rfl⟩
  have hbA : Below w.heap.size w wA := by rw [hA]; exact below_alloc _ _
  have bx : Box2 wA w.heap.size (.slice s.a s.l.length s.c) (.slice c.a c.l.length c.c) 49 := by rw [hA]; exact Box2.made w _ _ _
  have hszA : wA.heap.size = w.heap.size + 1 := by rw [hA]; exact size_alloc _ _
  have CT := lineValid_any s c wA (hs.on hbA) (hc.on hbA)
  obtain ⟨g, hg⟩ : ∃ g, g = lineB s.l c.l := ⟨_, rfl⟩
  rw [← hg] at CT
  have CT1 := Lib.hid CT
  have HG := Lib.hid hg
  have HA := Lib.hid hA
  have HBX := Lib.hid bx
  have HBA := Lib.hid hbA
  have HS := Lib.hid (hs.on hbA)
  have HC := Lib.hid (hc.on hbA)
  have HV := Lib.hid hv
  have HSZ := Lib.hid hszA
  have x0 := bx.c0
  have x1 := bx.c1
  rw [hA] at x0 x1
  clear hs hc hA bx hbA CT hg hv hszA
  go_enter Try.func16, Try.ntmps16
  go_wp2_with fail
  rw [← HA.out]
  refine (show Calls _ _ _ _ _ from CT1.out).mono ?_
  rintro e W1 ⟨rfl, hb1⟩
  clear x0 x1
  have HB1 := Lib.hid hb1
  have HBW := Lib.hid (HBA.out.trans (hb1.mono HBA.out.size))
  have HNONE : ∀ W, Below w.heap.size w W → ¬ (lineB s.l c.l = true ∧ 0 ≤ r ∧ okTo s.l c.l r c.l.length) → Hid (PInts l b w (.returned (.tuple #[.slice (some ⟨W.heap.size, 0, none⟩) 0 0, .bool false])) (W.alloc (.cells #[] 3))) := fun W hW hn => by
    obtain ⟨rfl, rfl⟩ := lss_no HV.out hn
    exact Lib.hid ((ints_none W).back hW)
  have HNO := Lib.hid HNONE
  clear hb1 HNONE
  by_cases hgr : g = true ∧ 0 ≤ r
  · obtain ⟨rfl, hr0⟩ := hgr
    have hr1 : ¬ r < 0 := by omega
    have HR0 := Lib.hid hr0
    obtain ⟨⟨hp1, hp2, hp3⟩, hps, hpc⟩ := line_parts HG.out.symm
    have HPS := Lib.hid hps
    have HPC := Lib.hid hpc
    obtain ⟨n, hn⟩ : ∃ n, n = c.l.length := ⟨_, rfl⟩
    have HN := Lib.hid hn
    have hn7 : n ≤ 7 := by omega
    have HSL : Hid (s.l.length ≤ 7) := Lib.hid hp2
    rw [← hn]
    have T0 := Lib.hid (Taken.start W1)
    have HT0 := Lib.hid (rfl : (W1.alloc (.cells #[] 3)).alloc (.cells #[.slice (some ⟨W1.heap.size, 0, none⟩) 0 0] 22) = (W1.alloc (.cells #[] 3)).alloc (.cells #[.slice (some ⟨W1.heap.size, 0, none⟩) 0 0] 22))
    clear hr0 hps hpc hp1 hp2 hp3 hn
    go_wp2
    go_loopw [6, 7, 11, 12, 27] (fun _ _ _ _ i wr => ∃ (k : Nat) (v : Value), k ≤ n ∧ i = .int .i64 k ∧ Hid (Taken W1.heap.size W1 (lsT s.l c.l r k) v wr) ∧ Hid (okTo s.l c.l r k)) (fun _ _ _ _ i _ => n - (intOf i).toNat)
    case atStart => exact ⟨0, _, Nat.zero_le _, rfl, T0, Lib.hid (fun j hj => absurd hj (Nat.not_lt_zero _))⟩
    case round =>
      obtain ⟨k, v, hk, rfl, HT, HOK⟩ := hrel
      have HW0 := Lib.hid (HB1.out.trans (HT.out.below.mono HB1.out.size))
      have HWW := Lib.hid (HBA.out.trans (HW0.out.mono HBA.out.size))
      have HSA := Lib.hid (HS.out.on HW0.out)
      have HCA := Lib.hid (HC.out.on HW0.out)
      by_cases hlt : k < n
      · have hlti : (k : Int) < (n : Int) := by omega
        have hkc : k < c.l.length := by rw [← HN.out]; exact hlt
        obtain ⟨bc, oc, hca, hcc⟩ := intAt_line HCA.out hkc
        obtain ⟨x, hx⟩ : ∃ x, x = c.l.getD k 0 := ⟨_, rfl⟩
        rw [← hx] at hcc
        have hxr := HPC.out x (by rw [hx, List.getD_eq_getElem?_getD, List.getElem?_eq_getElem hkc]; exact List.getElem_mem _)
        have HX := Lib.hid hx
        have CN := Lib.hid (sitesNear_any s c x r wr HSA.out (by have := HSL.out; omega) HPS.out hxr)
        have z0 := (HBX.out.on HW0.out).c0
        have z1 := (HBX.out.on HW0.out).c1
        rw [hca]
        have hsz := HT.out.size
        clear hca hx hxr
        go_wp2_with fail
        refine (show Calls _ _ _ wr _ from CN.out).mono ?_
        rintro e W2 ⟨t, rfl, htl, hto, hti, hb2⟩
        have HT2 := Lib.hid (HT.out.on hb2)
        have HB2 := Lib.hid hb2
        have HTL := Lib.hid htl
        have HTA := Lib.hid hti.at
        clear z0 z1 hcc htl hto hti hb2
        by_cases h0 : t.l = []
        · have hl0 : t.l.length = 0 := by rw [h0]; rfl
          have HE := HNO.out W2 (HWW.out.trans (HB2.out.mono HWW.out.size)) (fun h => h.2.2 k hkc (by rw [← HX.out, ← HTL.out]; exact h0))
          rw [hl0]
          clear hl0 h0
          go_wp2
          go_ret2
          exact HE.out
        · obtain ⟨q, hq⟩ : ∃ q, t.l.length = q + 1 := ⟨t.l.length - 1, by have := List.length_pos_iff.2 h0; omega⟩
          have hq7 : q + 1 ≤ 7 := by rw [← hq, HTL.out]; exact Nat.le_trans (places_len _ _ _) HSL.out
          obtain ⟨tk, hv, htkl, -, htki⟩ := row_of_own HT2.out.own
          have HOK1 := Lib.hid (okTo_next HOK.out (by rw [← HX.out, ← HTL.out]; exact h0))
          have y0 : W2.cell? ⟨W1.heap.size + 1, 0, none⟩ = some v := HT2.out.box.c0
          obtain ⟨u, hu⟩ : ∃ u, u = (nearL s.l r x).all (outT (lsT s.l c.l r k)) := ⟨_, rfl⟩
          have CF := Lib.hid (by have := containsTaken_any t tk (W1.heap.size + 1) W2 HTA.out (by rw [← hv]; exact y0) htki.at (by rw [htkl]; exact Nat.le_trans (lsT_len _ _ _ _) (by omega)); rw [htkl, hq, HTL.out, ← hu] at this; exact this : Calls Try.prog 35 #[.slice t.a (q + 1 : Nat) t.c, .func (.func 36) #[] #[.pointer (some ⟨W1.heap.size + 1, 0, none⟩)]] W2 fun e w' => e = .returned (.bool (!u)) ∧ w' = W2)
          have HU := Lib.hid hu
          have HQ := Lib.hid hq
          have HH0 := Lib.hid h0
          rw [hq]
          have hqi : (q : Int) ≤ 6 := by omega
          clear hu h0 hv htkl htki y0 hq
          cases u with
          | false =>
            have HE : Hid (lsT s.l c.l r (k + 1) = lsT s.l c.l r k) := Lib.hid (lsT_skip (by rw [← HX.out]; exact HU.out.symm))
            go_wp2_with fail
            refine (show Calls _ _ _ W2 _ from CF.out).mono ?_
            rintro e W3 ⟨rfl, rfl⟩
            go_wp2
            go_roundw
            case rel => exact ⟨k + 1, v, by omega, by go_num, by rw [HE.out]; exact HT2, HOK1⟩
            case measure => simp [intOf]; omega
          | true =>
            obtain ⟨y, hy⟩ : ∃ y, y = lastN (nearL s.l r x) := ⟨_, rfl⟩
            have HE : Hid (lsT s.l c.l r (k + 1) = lsT s.l c.l r k ++ [y]) := Lib.hid (by rw [hy, HX.out]; exact lsT_take (by rw [← HX.out]; exact HU.out.symm))
            obtain ⟨bt, ot, hta, htc⟩ := intAt_line HTA.out (k := q) (by rw [HQ.out]; omega)
            have hyq : t.l.getD q 0 = y := by
              rw [hy, ← HTL.out, ← lastN_getD HH0.out, HQ.out]; rfl
            rw [hyq] at htc
            have cf := CF.out
            rw [hta] at cf ⊢
            have CF3 := Lib.hid cf
            clear cf hta hyq hy
            go_wp2_with fail
            refine (show Calls _ _ _ W2 _ from CF3.out).mono ?_
            rintro e W3 ⟨rfl, rfl⟩
            have hd0 : Below W3.heap.size W3 W3.drew := (Below.refl _ _).drew
            have HT3 := Lib.hid (HT2.out.on hd0)
            have hown := HT3.out.own
            have c1 : W3.cell? ⟨W1.heap.size + 1, 0, none⟩ = some v := HT2.out.box.c0
            have hT7 : (lsT s.l c.l r k).length ≤ 7 := Nat.le_trans (lsT_len _ _ _ _) (by omega)
            have hsz3 := HT3.out.size
            have c4 : (W3.alloc (.cells #[.int .i64 y] 3)).cell? ⟨W1.heap.size + 1, 0, none⟩ = some v := (HT2.out.on (below_alloc _ _)).box.c0
            have HBS : Hid (W1.heap.size ≤ (W3.drew.alloc (.cells #[.int .i64 y] 3)).heap.size) := Lib.hid (by rw [size_alloc]; omega)
            have HBT : Hid (W1.heap.size + 1 < (W3.drew.alloc (.cells #[.int .i64 y] 3)).heap.size) := Lib.hid (by rw [size_alloc]; omega)
            have e1 : IntKind.i64.wrap (q : Int) = (q : Int) := IntWalk.i64_in _ (by omega)
            have e3 : (q : Int) < (q : Int) + 1 := by omega
            have e4 : 0 ≤ (q : Int) := by omega
            clear hd0
            go_wp2
            go_region_law (refine step_append_lies _ rfl (.tmp 43) (.tmp 50) 22 rfl W1.heap.size 3 i0 (.int .i64 0) 1 8 Try.underlying22 hi hz0 hz1 hz2 rfl (by decide) _ _ _ rfl (hown.alloc _) ⟨W3.heap.size, 0, none⟩ 1 1 [.int .i64 y] rfl rfl (one_cell W3.drew _ _) (by simp [Value.oneCell']) (by omega) (by unfold maxLen; omega) (by omega) HBS.out _ rfl ?_; intro g cap w1 hown' hgrow hat hlt1; have hbx1 : Box1 w1 (W1.heap.size + 1) v 22 := (hgrow.block (W1.heap.size + 1) HBT.out (fun e => HT3.out.nb e.symm)).trans (HT3.out.box.on (below_alloc _ _)); have c2 := hbx1.c0; have f2 := hbx1.fr 0)
            all_goals (
              have R1 := Lib.hid (HT3.out.add hown' hgrow hat)
              clear hown hown' hgrow hat hbx1 c1 c2 c4 f2 hlt1
              go_wp2
              go_roundw
              case rel => exact ⟨k + 1, _, by omega, by go_num, by rw [HE.out]; exact R1, HOK1⟩
              case measure => simp [intOf]; omega)
      · obtain rfl : k = n := by omega
        obtain ⟨tk, rfl, htkl, htko, htki⟩ := row_of_own HT.out.own
        obtain ⟨rfl, rfl⟩ := lss_yes HV.out ⟨HG.out.symm, HR0.out, by rw [← HN.out]; exact HOK.out⟩
        have HRES : Hid (PInts (lsT s.l c.l r c.l.length) true w (.returned (.tuple #[.slice tk.a tk.l.length tk.c, .bool true])) wr) := Lib.hid ⟨tk, rfl, by rw [htkl, HN.out], htko, htki.wide HBW.out.size (Nat.le_refl _), HWW.out⟩
        have y0 := HT.out.box.c0
        clear htkl htko htki
        go_wp2
        go_ret2
        exact HRES.out
  · have HE := HNO.out W1 HBW.out (fun h => hgr ⟨by rw [HG.out]; exact h.1, h.2.1⟩)
    cases g with
    | false =>
      clear hgr
      go_wp2
      go_ret2
      exact HE.out
    | true =>
      have hr1 : r < 0 := by
        by_cases h : r < 0
        · exact h
        · exact absurd ⟨rfl, by omega⟩ hgr
      clear hgr
      go_wp2
      go_ret2
      exact HE.out
end Go.Proofs.Ytfgedolngcdjpaa
