/- MostCovered, the program's side. Condition: the System reads as such. -/
import Derived.Test.YtbngmjmcmdfphaaPlainMostC
import Derived.Test.YtbngmjmcmdfphaaFirstMost
import Derived.Test.YtbngmjmcmdfphaaPairCoveredBy
namespace Go.Proofs.Ytbngmjmcmdfphaa
open Go.RowKit Go.Shelf

set_option maxRecDepth 32000 in
set_option maxHeartbeats 600000 in
theorem mostUnc_any (S : Sys) (c : Row) (T : List Nat) (g : Nat) (w : World) (hS : S.At w) (bx : Box3 w g (.int .i64 S.n) (.slice S.f.t.a S.f.t.R.length S.f.t.c) (.slice S.f.o.a S.f.o.l.length S.f.o.c) 29) (hg : S.good = true) (hc : c.At w) (hcl : c.l = up T) (hlt : ∀ m ∈ T, m < S.f.t.con.length) (hfew : T.length ≤ 8) :
    Calls Try.prog 45 #[.slice c.a c.l.length c.c, .pointer (some ⟨g, 0, none⟩)] w fun e w' => e = .returned (.int .i64 (uncT S T)) ∧ Below w.heap.size w w' := by
  obtain ⟨n, hn, hn8, _⟩ := good_n hg
  have hcov := covT_le hg hfew
  obtain ⟨x, hx⟩ : ∃ x, x = S.n := ⟨_, rfl⟩
  obtain ⟨cT, hcT⟩ : ∃ z, z = covT S T := ⟨_, rfl⟩
  obtain ⟨W3, hW3⟩ : ∃ z : Value, z = .slice S.f.t.a S.f.t.R.length S.f.t.c := ⟨_, rfl⟩
  obtain ⟨W4, hW4⟩ : ∃ z : Value, z = .slice S.f.o.a S.f.o.l.length S.f.o.c := ⟨_, rfl⟩
  rw [← hx, ← hW3, ← hW4] at bx
  have HS : Hid (∀ u, Below w.heap.size w u → ((u.cell? ⟨g, 0, none⟩ = some (.int .i64 x) ∧ u.cell? ⟨g, 1, none⟩ = some W3 ∧ u.cell? ⟨g, 2, none⟩ = some W4) ∧ Below w.heap.size w u)) := Lib.hid fun u hu => sys_cells bx u hu
  have s0 := HS.out w.drew (Below.refl _ _).drew
  have CB := Lib.hid (fun u (hu : Below w.heap.size w u) => by have := (elementsOf_any S c T u (Sys.At.on hS hu) (hc.on hu) (good_row8 hg) hcl hlt hfew).mono (R' := fun e w' => ∃ a c, e = .returned (.slice a cT c) ∧ Below u.heap.size u w') (fun e w' ⟨t, h1, h2, _, _, h5⟩ => ⟨t.a, t.c, by rw [h1, hcT]; unfold covT; rw [h2], h5⟩); rw [← hx, ← hW3, ← hW4] at this; exact this : ∀ u, Below w.heap.size w u → Calls Try.prog 46 #[.agg #[.int .i64 x, W3, W4], .slice c.a c.l.length c.c] u fun e w' => ∃ a c, e = .returned (.slice a cT c) ∧ Below u.heap.size u w')
  have hcti : (cT : Int) ≤ 64 := by omega
  have hsn : 0 ≤ x ∧ x ≤ 8 := by omega
  have e1 : -9223372036854775808 ≤ x - (cT : Int) := by omega
  have e2 : x - (cT : Int) ≤ 9223372036854775807 := by omega
  have HE : Hid (uncT S T = x - (cT : Int)) := Lib.hid (by rw [hcT, hx]; rfl)
  have HSN := Lib.hid hsn
  clear hS hc bx hg hcl hlt hfew hn hcov hcT hx hW3 hW4 hsn
  go_enter Try.func45, Try.ntmps45
  go_wp2_with fail
  go_region_held3 (fun u => ((u.cell? ⟨g, 0, none⟩ = some (.int .i64 x) ∧ u.cell? ⟨g, 1, none⟩ = some W3 ∧ u.cell? ⟨g, 2, none⟩ = some W4) ∧ Below w.heap.size w u)) (first | exact s0 | exact keep_reg HS.out (by first | assumption | exact And.right (by assumption)) hb1) ((go_at_call 46; refine (show Calls _ _ _ _ _ from CB.out _ (by first | assumption | exact And.right (by assumption))).mono ?_; rintro e u1 ⟨a1, c1, rfl, hb1⟩))
  all_goals
    have HBB := Lib.hid (show Below w.heap.size w _ by first | assumption | exact And.right (by assumption))
    have hw : IntKind.i64.wrap (x - (cT : Int)) = x - (cT : Int) := IntWalk.i64_in _ (by have := HSN.out; omega)
    rw [hw]
    clear s0 hw
    go_wp2
    go_ret
    exact ⟨by rw [HE.out]; rfl, HBB.out⟩

set_option maxHeartbeats 1000000 in
theorem canCover_any (S : Sys) (k : Int) (w : World) (hS : S.At w) :
    Calls Try.prog 44 #[.agg #[.int .i64 S.n, .slice S.f.t.a S.f.t.R.length S.f.t.c, .slice S.f.o.a S.f.o.l.length S.f.o.c], .int .i64 k] w fun e w' => e = .returned (.bool (askM S k)) ∧ Below w.heap.size w w' := by
  obtain ⟨wA, hA, hb, bx, hSA, hszA⟩ := laid_sys S w 29 hS
  have x0 := bx.c0
  have x1 := bx.c1
  have x2 := bx.c2
  rw [hA] at x0 x1 x2
  obtain ⟨v, hv⟩ : ∃ v, v = S.good := ⟨_, rfl⟩
  have cg := implIsSystem_any S wA hSA
  rw [← hv] at cg
  have CG := Lib.hid cg
  have HE : Hid (askM S k = (v && (decide (0 ≤ k) && decide (k ≤ 8)))) := Lib.hid (by rw [hv]; rfl)
  have HA := Lib.hid hA
  clear hS hA bx hSA hv cg hszA
  go_enter Try.func44, Try.ntmps44
  go_wp2_with fail
  rw [← HA.out]
  refine (show Calls _ _ _ _ _ from CG.out).mono ?_
  rintro e W1 ⟨rfl, hb1⟩
  have hbw := hb.trans (hb1.mono hb.size)
  cases v with
  | false =>
    go_wp2
    go_ret
    exact ⟨by rw [HE.out]; rfl, hbw⟩
  | true =>
    by_cases h0 : 0 ≤ k
    · have HE2 : Hid (askM S k = decide (k ≤ 8)) := Lib.hid (by rw [HE.out, decide_eq_true h0]; simp)
      go_wp2
      go_ret
      exact ⟨by rw [HE2.out]; rfl, hbw⟩
    · have HE2 : Hid (askM S k = false) := Lib.hid (by rw [HE.out, decide_eq_false h0]; rfl)
      go_wp2
      go_ret
      exact ⟨by rw [HE2.out]; rfl, hbw⟩

set_option maxRecDepth 32000 in
set_option maxHeartbeats 2000000 in
theorem implMost_any (S : Sys) (k : Int) (w : World) (hS : S.At w) (l : List Int) (b : Bool) (hb0 : b = askM S k) (hl0 : l = if b then up (mostC S k.toNat) else []) :
    Calls Try.prog 21 #[.agg #[.int .i64 S.n, .slice S.f.t.a S.f.t.R.length S.f.t.c, .slice S.f.o.a S.f.o.l.length S.f.o.c], .int .i64 k] w (PInts l b w) := by
  obtain ⟨wA, hA, hb, bx, hSA, hszA⟩ := laid_sys S w 29 hS
  have x0 := bx.c0
  have x1 := bx.c1
  have x2 := bx.c2
  rw [hA] at x0 x1 x2
  have cg := canCover_any S k wA hSA
  rw [← hb0] at cg
  have CG := Lib.hid cg
  have HSA := Lib.hid hSA
  have HBX := Lib.hid bx
  have HA := Lib.hid hA
  have HB0 := Lib.hid hb0
  have HL0 := Lib.hid hl0
  clear hS hA bx hSA cg hb0 hl0
  unfold PInts
  go_enter Try.func21, Try.ntmps21
  go_wp2_with fail
  rw [← HA.out]
  refine (show Calls _ _ _ _ _ from CG.out).mono ?_
  rintro e W1 ⟨rfl, hb1⟩
  have hbw := hb.trans (hb1.mono hb.size)
  have HB1 := Lib.hid hb1
  clear x0 x1 x2
  cases b with
  | false =>
    have HEND : Hid (PInts l false w (.returned (.tuple #[.slice (some ⟨W1.heap.size, 0, none⟩) 0 0, .bool false])) (W1.alloc (.cells #[] 3))) := Lib.hid (by
      have : l = [] := HL0.out
      subst this
      exact ints_end rfl (empty_own W1) hbw.size (hbw.trans ((below_alloc W1 _).mono hbw.size)))
    go_wp2
    go_ret2
    exact HEND.out
  | true =>
    obtain ⟨hg, hk0, hk8⟩ := askM_iff.1 HB0.out.symm
    obtain ⟨kk, hkk⟩ : ∃ kk : Nat, k = kk := ⟨k.toNat, by omega⟩
    subst hkk
    obtain ⟨-, -, -, hN8, -, -, -⟩ := good_n hg
    have hNR : S.f.t.con.length = S.f.t.R.length := con_length S.f.t
    have y1 := (HBX.out.on HB1.out).c1
    have CC := Lib.hid (choicesUpTo_any S.f.t.R.length kk W1)
    have HGD := Lib.hid hg
    have HLL : Hid (l = up (mostC S kk)) := Lib.hid (by rw [HL0.out, if_pos rfl]; simp)
    have hRi : (S.f.t.R.length : Int) ≤ 8 := by omega
    have hk8' : kk ≤ 8 := by omega
    have HNR := Lib.hid hNR
    clear hg hb1 hNR
    go_wp2_with fail
    refine (show Calls _ _ _ _ _ from CC.out).mono ?_
    rintro e W2 ⟨Bs, Bk, rfl, HBS, HBK, hb2⟩
    have HB2 := Lib.hid (HB1.out.trans (hb2.mono HB1.out.size))
    have hbw2 := hbw.trans (hb2.mono hbw.size)
    have hls : Bs < W2.heap.size := World.block_lt_of_cell? W2 _ HBS.out
    have hlk : Bk < W2.heap.size := World.block_lt_of_cell? W2 _ HBK.out
    have hR8 : S.f.t.R.length ≤ 8 := by omega
    have CF := Lib.hid (callsIn_wide.1 (firstMost_in 8 (by omega) (uncT S) 52 #[.pointer (some ⟨Bs, 0, none⟩), .pointer (some ⟨Bk, 0, none⟩)] (choL S.f.t.R.length (min kk S.f.t.R.length)) w.heap.size 0 W2.heap.size W2 W2 (Nat.le_refl _)
      (enters_of Try.func52 (by kernel_rfl) rfl) (choices_seqX 7 (by omega) Bs Bk S.f.t.R.length kk W2 hR8 hk8' HBS.out HBK.out 0 W2.heap.size (Nat.zero_le _) hls (Nat.zero_le _) hlk).all (Below.refl _ _)
      (fun j hj x W hW hx hxl => by
        have hbW := HB2.out.trans (hW.mono HB2.out.size)
        have hok := cho_min hR8 hk8' (List.getElem_mem hj)
        exact mostUnc_any S x _ w.heap.size W (Sys.At.on (show S.At wA from HSA.out) hbW) (HBX.out.on hbW) HGD.out hx hxl (by rw [HNR.out]; exact hok.2) hok.1)
      (fun T hT => by
        have hok := cho_min hR8 hk8' hT
        have h1 := covT_le HGD.out hok.1
        obtain ⟨n, hn, hn8, _⟩ := good_n HGD.out
        unfold uncT; omega)))
    have HW2 := Lib.hid hbw2
    clear hb2 hbw hbw2 y1 hls hlk
    go_wp2_with fail
    refine (show Calls _ _ _ _ _ from CF.out).mono ?_
    rintro e W3 ⟨t, rfl, htl, hto, hti, hb3⟩
    have HEND : Hid (PInts l true w (.returned (.tuple #[.slice t.a t.l.length t.c, .bool true])) W3) := Lib.hid ⟨t, rfl, by rw [htl, HLL.out]; unfold mostC; rw [HNR.out], hto, hti.wide HW2.out.size (Nat.le_refl _), HW2.out.trans (hb3.mono HW2.out.size)⟩
    clear htl hto hti hb3
    go_wp2
    go_ret2
    exact HEND.out
end Go.Proofs.Ytbngmjmcmdfphaa
