/- Both sides of ThresholdClients answer alike. Condition: the Field reads as such. -/
import Derived.Test.YtlnompeojhaigaaThreshold
namespace Go.Proofs.Ytlnompeojhaigaa
open Go.RowKit

def Thrs (F : Fld) (r : Int) (l : List Int) (b : Bool) : Prop :=
  ((F.good && decide (0 ≤ r)) = false ∧ l = [] ∧ b = false) ∨ (F.good = true ∧ 0 ≤ r ∧ l = up (thrN F r F.t.R.length) ∧ b = true)
theorem thrs_some (F : Fld) (r : Int) : ∃ l b, Thrs F r l b ∧ l.length ≤ 1048576 := by
  by_cases h : F.good = true ∧ 0 ≤ r
  · exact ⟨_, _, .inr ⟨h.1, h.2, rfl, rfl⟩, by rw [up_length]; have := thr_len F r F.t.R.length; have := good_sizes h.1; omega⟩
  · refine ⟨_, _, .inl ⟨?_, rfl, rfl⟩, by simp⟩
    rw [Bool.eq_false_iff]
    intro e
    simp only [Bool.and_eq_true, decide_eq_true_eq] at e
    exact h e
theorem thrs_like {F G : Fld} {r : Int} {l : List Int} {b : Bool} (h : Thrs F r l b) (hl : G.Like F) : Thrs G r l b := by
  rcases h with ⟨h1, h2⟩ | ⟨h1, h2, h3, h4⟩
  · exact .inl ⟨by rw [hl.good]; exact h1, h2⟩
  · exact .inr ⟨by rw [hl.good]; exact h1, h2, by rw [far_rows hl, thr_like hl]; exact h3, h4⟩

set_option maxHeartbeats 1000000 in
theorem specThr_any (F : Fld) (r : Int) (w : World) (hF : F.At w) (l : List Int) (b : Bool) (hv : Thrs F r l b) :
    Calls Try.prog 35 #[F.val, .int .i64 r] w (PInts l b w) := by
  obtain ⟨wA, hA, hbA, bx, hFA, hszA⟩ := laid_fld F w 29 hF
  have HFA := Lib.hid hFA
  have HBX := Lib.hid bx
  have HA := Lib.hid hA
  have HV := Lib.hid hv
  obtain ⟨g, hg⟩ : ∃ g, g = F.good := ⟨_, rfl⟩
  have CT := Lib.hid (by have := l2Good_any F wA hFA; rw [← hg] at this; exact this)
  have HG := Lib.hid hg
  have x0 := bx.c0
  have x1 := bx.c1
  rw [hA] at x0 x1
  clear hF hA hFA bx hg hv
  show Calls _ _ #[.agg #[F.o.val, F.t.val], _] w _
  go_enter Try.func35, Try.ntmps35
  go_wp2_with fail
  rw [show w.alloc (Obj.cells #[F.o.val, F.t.val] 29) = wA from HA.out.symm]
  refine (show Calls _ _ _ _ _ from CT.out).mono ?_
  rintro e W1 ⟨rfl, hb1⟩
  have hbw := hbA.trans (hb1.mono hbA.size)
  have HEND : Hid (PInts [] false w (.returned (.tuple #[.slice (some ⟨W1.heap.size, 0, none⟩) 0 0, .bool false])) (W1.alloc (.cells #[] 3))) := Lib.hid (ints_end rfl (empty_own W1) hbw.size (hbw.trans ((below_alloc W1 _).mono hbw.size)))
  have HBW := Lib.hid hbw
  clear x0 x1 hbw
  cases g with
  | false =>
    obtain ⟨rfl, rfl⟩ : l = [] ∧ b = false := by
      rcases HV.out with ⟨_, h⟩ | ⟨h, _⟩
      · exact h
      · rw [← HG.out] at h; cases h
    go_wp2
    go_ret2
    exact HEND.out
  | true =>
    by_cases hr0 : r < 0
    · obtain ⟨rfl, rfl⟩ : l = [] ∧ b = false := by
        rcases HV.out with ⟨_, h⟩ | ⟨_, h, _⟩
        · exact h
        · omega
      go_wp2
      go_ret2
      exact HEND.out
    · obtain ⟨hl, rfl⟩ : l = up (thrN F r F.t.R.length) ∧ b = true := by
        rcases HV.out with ⟨h, _⟩ | ⟨_, _, h1, h2⟩
        · rw [← HG.out, decide_eq_true (by omega : 0 ≤ r)] at h; cases h
        · exact ⟨h1, h2⟩
      have HL := Lib.hid hl
      have y0 := (HBX.out.on hb1).c0
      have y1 := (HBX.out.on hb1).c1
      have CB := Lib.hid (l5Threshold_any F r W1 (HFA.out.on hb1) HG.out.symm)
      clear hl hb1
      go_wp2_with fail
      refine (show Calls _ _ _ _ _ from CB.out).mono ?_
      rintro e W2 ⟨t, rfl, htl, hto, hti, hb2⟩
      have HTL := Lib.hid htl
      clear htl
      go_wp2
      go_ret2
      exact ⟨t, rfl, by rw [HTL.out, HL.out], hto, hti.wide HBW.out.size (Nat.le_refl _), HBW.out.trans (hb2.mono HBW.out.size)⟩

set_option maxRecDepth 8000 in
set_option maxHeartbeats 2000000 in
theorem implThr_any (F : Fld) (r : Int) (w : World) (hF : F.At w) (l : List Int) (b : Bool) (hv : Thrs F r l b) :
    Calls Try.prog 36 #[F.val, .int .i64 r] w (PInts l b w) := by
  obtain ⟨i0, hi, hz0, hz1, hz2⟩ := info_parts infoInt
  obtain ⟨wA, hA, hbA, bx, hFA, hszA⟩ := laid_fld F w 29 hF
  have HFA := Lib.hid hFA
  have HBX := Lib.hid bx
  have HV := Lib.hid hv
  have hown0 := empty_own wA
  have hb0 := below_alloc wA (.cells #[] 3)
  obtain ⟨w0, hw0⟩ : ∃ u, u = wA.alloc (.cells #[] 3) := ⟨_, rfl⟩
  rw [← hw0] at hown0 hb0
  have HW0 : Hid (w0 = (w.alloc (Obj.cells #[F.o.val, F.t.val] 29)).alloc (.cells #[] 3)) := Lib.hid (by rw [hw0, hA])
  have H0 := Lib.hid hown0
  obtain ⟨g, hg⟩ : ∃ g, g = (F.good && decide (0 ≤ r)) := ⟨_, rfl⟩
  have CT := Lib.hid (by have := hasRadius_any F r w0 (HFA.out.on hb0); rw [← hg] at this; exact this)
  have HG := Lib.hid hg
  have hszw : Hid (wA.heap.size = w.heap.size + 1) := Lib.hid hszA
  have y00 := (HBX.out.on hb0).c0
  have y01 := (HBX.out.on hb0).c1
  have Y0 := Lib.hid (show ((w.alloc (Obj.cells #[F.o.val, F.t.val] 29)).alloc (.cells #[] 3)).cell? ⟨w.heap.size, 0, none⟩ = some F.o.val by rw [← HW0.out]; exact y00)
  have Y1 := Lib.hid (show ((w.alloc (Obj.cells #[F.o.val, F.t.val] 29)).alloc (.cells #[] 3)).cell? ⟨w.heap.size, 1, none⟩ = some F.t.val by rw [← HW0.out]; exact y01)
  have z0 := Y0.out
  have z1 := Y1.out
  have hwA := hbA.size
  clear hF hA hFA bx hw0 hown0 hszA y00 y01 hv hg
  show Calls _ _ #[.agg #[F.o.val, F.t.val], _] w _
  go_enter Try.func36, Try.ntmps36
  go_wp2_with fail
  rw [← HW0.out]
  refine (show Calls _ _ _ _ _ from CT.out).mono ?_
  rintro e W1 ⟨rfl, hb1⟩
  have hb01 := hb0.trans (hb1.mono hb0.size)
  have HO1 := Lib.hid (owns_below H0.out hb1)
  have HB01 := Lib.hid hb01
  have HO2 : Hid (W1.ownsRow wA.heap.size 3 1 (.slice (some ⟨w.heap.size + 1, 0, none⟩) 0 0) 0 (iv [])) := Lib.hid (by have := HO1.out; rw [hszw.out] at this ⊢; exact this)
  clear z0 z1
  cases g with
  | false =>
    obtain ⟨rfl, rfl⟩ : l = [] ∧ b = false := by
      rcases HV.out with ⟨_, h⟩ | ⟨h1, h2, _⟩
      · exact h
      · have := HG.out; rw [h1, decide_eq_true h2] at this; cases this
    go_wp2
    go_ret2
    exact ints_end rfl HO2.out hwA (hbA.trans (hb01.mono hbA.size))
  | true =>
    have hgr : F.good = true ∧ 0 ≤ r := by have := HG.out.symm; simpa using this
    obtain ⟨hl, rfl⟩ : l = up (thrN F r F.t.R.length) ∧ b = true := by
      rcases HV.out with ⟨h, _⟩ | ⟨_, _, h1, h2⟩
      · rw [← HG.out] at h; cases h
      · exact ⟨h1, h2⟩
    have HL := Lib.hid hl
    have HGD := Lib.hid hgr.1
    have hsz := good_sizes hgr.1
    obtain ⟨n, hn⟩ : ∃ n, n = F.t.R.length := ⟨_, rfl⟩
    have HN := Lib.hid hn
    have hni : (n : Int) ≤ 7 := by omega
    have hn7 : n ≤ 7 := by omega
    have hszB := HB01.out.size
    have y1 : W1.cell? ⟨w.heap.size, 1, none⟩ = some (.slice F.t.a n F.t.c) := by rw [hn]; exact (HBX.out.on hb01).c1
    clear hl hgr hsz hn hb1 hb01
    go_wp2
    go_loopw [6, 7, 17] (fun out _ i wr => ∃ k : Nat, k ≤ n ∧ i = .int .i64 k ∧ Kept F r wA.heap.size wr out k ∧ Below wA.heap.size wA wr) (fun _ _ i _ => n - (intOf i).toNat)
    case atStart => exact ⟨0, Nat.zero_le _, rfl, HO2.out, HB01.out⟩
    case round =>
      obtain ⟨k, hk, rfl, hkept, hnx⟩ := hrel
      have HK := Lib.hid hkept
      have HNX := Lib.hid hnx
      have hszr := hnx.size
      clear y1
      have y0 := (HBX.out.on hnx).c0
      have y1 := (HBX.out.on hnx).c1
      by_cases hlt : k < n
      · have hlti : (k : Int) < (n : Int) := by omega
        obtain ⟨t, rfl, htl, -, hti⟩ := row_of_own hkept
        obtain ⟨v, hv⟩ : ∃ v, v = farTo F r k (thrN F r k) := ⟨_, rfl⟩
        have CF := Lib.hid (by
          have := isFarFrom_any F k t (thrN F r k) r wr (HFA.out.on hnx) hti.at HGD.out (by rw [← HN.out]; exact hlt) htl (fun j hj => by have := thr_lt F r k j hj; have := HN.out; omega) (by rw [htl, up_length]; have := thr_len F r k; omega)
          rw [← hv] at this; exact this)
        have HST : Hid (v = true → up (thrN F r (k + 1)) = up (thrN F r k) ++ [(k : Int)]) := Lib.hid fun e => by
          rw [thr_yes (by rw [← hv, e])]; unfold up; rw [List.map_append]; rfl
        have HNO : Hid (v = false → thrN F r (k + 1) = thrN F r k) := Lib.hid fun e => thr_no (by rw [← hv, e])
        have hUL : (up (thrN F r k)).length ≤ 7 := by rw [up_length]; have := thr_len F r k; omega
        clear hv htl hti hkept hnx
        go_wp2_with fail
        refine (show Calls _ _ _ _ _ from CF.out).mono ?_
        rintro e W8 ⟨rfl, hb8⟩
        have HB8 := Lib.hid (HNX.out.trans (hb8.mono hszr))
        have hown : W8.ownsRow wA.heap.size 3 1 (.slice t.a t.l.length t.c) (up (thrN F r k)).length (iv (up (thrN F r k))) := owns_below HK.out hb8
        have hszA := HB8.out.size
        clear hb8 y0 y1
        cases v with
        | true =>
          have HE := Lib.hid (HST.out rfl)
          go_wp2_with (at_builtin; refine wpList_append_own _ rfl _ _ 22 rfl wA.heap.size 3 i0 (.int .i64 0) 1 8 Try.underlying22 hi hz0 hz1 hz2 rfl (by decide) _ _ _ rfl (hown.alloc _) ⟨W8.heap.size, 0, none⟩ 1 1 [.int .i64 (k : Int)] rfl rfl (one_cell _ _ _) (by simp [Value.oneCell']) (by unfold maxLen; omega) (by omega) (by simp; omega) ?_; intro v' w1 hown' hgrow _)
          have R1 : Kept F r wA.heap.size w1 v' (k + 1) := by unfold Kept; rw [HE.out]; exact own_snoc rfl hown'
          have R2 : Below wA.heap.size wA w1 := (HB8.out.alloc (by omega) _).grown hgrow (by simp; omega) (fun j hj => (hown.lt j hj).1)
          clear hown' hgrow hown
          go_wp2
          go_roundw
          case rel => exact ⟨k + 1, by omega, by go_num, R1, R2⟩
          case measure => simp [intOf]; omega
        | false =>
          have HE := Lib.hid (HNO.out rfl)
          have R1 : Kept F r wA.heap.size W8 (.slice t.a t.l.length t.c) (k + 1) := by unfold Kept; rw [HE.out]; exact hown
          clear hown
          go_wp2
          go_roundw
          case rel => exact ⟨k + 1, by omega, by go_num, R1, HB8.out⟩
          case measure => simp [intOf]; omega
      · obtain rfl : k = n := by omega
        obtain ⟨t, rfl, htl, hto, hti⟩ := row_of_own hkept
        have HTL := Lib.hid htl
        clear htl y0 y1
        go_wp2
        go_ret2
        exact ⟨t, rfl, by rw [HTL.out, HL.out, HN.out], hto, hti.wide hbA.size (Nat.le_refl _), hbA.trans (hnx.mono hbA.size)⟩

theorem thresholdClients_pair (F : Fld) (r : Int) (_ : (Lit.int .i64 r).wf = true) (_ : F.Small) : ∃ (l : List Int) (b : Bool) (_ : l.length ≤ 1048576),
    (∀ (G : Fld) (W : World), G.At W → G.Like F → Calls Try.prog 35 #[G.val, .int .i64 r] W (PInts l b W)) ∧
    (∀ (G : Fld) (W : World), G.At W → G.Like F → Calls Try.prog 36 #[G.val, .int .i64 r] W (PInts l b W)) := by
  obtain ⟨l, b, h, hl⟩ := thrs_some F r
  exact ⟨l, b, hl, fun G W hG hlk => specThr_any G r W hG l b (thrs_like h hlk), fun G W hG hlk => implThr_any G r W hG l b (thrs_like h hlk)⟩
end Go.Proofs.Ytlnompeojhaigaa
