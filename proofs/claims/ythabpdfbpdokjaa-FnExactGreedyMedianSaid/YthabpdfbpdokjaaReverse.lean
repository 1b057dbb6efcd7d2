/- ReverseMedian, the program's side. Condition: the Field reads as such. -/
import Derived.Test.YthabpdfbpdokjaaValues
import Derived.Test.YthabpdfbpdokjaaFirstLeastB
import Derived.Test.YthabpdfbpdokjaaWithout
import Derived.Test.YthabpdfbpdokjaaGrow
import Derived.Test.YthabpdfbpdokjaaPlainRev
import Derived.Test.YthabpdfbpdokjaaPairMedianOf
import Derived.Deep.RegionHeld3
namespace Go.Proofs.Ythabpdfbpdokjaa
open Go.RowKit

/-- What ReverseMedian answers. -/
def revF (F : Fld) (m : Nat) : List Nat := revD (servT F) F.o.l.length (F.o.l.length - m)
theorem revF_like {F G : Fld} (h : G.Like F) (m : Nat) : revF G m = revF F m := by unfold revF; rw [servT_like h, h.1]
def Revs (F : Fld) (k : Int) (l : List Int) (b : Bool) : Prop :=
  (kB F k = false ∧ l = [] ∧ b = false) ∨ (∃ m : Nat, F.good = true ∧ k = m ∧ 1 ≤ m ∧ m ≤ F.o.l.length ∧ l = up (revF F m) ∧ b = true)
theorem revs_like {F G : Fld} {k : Int} {l : List Int} {b : Bool} (h : Revs F k l b) (hl : G.Like F) : Revs G k l b := by
  rcases h with ⟨h1, h2⟩ | ⟨m, h1, h2, h3, h4, h5, h6⟩
  · exact .inl ⟨by rw [kB_like hl]; exact h1, h2⟩
  · exact .inr ⟨m, by rw [hl.good]; exact h1, h2, h3, by rw [hl.1]; exact h4, by rw [revF_like hl]; exact h5, h6⟩
theorem revs_some (F : Fld) (k : Int) : ∃ l b, Revs F k l b ∧ l.length ≤ 1048576 := by
  cases h : kB F k with
  | false => exact ⟨_, _, .inl ⟨h, rfl, rfl⟩, by simp⟩
  | true =>
    obtain ⟨hg, m, rfl, h1, h2⟩ := kB_nat h
    refine ⟨_, _, .inr ⟨m, hg, rfl, h1, h2, rfl, rfl⟩, ?_⟩
    have := (rev_ok (servT F) F.o.l.length (F.o.l.length - m) (by omega)).len
    have h7 := good_sizes hg
    rw [up_length]; unfold revF; omega

theorem up_erase (T : List Nat) : ∀ i, (up T).eraseIdx i = up (T.eraseIdx i) := by
  induction T with
  | nil => intro i; rfl
  | cons a t ih =>
    intro i
    cases i with
    | zero => rfl
    | succ i => show (a : Int) :: (up t).eraseIdx i = (a : Int) :: up (t.eraseIdx i); rw [ih i]
/-- A grown table, as one whose rows may be written, with its box. -/
theorem tab_held {B : Nat} {w : World} {v : Value} {Q : List Row} (h : Grows B w v Q) (h0 : 0 < Q.length) : ∃ T : Tab, v = .slice T.a T.R.length T.c ∧ T.R = Q ∧ T.In B w.heap.size w ∧ ∀ r ∈ T.R, r.Held w := by
  rcases id h.own.2 with ⟨_, he⟩ | ⟨g', cap, cur, hv, hBg, _⟩
  · omega
  · subst hv
    refine ⟨⟨some ⟨g', 0, none⟩, cap, Q⟩, rfl, rfl, ⟨?_, h.ins⟩, fun r hr => ⟨h.lots.1 r hr, (h.ins r hr).wide (Nat.zero_le _) (Nat.le_refl _)⟩⟩
    obtain ⟨q1, q2, q3⟩ := row_of_owns h.own
    refine ⟨q1, q2, ?_⟩
    rcases q3 with q3 | ⟨b', o, e0, hb', hc⟩
    · exact .inl q3
    · simp only [Option.some.injEq, Addr.mk.injEq] at e0
      obtain ⟨rfl, rfl, _⟩ := e0
      exact .inr ⟨_, _, rfl, hBg, hb', hb', hc⟩

set_option maxRecDepth 32000 in
set_option maxHeartbeats 4000000 in
theorem implRev_any (F : Fld) (k : Int) (w : World) (hF : F.At w) (l : List Int) (b : Bool) (hv : Revs F k l b) :
    Calls Try.prog 32 #[F.val, .int .i64 k] w (PInts l b w) := by
  obtain ⟨j0, hj, hj0, hj1, hj2⟩ := info_parts infoInts
  obtain ⟨wA, hA, hbA, bx, hFA, hszA⟩ := laid_fld F w 29 hF
  have HFA := Lib.hid hFA
  have HBX := Lib.hid bx
  have HA := Lib.hid hA
  have HV := Lib.hid hv
  have CT := Lib.hid (hasSites_any F k wA hFA)
  have x0 := bx.c0
  have x1 := bx.c1
  rw [hA] at x0 x1
  clear hF hA hFA bx hv
  show Calls _ _ #[.agg #[F.o.val, F.t.val], _] w _
  go_enter Try.func32, Try.ntmps32
  go_wp2_with fail
  rw [show w.alloc (Obj.cells #[F.o.val, F.t.val] 29) = wA from HA.out.symm]
  refine (show Calls _ _ _ _ _ from CT.out).mono ?_
  rintro e W1 ⟨rfl, hb1⟩
  have hbw := hbA.trans (hb1.mono hbA.size)
  have HEND : Hid (PInts [] false w (.returned (.tuple #[.slice (some ⟨W1.heap.size, 0, none⟩) 0 0, .bool false])) (W1.alloc (.cells #[] 3))) := Lib.hid (ints_end rfl (empty_own W1) hbw.size (hbw.trans ((below_alloc W1 _).mono hbw.size)))
  clear x0 x1
  obtain ⟨t, ht⟩ : ∃ t, t = kB F k := ⟨_, rfl⟩
  rw [← ht]
  have HT := Lib.hid ht
  clear ht
  cases t with
  | false =>
    obtain ⟨rfl, rfl⟩ : l = [] ∧ b = false := by
      rcases HV.out with ⟨_, h⟩ | ⟨m, h1, h2, h3, h4, _⟩
      · exact h
      · have := HT.out; unfold kB at this; rw [h1, h2] at this; simp at this; omega
    go_wp2
    go_ret2
    exact HEND.out
  | true =>
    obtain ⟨m, hg, rfl, hm1, hmo, hl, rfl⟩ : ∃ m : Nat, F.good = true ∧ k = m ∧ 1 ≤ m ∧ m ≤ F.o.l.length ∧ l = up (revF F m) ∧ b = true := by
      rcases HV.out with ⟨h, _⟩ | h
      · rw [← HT.out] at h; cases h
      · exact h
    obtain ⟨n, hn⟩ : ∃ n, n = F.o.l.length := ⟨_, rfl⟩
    have HN := Lib.hid hn
    have hsz := good_sizes hg
    have hn7 : n ≤ 7 := by omega
    have hni : (n : Int) ≤ 7 := by omega
    have hmn : m ≤ n := by omega
    obtain ⟨φ, hφ⟩ : ∃ φ, φ = servT F := ⟨_, rfl⟩
    have HPHI := Lib.hid hφ
    have HL : Hid (l = up (revD φ n (n - m))) := Lib.hid (by rw [hl]; unfold revF; rw [hn, hφ])
    have HOK := Lib.hid (rev_ok φ n)
    have HG := Lib.hid hg
    have CN := Lib.hid (numbers_any n W1 hn7)
    have y0 : W1.cell? ⟨w.heap.size, 0, none⟩ = some (.slice F.o.a n F.o.c) := by rw [hn]; exact (HBX.out.on hb1).c0
    have HB1 := Lib.hid hb1
    have hwA := hbA.size
    have hwW := hbw.size
    have hmi : (m : Int) ≤ 7 := by omega
    clear hl hn hsz hφ hb1 hbw
    go_wp2_with fail
    refine (show Calls _ _ _ _ _ from CN.out).mono ?_
    rintro e W2 ⟨s, rfl, hsl, hso, hsi, hb2⟩
    have HSL : Hid (s.l = up (revD φ n 0)) := Lib.hid hsl
    have HSO := Lib.hid hso
    have HSI := Lib.hid (hsi.wide HB1.out.size (Nat.le_refl _))
    have HB2 := Lib.hid (HB1.out.trans (hb2.mono HB1.out.size))
    clear hsl hso hsi hb2 y0
    go_wp2
    go_loopw [6, 7, 8, 25] (fun yv _ _ _ wr => ∃ (d : Nat) (y : Row), d ≤ n - m ∧ yv = .slice y.a y.l.length y.c ∧ Hid (y.l = up (revD φ n d)) ∧ Hid (y.Own 3 wr) ∧ Hid (y.In wA.heap.size wr.heap.size wr) ∧ Below wA.heap.size wA wr) (fun yv _ _ _ _ => match yv with | .slice _ q _ => q | _ => 0)
    case atStart => exact ⟨0, s, Nat.zero_le _, rfl, HSL, HSO, HSI, HB2.out⟩
    case round =>
      obtain ⟨d, y, hd, rfl, HYL, HYO, HYI, hnx⟩ := hrel
      obtain ⟨V, rfl⟩ : ∃ V, V = wr := ⟨_, rfl⟩
      have hS := HOK.out d (by omega)
      have hyl : y.l.length = n - d := by rw [HYL.out, up_length, hS.len]
      obtain ⟨c, hc⟩ : ∃ c, c = n - d := ⟨_, rfl⟩
      have HNX := Lib.hid hnx
      have hszr := hnx.size
      have HC := Lib.hid hc
      rw [hyl, ← hc]
      have hci : (c : Int) ≤ 7 := by omega
      by_cases hlt : m < c
      · have hlti : (m : Int) < (c : Int) := by omega
        obtain ⟨T, hT⟩ : ∃ T, T = revD φ n d := ⟨_, rfl⟩
        rw [← hT] at hS HYL
        rw [← hc] at hS
        have HS := Lib.hid hS
        have HTT := Lib.hid hT
        have HY7 : Hid (y.l.length = c) := Lib.hid (by rw [hyl, hc])
        obtain ⟨wB, hwB⟩ : ∃ u, u = V.alloc (.cells #[] 22) := ⟨_, rfl⟩
        have HG0 : Hid (Grows V.heap.size wB (.slice (some ⟨V.heap.size, 0, none⟩) 0 0) []) := Lib.hid (by rw [hwB]; exact tab_empty V)
        have HBB : Hid (Below V.heap.size V wB) := Lib.hid (by rw [hwB]; exact below_alloc _ _)
        have HWB := Lib.hid hwB
        clear hS hyl hc hT hwB hnx
        go_wp2
        rw [← HWB.out]
        go_loopw [7, 8, 25] (fun fv _ iv wi => ∃ (i : Nat) (Q : List Row), i ≤ c ∧ iv = .int .i64 i ∧ Hid (Grows V.heap.size wi fv Q) ∧ Hid (Q.map Row.l = ((erased T).take i).map up) ∧ Below V.heap.size V wi) (fun _ _ iv _ => c - (intOf iv).toNat)
        case atStart => exact ⟨0, [], Nat.zero_le _, rfl, HG0, Lib.hid rfl, HBB.out⟩
        case round =>
          obtain ⟨i, Q, hi, rfl, HGR, HQM, hni2⟩ := hrel
          have HNI := Lib.hid hni2
          have hszi := hni2.size
          have HYA := Lib.hid (HYI.out.on hni2)
          by_cases hlti2 : i < c
          · have hii : (i : Int) < (c : Int) := by omega
            have CW := Lib.hid (by
              have := withoutPlace_any y i wr (HYA.out.at) (by rw [HY7.out]; exact hlti2) (by rw [HY7.out]; omega)
              rw [HY7.out] at this; exact this)
            have HQE : Hid (((erased T).take (i + 1)).map up = ((erased T).take i).map up ++ [up (T.eraseIdx i)]) := Lib.hid (by
              have hiT : i < T.length := by rw [HS.out.len]; exact hlti2
              rw [List.take_succ_eq_append_getElem (by rw [erased_len]; exact hiT), List.map_append, erased_at hiT]; rfl)
            have HER : Hid (y.l.eraseIdx i = up (T.eraseIdx i)) := Lib.hid (by rw [HYL.out, up_erase])
            have hQl : Q.length = i := by
              have := congrArg List.length HQM.out
              rw [List.length_map, List.length_map, List.length_take, erased_len, HS.out.len] at this; omega
            clear hni2
            go_wp2_with fail
            refine (show Calls _ _ _ _ _ from CW.out).mono ?_
            rintro e W4 ⟨t, rfl, htl, hto, hti, hb4⟩
            have hGR4 := HGR.out.on hb4
            have hfr := HGR.out.fresh hti
            have HG4 := Lib.hid hGR4
            have HTL := Lib.hid (htl.trans HER.out)
            have HTO := Lib.hid hto
            have HTI := Lib.hid (hti.wide hszi (Nat.le_refl _))
            have HAP := Lib.hid hfr.1
            have HOF := Lib.hid hfr.2
            have HN4 := Lib.hid (HNI.out.trans (hb4.mono hszi))
            have hW4 := hb4.size
            have hown := hGR4.own
            have HQL := Lib.hid hQl
            rw [hQl] at hown
            have htl7 : (t.l.length : Int) ≤ 7 := by rw [htl]; have := List.length_eraseIdx_le y.l i; have := HY7.out; omega
            clear hGR4 hfr htl hto hti hb4 hQl
            go_wp2_with (at_builtin; refine wpList_append_own_at _ rfl _ _ 23 rfl V.heap.size 22 j0 (.slice none 0 0) 1 24 Try.underlying23 hj hj0 hj1 hj2 rfl (by decide) _ _ _ rfl (hown.alloc _) ⟨W4.heap.size, 0, none⟩ 1 1 [.slice t.a t.l.length t.c] rfl rfl (one_cell _ _ _) (by simp [Value.oneCell']) (by unfold maxLen; omega) (by omega) (by simp; omega) ?_; intro v' w1 hown' hgrow hnil hloc)
            have hba := below_alloc W4 (.cells #[.slice t.a t.l.length t.c] 22)
            have hloc2 : v'.ownBlock = u7.ownBlock ∨ ∃ g', v'.ownBlock = some g' ∧ (W4.alloc (.cells #[.slice t.a t.l.length t.c] 22)).heap.size ≤ g' := hloc.imp id fun h => ⟨_, h, Nat.le_refl _⟩
            rw [← HQL.out] at hown'
            have R1 := Lib.hid ((HG4.out.on hba).append (HTO.out.on hba) ((HTI.out.on hba).wide (Nat.le_refl _) hba.size) HAP.out HOF.out hown' hgrow hloc2)
            have R2 := (HN4.out.alloc (by omega) (.cells #[.slice t.a t.l.length t.c] 22)).grown hgrow (by rw [size_alloc]; omega) (fun j hj' => (owned_block HG4.out.own hj').1)
            have HQ2 : Hid ((Q ++ [t]).map Row.l = ((erased T).take (i + 1)).map up) := Lib.hid (by rw [List.map_append, HQM.out, HQE.out]; simp [HTL.out])
            clear hown' hgrow hown hnil hloc hloc2 hba
            go_wp2
            go_roundw
            case rel => exact ⟨i + 1, Q ++ [t], by omega, by go_num, R1, HQ2, R2⟩
            case measure => simp [intOf]; omega
          · obtain rfl : i = c := by omega
            have hTl : T.length = i := HS.out.len
            have HQA : Hid (Q.map Row.l = (erased T).map up) := Lib.hid (by rw [HQM.out, List.take_of_length_le (by rw [erased_len, hTl]; exact Nat.le_refl _)])
            have hQl : Q.length = i := by have := congrArg List.length HQA.out; rw [List.length_map, List.length_map, erased_len, hTl] at this; exact this
            obtain ⟨TT, hTv, hTR, hTI, hTH⟩ := tab_held HGR.out (by omega)
            have hTRl : TT.R.length = i := by rw [hTR, hQl]
            rw [hTRl] at hTv
            obtain ⟨wI, hwI⟩ : ∃ u, u = wr := ⟨_, rfl⟩
            rw [← hwI] at hTI hTH hszi
            have HTI := Lib.hid hTI
            have HTH := Lib.hid hTH
            have HTRL := Lib.hid hTRl
            have hi7 : i ≤ 7 := by omega
            have HCON : Hid (TT.con = (erased T).map up) := Lib.hid (by unfold Tab.con; rw [hTR]; exact HQA.out)
            have HNA : Hid (Below wA.heap.size wA wI) := Lib.hid (by rw [hwI]; exact HNX.out.trans (hni2.mono hszr))
            have hszI := HNA.out.size
            have CV := Lib.hid (fun (u : World) (hu : Below wI.heap.size wI u) => (by
              refine (values_any TT.a i TT.c u).mono (R' := fun e u2 => ∃ B0, e = .returned (.func (.func 98) #[] #[.pointer (some ⟨B0, 0, none⟩)]) ∧ Hid (TabHeld V.heap.size u2.heap.size B0 TT u2 ∧ V.heap.size ≤ B0 ∧ B0 < u2.heap.size) ∧ Below u.heap.size u u2) ?_
              rintro e u2 ⟨rfl, rfl⟩
              have hb := below_alloc u (.cells #[.slice TT.a i TT.c] 23)
              have hus := hu.size
              refine ⟨u.heap.size, rfl, Lib.hid ⟨⟨?_, ((HTI.out.on hu).on hb).wide (Nat.le_refl _) (by rw [size_alloc]; omega), fun r hr => ((HTH.out r hr).on hu).on hb⟩, by omega, by rw [size_alloc]; omega⟩, hb⟩
              rw [HTRL.out]
              exact (Boxed.new u 23 (.slice TT.a i TT.c)).cell : Calls Try.prog 75 #[.slice TT.a i TT.c] u fun e u2 => ∃ B0, e = .returned (.func (.func 98) #[] #[.pointer (some ⟨B0, 0, none⟩)]) ∧ Hid (TabHeld V.heap.size u2.heap.size B0 TT u2 ∧ V.heap.size ≤ B0 ∧ B0 < u2.heap.size) ∧ Below u.heap.size u u2))
            have CS := Lib.hid (fun (u : World) (hu : Below wI.heap.size wI u) (B0 : Nat) (hB : Hid (TabHeld V.heap.size u.heap.size B0 TT u ∧ V.heap.size ≤ B0 ∧ B0 < u.heap.size)) => (by
              have hq := values_seq 3 (by omega) B0 TT u V.heap.size u.heap.size hB.out.1 (by rw [HTRL.out]; exact hi7) hB.out.2.1 hB.out.2.2
              rw [HCON.out] at hq
              refine (leastServedB_any F 98 #[.pointer (some ⟨B0, 0, none⟩)] (erased T) V.heap.size V.heap.size u.heap.size u u (Nat.le_refl _) (enters_of Try.func98 (by kernel_rfl) rfl) hq (Below.refl _ _) ((HFA.out.on HNA.out).on hu) HG.out (fun U hU => by
                obtain ⟨q, hq1, rfl⟩ := erased_mem hU
                have h2 := HS.out.erase hq1
                exact ⟨fun e => by have := h2.len; rw [e] at this; simp at this; omega, fun x hx => by have := h2.lt x hx; rw [← HN.out]; exact this⟩)).mono (R' := fun e u2 => ∃ t : Row, e = .returned (.slice t.a t.l.length t.c) ∧ Hid (Best1 V.heap.size u2 t (firstB φ (erased T)) ∧ Below wI.heap.size wI u2) ∧ Below u.heap.size u u2) ?_
              rintro e u2 ⟨t, rfl, hbt, hb⟩
              exact ⟨t, rfl, Lib.hid ⟨by rw [HPHI.out]; exact hbt, hu.trans (hb.mono hu.size)⟩, hb⟩ : Calls Try.prog 74 #[.agg #[F.o.val, F.t.val], .func (.func 98) #[] #[.pointer (some ⟨B0, 0, none⟩)]] u fun e u2 => ∃ t : Row, e = .returned (.slice t.a t.l.length t.c) ∧ Hid (Best1 V.heap.size u2 t (firstB φ (erased T)) ∧ Below wI.heap.size wI u2) ∧ Below u.heap.size u u2))
            have HREV : Hid (revD φ n (d + 1) = firstB φ (erased T)) := Lib.hid (by rw [HTT.out]; rfl)
            have HSN := Lib.hid ((HOK.out (d + 1) (by have := HC.out; omega)).len)
            have HS0 : Hid (∀ u, Below wI.heap.size wI u → ((u.cell? ⟨w.heap.size, 0, none⟩ = some F.o.val ∧ u.cell? ⟨w.heap.size, 1, none⟩ = some F.t.val) ∧ Below wI.heap.size wI u)) := Lib.hid fun u hu => ⟨⟨((HBX.out.on HNA.out).on hu).c0, ((HBX.out.on HNA.out).on hu).c1⟩, hu⟩
            have s0 := HS0.out wI.drew (Below.refl _ _).drew
            rw [← hwI, hTv]
            clear hTl hQl hTv hTR hTI hTH hTRl hwI hni2
            go_wp2_with fail
            go_region_held3 (fun u => ((u.cell? ⟨w.heap.size, 0, none⟩ = some F.o.val ∧ u.cell? ⟨w.heap.size, 1, none⟩ = some F.t.val) ∧ Below wI.heap.size wI u)) (first | exact s0 | exact keep_reg HS0.out (by first | assumption | exact And.right (by assumption)) hb1) (first | (go_at_call 75; refine (show Calls _ _ _ _ _ from CV.out _ (by first | assumption | exact And.right (by assumption))).mono ?_; rintro e u1 ⟨B0, rfl, HB0, hb1⟩) | (go_at_call 74; refine (show Calls _ _ _ _ _ from CS.out _ (by first | assumption | exact And.right (by assumption)) _ HB0).mono ?_; rintro e u9 ⟨t, rfl, HBT, hb1⟩))
            have HTL : Hid (t.l = up (revD φ n (d + 1))) := Lib.hid (by rw [HBT.out.1.l, HREV.out])
            have HTN : Hid (t.l.length < i) := Lib.hid (by rw [HTL.out, up_length, HSN.out]; have := HC.out; omega)
            have HTO := Lib.hid HBT.out.1.own
            have HTW := Lib.hid (HBT.out.1.ins.wide hszr (Nat.le_refl _))
            have HNF := Lib.hid (HNA.out.trans (HBT.out.2.mono hszI))
            have hd1 : d + 1 ≤ n - m := by have := HC.out; omega
            clear hb1 s0
            go_wp2
            go_roundw
            case rel => exact ⟨d + 1, t, hd1, rfl, HTL, HTO, HTW, HNF.out⟩
            case measure => simpa using HTN.out
      · obtain rfl : c = m := by omega
        have HLL : Hid (y.l = l) := Lib.hid (by rw [HYL.out, HL.out]; congr 2; have := HC.out; omega)
        have HYC : Hid (y.l.length = c) := Lib.hid (by rw [hyl, hc])
        clear hyl hc
        go_wp2
        go_ret2
        exact ⟨y, by rw [HYC.out]; rfl, HLL.out, HYO.out, HYI.out.wide hbA.size (Nat.le_refl _), hbA.trans (HNX.out.mono hbA.size)⟩
end Go.Proofs.Ythabpdfbpdokjaa
