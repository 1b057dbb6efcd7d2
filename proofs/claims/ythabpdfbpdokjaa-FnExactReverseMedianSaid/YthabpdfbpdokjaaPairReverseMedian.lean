/- Both sides of ReverseMedian answer alike. Condition: the Field reads as such. -/
import Derived.Test.YthabpdfbpdokjaaReverse
import Derived.Test.YthabpdfbpdokjaaBits
import Derived.Test.YthabpdfbpdokjaaPost
import Derived.StillTailTactics
namespace Go.Proofs.Ythabpdfbpdokjaa
open Go.RowKit

theorem bits_full : ∀ n ≤ 7, bitsT n (2 ^ n - 1) = List.range n := by decide +kernel

set_option maxRecDepth 32000 in
set_option maxHeartbeats 4000000 in
theorem specRev_any (F : Fld) (k : Int) (w : World) (hF : F.At w) (l : List Int) (b : Bool) (hv : Revs F k l b) :
    Calls Try.prog 31 #[F.val, .int .i64 k] w (PInts l b w) := by
  obtain ⟨wA, hA, hbA, bx, hFA, hszA⟩ := laid_fld F w 29 hF
  have HFA := Lib.hid hFA
  have HBX := Lib.hid bx
  have HA := Lib.hid hA
  have HV := Lib.hid hv
  have CT := Lib.hid (l4K_any F k wA hFA)
  have x0 := bx.c0
  have x1 := bx.c1
  rw [hA] at x0 x1
  clear hF hA hFA bx hv
  show Calls _ _ #[.agg #[F.o.val, F.t.val], _] w _
  go_enter Try.func31, Try.ntmps31
  go_wp2_with fail
  rw [show w.alloc (Obj.cells #[F.o.val, F.t.val] 29) = wA from HA.out.symm]
  refine (show Calls _ _ _ _ _ from CT.out).mono ?_
  rintro e W1 ⟨rfl, hb1⟩
  have hbw := hbA.trans (hb1.mono hbA.size)
  have HEND : Hid (PInts [] false w (.returned (.tuple #[.slice (some ⟨W1.heap.size, 0, none⟩) 0 0, .bool false])) (W1.alloc (.cells #[] 3))) := Lib.hid (ints_end rfl (empty_own W1) hbw.size (hbw.trans ((below_alloc W1 _).mono hbw.size)))
  clear x0 x1
  obtain ⟨t, ht⟩ : ∃ t, t = kB F k := ⟨_, rfl⟩
  rw [← ht]
  have HT := Lib.hid ht
  clear ht
  cases t with
  | false =>
    obtain ⟨rfl, rfl⟩ : l = [] ∧ b = false := by
      rcases HV.out with ⟨_, h⟩ | ⟨m, h1, h2, h3, h4, _⟩
      · exact h
      · have := HT.out; unfold kB at this; rw [h1, h2] at this; simp at this; omega
    go_wp2
    go_ret2
    exact HEND.out
  | true =>
    obtain ⟨m, hg, rfl, hm1, hmo, hl, rfl⟩ : ∃ m : Nat, F.good = true ∧ k = m ∧ 1 ≤ m ∧ m ≤ F.o.l.length ∧ l = up (revF F m) ∧ b = true := by
      rcases HV.out with ⟨h, _⟩ | h
      · rw [← HT.out] at h; cases h
      · exact h
    obtain ⟨n, hn⟩ : ∃ n, n = F.o.l.length := ⟨_, rfl⟩
    have HN := Lib.hid hn
    have hsz := good_sizes hg
    have hn7 : n ≤ 7 := by omega
    have hni : (n : Int) ≤ 7 := by omega
    have hmn : m ≤ n := by omega
    obtain ⟨φ, hφ⟩ : ∃ φ, φ = servT F := ⟨_, rfl⟩
    have HPHI := Lib.hid hφ
    have HL : Hid (l = up (revD φ n (n - m))) := Lib.hid (by rw [hl]; unfold revF; rw [hn, hφ])
    have HOK := Lib.hid (rev_ok φ n)
    have HG := Lib.hid hg
    have hp1 : 1 ≤ 2 ^ n := Nat.one_le_two_pow
    have hp2 : 2 ^ n ≤ 128 := by
      have : 2 ^ n ≤ 2 ^ 7 := Nat.pow_le_pow_right (by omega) hn7
      simpa using this
    obtain ⟨p, hp⟩ : ∃ p, p = 2 ^ n := ⟨_, rfl⟩
    have hpi : (2 : Int) ^ n = (p : Int) := by rw [hp]; push_cast; rfl
    have HBA := Lib.hid (bits_full n hn7)
    rw [← hp] at hp1 hp2 HBA
    have hpi1 : (p : Int) ≤ 128 := by omega
    have hpi2 : 1 ≤ (p : Int) := by omega
    have HB1 := Lib.hid hb1
    have CB := Lib.hid (fun (u : World) (hu : Below W1.heap.size W1 u) => (by
      have := l2Bits_any n (p - 1) u hn7 (by omega)
      rw [HBA.out, show ((p - 1 : Nat) : Int) = (p : Int) - 1 by omega] at this; exact this : Calls Try.prog 69 #[.int .i64 n, .int .i64 ((p : Int) - 1)] u fun e w' => ∃ t : Row, e = .returned (.slice t.a t.l.length t.c) ∧ t.l = up (List.range n) ∧ t.Own 3 w' ∧ t.In u.heap.size w'.heap.size w' ∧ Below u.heap.size u w'))
    have y0 : W1.cell? ⟨w.heap.size, 0, none⟩ = some (.slice F.o.a n F.o.c) := by rw [hn]; exact (HBX.out.on hb1).c0
    have hwA := hbA.size
    have hwW := hbw.size
    have hW1 := hb1.size
    have hmi : (m : Int) ≤ 7 := by omega
    have hx0lt : w.heap.size < W1.heap.size := by have := (HBX.out.on hb1).lt; omega
    have HS1 : Hid (∀ u, Below W1.heap.size W1 u → ((u.cell? ⟨w.heap.size, 0, none⟩ = some (.slice F.o.a n F.o.c)) ∧ Below W1.heap.size W1 u)) := Lib.hid fun u hu => ⟨(hu.cell (p := ⟨w.heap.size, 0, none⟩) hx0lt).trans y0, hu⟩
    have s0 := HS1.out W1.drew (Below.refl _ _).drew
    clear hl hn hsz hφ hb1 hbw hp
    go_wp2_with fail
    go_still_tail 8, (by kernel_rfl)
    change wpList _ _ _ _ _ W1.drew
    obtain ⟨Wd, hWd⟩ : ∃ u, u = W1.drew := ⟨_, rfl⟩
    have hbd : Below W1.heap.size W1 Wd := by rw [hWd]; exact (Below.refl _ _).drew
    have yd := (HS1.out Wd hbd).1
    have CBd := Lib.hid (CB.out Wd hbd)
    have HBD := Lib.hid (HB1.out.trans (hbd.mono hW1))
    rw [← hWd]
    clear hWd y0 s0 hbd
    go_wp2_with fail
    refine (show Calls _ _ _ _ _ from CBd.out).mono ?_
    rintro e W2 ⟨s, rfl, hsl, hso, hsi, hb2⟩
    have HSL : Hid (s.l = up (revD φ n 0)) := Lib.hid hsl
    have HSO := Lib.hid hso
    have HSI := Lib.hid (hsi.wide HBD.out.size (Nat.le_refl _))
    have HB2 := Lib.hid (HBD.out.trans (hb2.mono HBD.out.size))
    clear hsl hso hsi hb2 yd hpi hpi1 hpi2
    go_wp2
    go_loopw [6, 7, 8] (fun yv _ _ wr => ∃ (d : Nat) (y : Row), d ≤ n - m ∧ yv = .slice y.a y.l.length y.c ∧ Hid (y.l = up (revD φ n d)) ∧ Hid (y.Own 3 wr) ∧ Hid (y.In wA.heap.size wr.heap.size wr) ∧ Below wA.heap.size wA wr) (fun yv _ _ _ => match yv with | .slice _ q _ => q | _ => 0)
    case atStart => exact ⟨0, s, Nat.zero_le _, rfl, HSL, HSO, HSI, HB2.out⟩
    case round =>
      obtain ⟨d, y, hd, rfl, HYL, HYO, HYI, hnx⟩ := hrel
      obtain ⟨V, rfl⟩ : ∃ V, V = wr := ⟨_, rfl⟩
      have hS := HOK.out d (by omega)
      have hyl : y.l.length = n - d := by rw [HYL.out, up_length, hS.len]
      obtain ⟨c, hc⟩ : ∃ c, c = n - d := ⟨_, rfl⟩
      have HNX := Lib.hid hnx
      have hszr := hnx.size
      have HC := Lib.hid hc
      rw [hyl, ← hc]
      have hci : (c : Int) ≤ 7 := by omega
      by_cases hlt : m < c
      · have hlti : (m : Int) < (c : Int) := by omega
        obtain ⟨T, hT⟩ : ∃ T, T = revD φ n d := ⟨_, rfl⟩
        rw [← hT] at hS HYL
        rw [← hc] at hS
        have HS := Lib.hid hS
        have HTT := Lib.hid hT
        have HY7 : Hid (y.l.length = c) := Lib.hid (by rw [hyl, hc])
        have hTl : T.length = c := hS.len
        obtain ⟨bs, os, hya, hyb, hycell⟩ : ∃ b o, y.a = some ⟨b, o, none⟩ ∧ b < V.heap.size ∧ ∀ i, (hi : i < T.length) → V.cell? ⟨b, o + i, none⟩ = some (.int .i64 (T[i] : Int)) := by
          rcases HYI.out.2.2 with h3 | ⟨b, o, e, _, _, hb, hcell⟩
          · have h3' := congrArg List.length (iv_nil h3); rw [List.length_nil] at h3'; omega
          · refine ⟨b, o, e, hb, fun i hi => ?_⟩
            have h5 := hcell i (.int .i64 ((up T)[i]'(by rw [up_length]; exact hi))) (by rw [HYL.out]; exact iv_at _)
            rw [up_at hi] at h5; exact h5
        have HYC := Lib.hid hycell
        have hcci : (c : Int) ≤ (y.c : Int) := by have := HYI.out.1; rw [iv_length, hyl] at this; omega
        have HX : Hid (∀ u, Below V.heap.size V u → ∀ x : Nat, Calls Try.prog 71 #[.slice (some ⟨bs, os, none⟩) c y.c, .int .i64 (x : Int)] u fun e w' => ∃ t : Row, e = .returned (.slice t.a t.l.length t.c) ∧ Hid (t.Own 3 w' ∧ t.In u.heap.size w'.heap.size w' ∧ t.l = up (lessT T x)) ∧ Below u.heap.size u w') := Lib.hid fun u hu x => by
          have h := l2Without_any y (x : Int) u ((HYI.out.on hu).at) (by rw [hyl]; omega)
          rw [hyl, ← hc, hya] at h
          refine h.mono ?_
          rintro e w' ⟨t, rfl, h1, h2, h3, h4⟩
          exact ⟨t, rfl, Lib.hid ⟨h2, h3, by rw [h1, HYL.out, lessT_up]⟩, h4⟩
        have HFC : Hid (∀ x, x ∈ T → ∀ u, Below V.heap.size V u → ∀ t : Row, t.At u → t.l = up (lessT T x) → Calls Try.prog 70 #[.agg #[F.o.val, F.t.val], .slice t.a t.l.length t.c] u fun e w' => e = .returned (.int .i64 (φ (lessT T x))) ∧ Below u.heap.size u w') := Lib.hid fun x hx u hu t ht htl => by
          obtain ⟨i, hi, rfl⟩ := List.mem_iff_getElem.1 hx
          have h2 := hS.erase hi
          have he := lessT_erase T i hi hS.up
          have hfi : Fine F t (lessT T T[i]) := ⟨HG.out, htl, by rw [he, h2.len]; omega, fun z hz => by rw [he] at hz; have := h2.lt z hz; rw [← HN.out]; exact this⟩
          have := l2Serve_any F t (lessT T T[i]) u ((HFA.out.on HNX.out).on hu) ht hfi
          rw [HPHI.out]; exact this
        have hcell0 : V.cell? ⟨bs, os, none⟩ = some (.int .i64 ((bestE φ T 0 : Nat) : Int)) := by
          have h := hycell 0 (by omega)
          unfold bestE
          rw [getD_elt (by omega)]; exact h
        have HY0C := Lib.hid hcell0
        rw [hya]
        clear hS hyl hc hT hnx hycell hya
        go_wp2
        go_loopw [7, 8] (fun bv iv wi => ∃ i : Nat, 1 ≤ i ∧ i ≤ c ∧ iv = .int .i64 i ∧ bv = .int .i64 ((bestE φ T (i - 1) : Nat) : Int) ∧ Below V.heap.size V wi) (fun _ iv _ => c - (intOf iv).toNat)
        case atStart => exact ⟨1, Nat.le_refl _, by omega, rfl, rfl, Below.refl _ _⟩
        case round =>
          obtain ⟨i, hi1, hi, rfl, rfl, hni2⟩ := hrel
          have HNI := Lib.hid hni2
          have hszi := hni2.size
          by_cases hlti2 : i < c
          · have hii : (i : Int) < (c : Int) := by omega
            have hiT : i < T.length := by omega
            obtain ⟨x, hx⟩ : ∃ x, x = T[i] := ⟨_, rfl⟩
            obtain ⟨z, hz⟩ : ∃ z, z = bestE φ T (i - 1) := ⟨_, rfl⟩
            have hxm : x ∈ T := by rw [hx]; exact List.getElem_mem _
            have hzm : z ∈ T := by rw [hz]; exact bestE_mem φ T (i - 1) (by omega)
            obtain ⟨v1, hv1⟩ : ∃ v, v = φ (lessT T x) := ⟨_, rfl⟩
            obtain ⟨v2, hv2⟩ : ∃ v, v = φ (lessT T z) := ⟨_, rfl⟩
            have HBS : Hid (bestE φ T i = if v1 < v2 then x else z) := Lib.hid (by
              obtain ⟨q, rfl⟩ : ∃ q, i = q + 1 := ⟨i - 1, by omega⟩
              unfold bestE
              rw [getD_elt hiT, ← hx, show q = q + 1 - 1 by omega, ← hz, hv1, hv2])
            have CX := Lib.hid (fun u (hu : Below wr.heap.size wr u) => HX.out u (HNI.out.trans (hu.mono hszi)) x)
            have CZ := Lib.hid (fun u (hu : Below wr.heap.size wr u) => HX.out u (HNI.out.trans (hu.mono hszi)) z)
            have CF1 := Lib.hid (fun u (hu : Below wr.heap.size wr u) (t : Row) (ht : t.At u) (htl : t.l = up (lessT T x)) => by have := HFC.out x hxm u (HNI.out.trans (hu.mono hszi)) t ht htl; rw [← hv1] at this; exact this : ∀ u, Below wr.heap.size wr u → ∀ t : Row, t.At u → t.l = up (lessT T x) → Calls Try.prog 70 #[.agg #[F.o.val, F.t.val], .slice t.a t.l.length t.c] u fun e w' => e = .returned (.int .i64 v1) ∧ Below u.heap.size u w')
            have CF2 := Lib.hid (fun u (hu : Below wr.heap.size wr u) (t : Row) (ht : t.At u) (htl : t.l = up (lessT T z)) => by have := HFC.out z hzm u (HNI.out.trans (hu.mono hszi)) t ht htl; rw [← hv2] at this; exact this : ∀ u, Below wr.heap.size wr u → ∀ t : Row, t.At u → t.l = up (lessT T z) → Calls Try.prog 70 #[.agg #[F.o.val, F.t.val], .slice t.a t.l.length t.c] u fun e w' => e = .returned (.int .i64 v2) ∧ Below u.heap.size u w')
            have hcx : wr.cell? ⟨bs, os + i, none⟩ = some (.int .i64 (x : Int)) := (hni2.cell (p := ⟨bs, os + i, none⟩) hyb).trans (by rw [hx]; exact HYC.out i hiT)
            have hyr : bs < wr.heap.size := by omega
            have HSS : Hid (∀ u, Below wr.heap.size wr u → ((u.cell? ⟨bs, os + i, none⟩ = some (.int .i64 (x : Int)) ∧ u.cell? ⟨w.heap.size, 0, none⟩ = some F.o.val ∧ u.cell? ⟨w.heap.size, 1, none⟩ = some F.t.val) ∧ Below wr.heap.size wr u)) := Lib.hid fun u hu => by
              have hb := (HBX.out.on HNX.out).on (HNI.out.trans (hu.mono hszi))
              exact ⟨⟨(hu.cell (p := ⟨bs, os + i, none⟩) hyr).trans hcx, hb.c0, hb.c1⟩, hu⟩
            have s0 := HSS.out wr.drew (Below.refl _ _).drew
            have hi1i : (1 : Int) ≤ (i : Int) := by omega
            rw [← hz]
            clear hx hz hxm hzm hv1 hv2 hni2 hcell0
            go_wp2_with fail
            go_region_held3 (fun u => ((u.cell? ⟨bs, os + i, none⟩ = some (.int .i64 (x : Int)) ∧ u.cell? ⟨w.heap.size, 0, none⟩ = some F.o.val ∧ u.cell? ⟨w.heap.size, 1, none⟩ = some F.t.val) ∧ Below wr.heap.size wr u)) (first | exact s0 | exact keep_reg HSS.out (by first | assumption | exact And.right (by assumption)) hb1) (first
              | (go_at_call 71; with_reducible change Calls _ _ #[_, .int .i64 (x : Int)] _ _; refine (show Calls _ _ _ _ _ from CX.out _ (by first | assumption | exact And.right (by assumption))).mono ?_; rintro e u1 ⟨t1, rfl, HT1, hb1⟩; have HR1 := Lib.hid HT1.out.2.1.at; have HL1 := Lib.hid HT1.out.2.2; (try have HR2 := Lib.hid (HR2.out.on hb1)))
              | (go_at_call 71; with_reducible change Calls _ _ #[_, .int .i64 (z : Int)] _ _; refine (show Calls _ _ _ _ _ from CZ.out _ (by first | assumption | exact And.right (by assumption))).mono ?_; rintro e u1 ⟨t2, rfl, HT2, hb1⟩; have HR2 := Lib.hid HT2.out.2.1.at; have HL2 := Lib.hid HT2.out.2.2; (try have HR1 := Lib.hid (HR1.out.on hb1)))
              | (go_at_call 70; with_reducible change Calls _ _ #[_, .slice t1.a _ _] _ _; refine (show Calls _ _ _ _ _ from CF1.out _ (by first | assumption | exact And.right (by assumption)) t1 HR1.out HL1.out).mono ?_; rintro e u1 ⟨rfl, hb1⟩; (try have HR1 := Lib.hid (HR1.out.on hb1)); (try have HR2 := Lib.hid (HR2.out.on hb1)))
              | (go_at_call 70; with_reducible change Calls _ _ #[_, .slice t2.a _ _] _ _; refine (show Calls _ _ _ _ _ from CF2.out _ (by first | assumption | exact And.right (by assumption)) t2 HR2.out HL2.out).mono ?_; rintro e u1 ⟨rfl, hb1⟩; (try have HR1 := Lib.hid (HR1.out.on hb1)); (try have HR2 := Lib.hid (HR2.out.on hb1))))
            all_goals
              refine at_exit (W := wr) (by first | assumption | exact And.right (by assumption)) ?_
              intro W8 hb8
              have hc8 := (HSS.out W8 hb8).1.1
              have HB8 := Lib.hid (HNI.out.trans (hb8.mono hszi))
              clear s0 hb8 hcx
              by_cases hlv : v1 < v2
              · have HE : Hid (bestE φ T (i + 1 - 1) = x) := Lib.hid (by rw [Nat.add_sub_cancel, HBS.out, if_pos hlv])
                go_wp2
                go_roundw
                case rel => exact ⟨i + 1, by omega, by omega, by go_num, by rw [HE.out], HB8.out⟩
                case measure => simp [intOf]; omega
              · have HE : Hid (bestE φ T (i + 1 - 1) = z) := Lib.hid (by rw [Nat.add_sub_cancel, HBS.out, if_neg hlv])
                go_wp2
                go_roundw
                case rel => exact ⟨i + 1, by omega, by omega, by go_num, by rw [HE.out], HB8.out⟩
                case measure => simp [intOf]; omega
          · obtain rfl : i = c := by omega
            obtain ⟨z, hz⟩ : ∃ z, z = bestE φ T (i - 1) := ⟨_, rfl⟩
            have HREV : Hid (lessT T z = revD φ n (d + 1)) := Lib.hid (by
              rw [hz, ← hTl, bestE_all HS.out (by omega) φ, HTT.out]; rfl)
            have CW := Lib.hid (HX.out wr HNI.out z)
            have HSN := Lib.hid ((HOK.out (d + 1) (by have := HC.out; omega)).len)
            have hd1 : d + 1 ≤ n - m := by have := HC.out; omega
            rw [← hz]
            clear hz hni2 hcell0
            go_wp2_with fail
            refine (show Calls _ _ _ _ _ from CW.out).mono ?_
            rintro e W4 ⟨t, rfl, HTF, hb4⟩
            have HTL : Hid (t.l = up (revD φ n (d + 1))) := Lib.hid (by rw [HTF.out.2.2, HREV.out])
            have HTN : Hid (t.l.length < i) := Lib.hid (by rw [HTL.out, up_length, HSN.out]; have := HC.out; omega)
            have HTO := Lib.hid HTF.out.1
            have HTW : Hid (t.In wA.heap.size W4.heap.size W4) := Lib.hid (HTF.out.2.1.wide (by omega) (Nat.le_refl _))
            have HNF := Lib.hid (HNX.out.trans ((HNI.out.trans (hb4.mono hszi)).mono hszr))
            clear hb4
            go_wp2
            go_roundw
            case rel => exact ⟨d + 1, t, hd1, rfl, HTL, HTO, HTW, HNF.out⟩
            case measure => simpa using HTN.out
      · obtain rfl : c = m := by omega
        have HLL : Hid (y.l = l) := Lib.hid (by rw [HYL.out, HL.out]; congr 2; have := HC.out; omega)
        have HYC : Hid (y.l.length = c) := Lib.hid (by rw [hyl, hc])
        clear hyl hc
        go_wp2
        go_ret2
        exact ⟨y, by rw [HYC.out]; rfl, HLL.out, HYO.out, HYI.out.wide hbA.size (Nat.le_refl _), hbA.trans (HNX.out.mono hbA.size)⟩

theorem reverse_pair (F : Fld) (k : Int) (_ : (Lit.int .i64 k).wf = true) (_ : F.Small) : ∃ (l : List Int) (b : Bool) (_ : l.length ≤ 1048576),
    (∀ (G : Fld) (W : World), G.At W → G.Like F → Calls Try.prog 31 #[G.val, .int .i64 k] W (PInts l b W)) ∧
    (∀ (G : Fld) (W : World), G.At W → G.Like F → Calls Try.prog 32 #[G.val, .int .i64 k] W (PInts l b W)) := by
  obtain ⟨l, b, h, hl⟩ := revs_some F k
  exact ⟨l, b, hl, fun G W hG hl => specRev_any G k W hG l b (revs_like h hl), fun G W hG hl => implRev_any G k W hG l b (revs_like h hl)⟩
end Go.Proofs.Ythabpdfbpdokjaa
