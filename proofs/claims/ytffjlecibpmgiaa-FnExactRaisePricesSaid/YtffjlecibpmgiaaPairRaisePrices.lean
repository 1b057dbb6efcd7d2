/- Both sides of RaisePrices answer alike. Condition: the System reads as such. -/
import Derived.Test.YtffjlecibpmgiaaRaiseImpl
import Derived.Test.YtffjlecibpmgiaaClaim
import Derived.Test.YtffjlecibpmgiaaSwap
namespace Go.Proofs.Ytffjlecibpmgiaa
open Go.RowKit Go.Shelf

theorem owns_keepS {w w' : World} {B n : Nat} {e : TypeId} {v : Value} {xs : List Value} (h : w.ownsRow B e 1 v n xs) (hb : ∀ g, v.ownBlock = some g → g < w.heap.size → w'.heap[g]? = w.heap[g]?) : w'.ownsRow B e 1 v n xs := by
  obtain ⟨h1, h2⟩ := id h
  refine ⟨h1, ?_⟩
  rcases h2 with h2 | ⟨g, cap, cur, rfl, hB, hg, r⟩
  · exact .inl h2
  · exact .inr ⟨g, cap, cur, rfl, hB, (hb g rfl (Array.getElem?_eq_some_iff.1 hg).1).trans hg, r⟩

set_option maxRecDepth 16000 in
set_option maxHeartbeats 6000000 in
theorem specRaisePrices_any (S : Sys) (w : World) (hS : S.At w) :
    Calls Try.prog 33 #[.agg #[.int .i64 S.n, .slice S.f.t.a S.f.t.R.length S.f.t.c, .slice S.f.o.a S.f.o.l.length S.f.o.c]] w (PInts2 (raisedS S) (paidS S) S.good w) := by
  obtain ⟨i0, hi, hz0, hz1, hz2⟩ := info_parts infoInt
  obtain ⟨wA, hA, hb, bx, hSA, hszA⟩ := laid_sys S w 28 hS
  have x0 := bx.c0
  have x1 := bx.c1
  have x2 := bx.c2
  rw [hA] at x0 x1 x2
  have HSA := Lib.hid (show S.At wA from hSA)
  have HBX := Lib.hid bx
  have HA := Lib.hid hA
  obtain ⟨v, hv⟩ : ∃ v, v = S.good := ⟨_, rfl⟩
  have CG := l6Good_any S wA hSA
  rw [← hv] at CG ⊢
  have CG1 := Lib.hid CG
  have HV := Lib.hid hv
  clear hS bx hSA hA hv CG
  unfold PInts2
  go_enter Try.func33, Try.ntmps33
  go_wp2_with fail
  rw [← HA.out]
  refine (show Calls _ _ _ _ _ from CG1.out).mono ?_
  rintro e W1 ⟨rfl, hb1⟩
  have hbw := hb.trans (hb1.mono hb.size)
  have hs1 := hbw.size
  have HB1 := Lib.hid hb1
  clear x0 x1 x2 hb1
  cases v with
  | false =>
    obtain ⟨s, t, mid, e1, e2, h1, h2, h3, h4, h5, h6, h7, h8⟩ := two_empty W1
    have HE : Hid (raisedS S = [] ∧ paidS S = []) := Lib.hid ⟨by unfold raisedS; rw [← HV.out]; rfl, by unfold paidS; rw [← HV.out]; rfl⟩
    have H1 := Lib.hid e1
    have H2 := Lib.hid e2
    have H3 := Lib.hid (And.intro h1 h2)
    have hbb := Lib.hid (hbw.trans (((below_alloc W1 (.cells #[] 3)).trans ((below_alloc _ (.cells #[] 3)).mono (by rw [size_alloc]; omega))).mono hs1))
    clear e1 e2 h1 h2
    go_wp2
    go_ret3
    exact ⟨s, t, mid, by rw [← H1.out, ← H2.out]; rfl, by rw [H3.out.1, HE.out.1], by rw [H3.out.2, HE.out.2], h3, h4, h5.wide (by omega) (Nat.le_refl _), h6, by omega, h8, hbb.out⟩
  | true =>
    obtain ⟨n, hn, hn8, hm8, hom, hcost, hset⟩ := good_n HV.out.symm
    have hcl := con_length S.f.t
    have HNN := Lib.hid hn
    have hni : (n : Int) ≤ 8 := by omega
    have hmR : S.f.t.R.length ≤ 8 := by omega
    have hmi : (S.f.t.R.length : Int) ≤ 8 := by omega
    have hOi : (S.f.o.l.length : Int) ≤ 8 := by omega
    have ho1 : S.f.t.R.length ≤ S.f.o.l.length := by omega
    have HCL := Lib.hid hcl
    have HCO := Lib.hid hcost
    have HSE := Lib.hid hset
    have HRA := Lib.hid fun k (hk : k ≤ n) => raise_at HV.out.symm hn k hk
    have HE : Hid (raisedS S = pricesK S n n ∧ paidS S = places (fun r => decide (r = 0)) (restsS S (pricesK S n n) 1) S.f.t.con.length) := Lib.hid (by
      have hnn : S.n.toNat = n := by omega
      unfold raisedS paidS
      rw [← HV.out, hnn]
      exact ⟨rfl, rfl⟩)
    have HLEN : Hid (∀ k, (pricesK S n k).length = n) := Lib.hid (pricesK_len S n)
    have bx1 := HBX.out.on HB1.out
    have y0 := bx1.c0
    rw [hn] at y0
    clear hn hm8 hcl bx1 hom hcost hset
    go_wp2_with (at_make; refine wpList_make_full _ rfl _ _ 23 rfl W1.heap.size 3 i0 (.int .i64 0) 1 Try.underlying23 hi hz0 hz1 .i64 .i64 _ _ n rfl rfl rfl rfl (by rw [hz2]; omega) (by unfold maxLen; omega) (Nat.le_refl _) ?_; intro w1 hown1 hgrow1)
    have hrow : w1.ownsRow W1.heap.size 3 1 (.slice (some ⟨W1.heap.size, 0, none⟩) n n) n (iv (pricesK S n 0)) := by
      rw [Nat.mul_one] at hown1
      have h2 : iv (pricesK S n 0) = List.replicate n (Value.int .i64 0) := by unfold pricesK iv; simp
      rw [h2, ← made_row]; exact hown1
    have hbm : Below W1.heap.size W1 w1 := (Below.refl _ _).grown hgrow1 (Nat.le_refl _) (fun k h => by cases h)
    have hblt := (owns_lt hrow).1
    have hba := below_alloc w1 (.cells #[] 3)
    have HR0 := Lib.hid (owns_below hrow hba)
    have HM0 := Lib.hid (hbm.trans (hba.mono hbm.size))
    have HT0 := Lib.hid (empty_own w1)
    have hsw1 := hbm.size
    clear hown1 hgrow1 hrow hbm y0 hba
    go_wp2
    go_loopw [7, 8, 9, 10] (fun xv _ _ _ wr => ∃ k : Nat, k ≤ n ∧ xv = .int .i64 k ∧ wr.ownsRow W1.heap.size 3 1 (.slice (some ⟨W1.heap.size, 0, none⟩) n n) n (iv (pricesK S n k)) ∧ Below W1.heap.size W1 wr ∧ wr.ownsRow w1.heap.size 3 1 (.slice (some ⟨w1.heap.size, 0, none⟩) 0 0) 0 (iv []) ∧ w1.heap.size + 1 ≤ wr.heap.size) (fun xv _ _ _ _ => n - (intOf xv).toNat)
    case atStart => exact ⟨0, Nat.zero_le _, rfl, HR0.out, HM0.out, HT0.out, by rw [size_alloc]; omega⟩
    case round =>
      obtain ⟨k, hk, rfl, hown, hnx, htight, hsz9⟩ := hrel
      have HNX := Lib.hid hnx
      have HOW := Lib.hid hown
      have HTG := Lib.hid htight
      have hszr := hnx.size
      have HBA : Hid (Below wA.heap.size wA wr) := Lib.hid (HB1.out.trans (hnx.mono HB1.out.size))
      have hrat : Row.At wr ⟨some ⟨W1.heap.size, 0, none⟩, n, pricesK S n k⟩ := row_of_owns hown
      have HRAT := Lib.hid hrat
      have HRK := Lib.hid (HRA.out k hk)
      have y0 := (HBX.out.on HBA.out).c0
      rw [HNN.out] at y0
      obtain ⟨p, hp⟩ : ∃ p, p = pricesK S n k := ⟨_, rfl⟩
      have HP := Lib.hid hp
      have HPL : Hid (p.length = n) := Lib.hid (by rw [hp]; exact HLEN.out k)
      have CP0 := Lib.hid fun (r : Row) (d : World) (hd : Below wr.heap.size wr d) (hr : r.At d) (hs : setB n r.l = true) => (by
        have := l6Priced_any r ⟨some ⟨W1.heap.size, 0, none⟩, n, pricesK S n k⟩ n d hr (HRAT.out.on hd) hs hn8 (raiseN HRK.out)
        rw [show (Row.mk (some ⟨W1.heap.size, 0, none⟩) n (pricesK S n k)).l.length = n from HLEN.out k] at this
        rw [hp]; exact this : Calls Try.prog 62 #[.slice r.a r.l.length r.c, .slice (some ⟨W1.heap.size, 0, none⟩) n n] d fun e w' => e = .returned (.int .i64 ((prOf p r.l).sum)) ∧ w' = d)
      by_cases hlt : k < n
      · have hlti : (k : Int) < (n : Int) := by omega
        clear hrat hown hnx htight hp
        have HDR0 := Lib.hid (DrewTo.refl wr)
        go_wp2
        go_loopw [8, 9, 10] (fun mv iv_ _ w3 => ∃ i : Nat, i ≤ S.f.t.R.length ∧ iv_ = .int .i64 i ∧ mv = .int .i64 (mostK S p k i) ∧ DrewTo wr w3) (fun _ iv_ _ _ => S.f.t.R.length - (intOf iv_).toNat)
        case atStart => exact ⟨0, Nat.zero_le _, rfl, rfl, HDR0.out⟩
        case round =>
          obtain ⟨i, hii, rfl, rfl, hdw⟩ := hrel
          have HDW := Lib.hid hdw
          have HBD := Lib.hid hdw.below
          have HB3 := Lib.hid (HBA.out.trans (hdw.below.mono HBA.out.size))
          have z1 := (HBX.out.on HB3.out).c1
          have z2 := (HBX.out.on HB3.out).c2
          by_cases hltm : i < S.f.t.R.length
          · have hltmi : (i : Int) < (S.f.t.R.length : Int) := by omega
            have hlto : i < S.f.o.l.length := by omega
            have hltoi : (i : Int) < (S.f.o.l.length : Int) := by omega
            obtain ⟨bt, ot, r, hta, hcr, hrat, hrl, hrm⟩ := tab_cells HSA.out.2 HB3.out hltm
            obtain ⟨bo, oo, hoa, hoc⟩ := intAt_cells HSA.out.1 HB3.out (k := i) hlto
            obtain ⟨c, hc⟩ : ∃ c, c = S.f.o.l.getD i 0 := ⟨_, rfl⟩
            have hcb : 1 ≤ c ∧ c ≤ 99 := by
              rw [hc, List.getD_eq_getElem?_getD, List.getElem?_eq_getElem hlto, Option.getD_some]
              exact HCO.out _ (List.getElem_mem _)
            rw [← hc] at hoc
            have hset := HSE.out r.l (List.mem_map.2 ⟨r, hrm, rfl⟩)
            rw [hta] at z1
            rw [hoa] at z2
            obtain ⟨q, hq⟩ : ∃ q, q = (prOf p r.l).sum := ⟨_, rfl⟩
            have CP := Lib.hid (fun d => by
              have := CP0.out r (wr.drewN d) (HBD.out.trans ((below_draws wr d).mono HBD.out.size)) (hrat.on (below_draws wr d)) hset
              rw [← hq] at this; exact this)
            have hrst : restS S p 1 i = c - q := by unfold restS; rw [← hc, hrl, hq, Int.mul_one]
            have hro := (show RestOK S p by rw [HP.out]; exact HRK.out.rest) i (by rw [HCL.out]; exact hltm)
            rw [hrst] at hro
            have e1 : -9223372036854775808 ≤ c - q := by omega
            have e2 : c - q ≤ 9223372036854775807 := by omega
            obtain ⟨u, hu⟩ : ∃ u, u = r.l.contains (k : Int) := ⟨_, rfl⟩
            have CH := Lib.hid (fun d => by have := l1Has_any r (k : Int) (wr.drewN d) (hrat.on (below_draws wr d)); rw [show hasI r.l (k : Int) = u from hu.symm] at this; exact this)
            obtain ⟨m, hm⟩ : ∃ m, m = mostK S p k i := ⟨_, rfl⟩
            have hmb := mostK_bounds k (show RestOK S p by rw [HP.out]; exact HRK.out.rest) i (by rw [HCL.out]; exact hii)
            have HST : Hid (mostK S p k (i + 1) = if u = true ∧ (m < 0 ∨ c - q < m) then c - q else m) := Lib.hid (by
              rw [hm, ← hrst, hu, ← hrl]; rfl)
            rw [← hm] at hmb ⊢
            have HRO := Lib.hid (And.intro hro hmb)
            have HCR : Hid (∀ d, (wr.drewN d).cell? ⟨bt, ot + i, none⟩ = some (.slice r.a r.l.length r.c) ∧ (wr.drewN d).cell? ⟨w.heap.size, 1, none⟩ = some (.slice (some ⟨bt, ot, none⟩) S.f.t.R.length S.f.t.c)) := Lib.hid fun d => ⟨hcr, z1⟩
            clear hta hoa hc hset hq hrl hrm hrat hrst hu hm hdw hcb hro hmb
            go_wp2
            go_quiet ((go_at_call 62; exact Calls.quiet_of_same (CP.out _)))
            obtain ⟨k1, k2⟩ := HCR.out nq
            go_wp2_with fail
            refine (show Calls _ _ _ _ _ from CH.out _).mono ?_
            rintro e W5 ⟨rfl, rfl⟩
            have R2 := HDW.out.more nq
            obtain ⟨hro, hmb⟩ := HRO.out
            cases u with
            | false =>
              have HE2 : Hid (mostK S p k (i + 1) = m) := Lib.hid (by rw [HST.out, if_neg (by simp)])
              go_wp2
              go_roundw
              case rel => exact ⟨i + 1, by omega, by go_num, by rw [HE2.out], R2⟩
              case measure => simp [intOf]; omega
            | true =>
              by_cases hm0 : m < 0
              · have HE2 : Hid (mostK S p k (i + 1) = c - q) := Lib.hid (by rw [HST.out, if_pos ⟨rfl, .inl hm0⟩])
                go_wp2
                go_roundw
                case rel => exact ⟨i + 1, by omega, by go_num, by rw [HE2.out], R2⟩
                case measure => simp [intOf]; omega
              · by_cases hcm : c - q < m
                · have HE2 : Hid (mostK S p k (i + 1) = c - q) := Lib.hid (by rw [HST.out, if_pos ⟨rfl, .inr hcm⟩])
                  go_wp2
                  go_roundw
                  case rel => exact ⟨i + 1, by omega, by go_num, by rw [HE2.out], R2⟩
                  case measure => simp [intOf]; omega
                · have HE2 : Hid (mostK S p k (i + 1) = m) := Lib.hid (by rw [HST.out, if_neg (fun h => h.2.elim hm0 hcm)])
                  go_wp2
                  go_roundw
                  case rel => exact ⟨i + 1, by omega, by go_num, by rw [HE2.out], R2⟩
                  case measure => simp [intOf]; omega
          · obtain rfl : i = S.f.t.R.length := by omega
            obtain ⟨q, hq⟩ : ∃ q, q = raiseV S p k := ⟨_, rfl⟩
            have hmr := mostK_raise k (show RestOK S p by rw [HP.out]; exact HRK.out.rest)
            rw [HCL.out, ← hq] at hmr
            have CM := Lib.hid (by have := l1Most_any (mostK S p k S.f.t.R.length) 0 wr; rw [hmr] at this; exact this)
            have HST : Hid (pricesK S n (k + 1) = (pricesK S n k).set k q) := Lib.hid (by rw [hq, HP.out]; rfl)
            have hown3 := owns_below HOW.out hdw.below
            have htg3 := owns_below HTG.out hdw.below
            have HO3 := Lib.hid hown3
            have HT3 := Lib.hid htg3
            have HN3 := Lib.hid (HNX.out.trans (hdw.below.mono hszr))
            have hsz3 := hdw.below.size
            clear hq hmr hown3 htg3 hdw
            go_wp2_with fail
            refine (show Calls _ _ _ _ _ from CM.out).mono ?_
            rintro e W5 ⟨rfl, rfl⟩
            have hown4 := HO3.out
            have hst := (hown4.stored k (.int .i64 q)).1
            have hf := hown4.frozenAt k
            have hu : ∃ u, W5.cell? ⟨W1.heap.size, k, none⟩ = some u := ⟨_, (hown4.cellAt k (by omega)).trans (List.getElem?_eq_getElem (by rw [iv_length, HLEN.out k]; exact hlt))⟩
            obtain ⟨u, hu⟩ := hu
            have hiv : (iv (pricesK S n k)).set k (.int .i64 q) = iv (pricesK S n (k + 1)) := by
              rw [HST.out]; unfold iv; rw [List.map_set]
            rw [hiv] at hst
            have hne : W1.heap.size < w1.heap.size := hblt
            have hto := set_touch W5 W1.heap.size k (.int .i64 q)
            have R1 := Lib.hid hst
            have R2 := Lib.hid (HN3.out.setCell (p := ⟨W1.heap.size, k, none⟩) (Nat.le_refl _) (.int .i64 q))
            have R3 := Lib.hid (owns_keepS HT3.out fun g hg hlt => hto.block g hlt (by
              simp only [Value.ownBlock, Option.some.injEq] at hg
              omega))
            have R4 := Lib.hid (show w1.heap.size + 1 ≤ (W5.setCell ⟨W1.heap.size, k, none⟩ (.int .i64 q)).heap.size by have := hto.size; omega)
            clear hown4 hst hiv hto
            go_wp2
            go_roundw
            case rel => exact ⟨k + 1, by omega, by go_num, R1.out, R2.out, R3.out, R4.out⟩
            case measure => simp [intOf]; omega
      · obtain rfl : k = n := by omega
        clear hrat hown hnx htight
        have hPK : p = pricesK S k k := hp
        clear hp
        have HR9 := Lib.hid (restsS_len S p 1)
        have HDT : Hid (wr.ownsRow w1.heap.size 3 1 (.slice (some ⟨w1.heap.size, 0, none⟩) 0 0) (places (fun r => decide (r = 0)) (restsS S p 1) 0).length (iv (places (fun r => decide (r = 0)) (restsS S p 1) 0))) := Lib.hid HTG.out
        have hbase : w1.heap.size ≤ wr.heap.size := by omega
        have HPK := Lib.hid hPK
        clear hPK
        go_wp2
        go_loopw [6, 11] (fun tv iv_ w3 => ∃ i : Nat, i ≤ S.f.t.R.length ∧ iv_ = .int .i64 i ∧ w3.ownsRow w1.heap.size 3 1 tv (places (fun r => decide (r = 0)) (restsS S p 1) i).length (iv (places (fun r => decide (r = 0)) (restsS S p 1) i)) ∧ Below w1.heap.size wr w3 ∧ wr.heap.size ≤ w3.heap.size) (fun _ iv_ _ => S.f.t.R.length - (intOf iv_).toNat)
        case atStart => exact ⟨0, Nat.zero_le _, rfl, HDT.out, Below.refl _ _, Nat.le_refl _⟩
        case round =>
          obtain ⟨i, hii, rfl, hownt, hnx3, hsz3⟩ := hrel
          have HNX3 := Lib.hid hnx3
          have HOT := Lib.hid hownt
          have HB3 : Hid (Below wA.heap.size wA wr) := Lib.hid (HBA.out.trans (hnx3.mono (by have := HB1.out.size; omega)))
          have hown3 : wr.ownsRow W1.heap.size 3 1 (.slice (some ⟨W1.heap.size, 0, none⟩) k k) k (iv (pricesK S k k)) := owns_keepS HOW.out fun g hg hlt => hnx3.block g (by
            simp only [Value.ownBlock, Option.some.injEq] at hg
            omega)
          have HO3 := Lib.hid hown3
          have z1 := (HBX.out.on HB3.out).c1
          have z2 := (HBX.out.on HB3.out).c2
          by_cases hltm : i < S.f.t.R.length
          · have hltmi : (i : Int) < (S.f.t.R.length : Int) := by omega
            have hlto : i < S.f.o.l.length := by omega
            have hltoi : (i : Int) < (S.f.o.l.length : Int) := by omega
            obtain ⟨bt, ot, r, hta, hcr, hrat, hrl, hrm⟩ := tab_cells HSA.out.2 HB3.out hltm
            obtain ⟨bo, oo, hoa, hoc⟩ := intAt_cells HSA.out.1 HB3.out (k := i) hlto
            obtain ⟨c, hc⟩ : ∃ c, c = S.f.o.l.getD i 0 := ⟨_, rfl⟩
            have hcb : 1 ≤ c ∧ c ≤ 99 := by
              rw [hc, List.getD_eq_getElem?_getD, List.getElem?_eq_getElem hlto, Option.getD_some]
              exact HCO.out _ (List.getElem_mem _)
            rw [← hc] at hoc
            have hset := HSE.out r.l (List.mem_map.2 ⟨r, hrm, rfl⟩)
            rw [hta] at z1
            rw [hoa] at z2
            obtain ⟨q, hq⟩ : ∃ q, q = (prOf p r.l).sum := ⟨_, rfl⟩
            have hpat : Row.At wr ⟨some ⟨W1.heap.size, 0, none⟩, k, pricesK S k k⟩ := row_of_owns hown3
            have CP := Lib.hid (fun d => by
              have := l6Priced_any r ⟨some ⟨W1.heap.size, 0, none⟩, k, pricesK S k k⟩ k (wr.drewN d) (hrat.on (below_draws wr d)) (hpat.on (below_draws wr d)) hset hn8 (raiseN HRK.out)
              rw [show (Row.mk (some ⟨W1.heap.size, 0, none⟩) k (pricesK S k k)).l.length = k from HLEN.out k] at this
              simp only at this
              rw [← HPK.out, ← hq] at this
              exact this : ∀ d, Calls Try.prog 62 #[.slice r.a r.l.length r.c, .slice (some ⟨W1.heap.size, 0, none⟩) k k] (wr.drewN d) fun e w' => e = .returned (.int .i64 q) ∧ w' = wr.drewN d)
            have hg : (restsS S p 1).getD i 0 = c - q := by
              rw [List.getD_eq_getElem?_getD, List.getElem?_eq_getElem (by rw [HR9.out, HCL.out]; exact hltm), Option.getD_some, restsS_get _ _ _ (by rw [HCL.out]; exact hltm)]
              unfold restS; rw [← hc, hrl, hq, Int.mul_one]
            have HG := Lib.hid hg
            have hpl := places_len (fun r => decide (r = 0)) (restsS S p 1) i
            by_cases hqc : q = c
            · have hee : (q == c) = true := by simp [hqc]
              have hde : decide (q = c) = true := by simp [hqc]
              have HE2 : Hid (places (fun r => decide (r = 0)) (restsS S p 1) (i + 1) = places (fun r => decide (r = 0)) (restsS S p 1) i ++ [(i : Int)]) := Lib.hid (places_yes (by rw [HG.out]; simp; omega))
              have HDR := Lib.hid (fun d => owns_below HOT.out (below_draws wr d))
              have hszw : w1.heap.size ≤ wr.heap.size := by omega
              clear hta hoa hc hset hq hrl hrm hrat hg hpat hown3 hownt hnx3 hqc hcb
              go_wp2
              go_quiet ((go_at_call 62; exact Calls.quiet_of_same (CP.out _)))
              have hown := HDR.out nq
              go_wp2_with (at_builtin; refine wpList_append_own _ rfl _ _ 23 rfl w1.heap.size 3 i0 (.int .i64 0) 1 8 Try.underlying23 hi hz0 hz1 hz2 rfl (by decide) _ _ _ rfl (hown.alloc _) ⟨wr.heap.size, 0, none⟩ 1 1 [.int .i64 (i : Int)] rfl rfl (one_cell (wr.drewN nq) _ _) (by simp [Value.oneCell']) (by unfold maxLen; omega) (by omega) (by rw [size_alloc]; show w1.heap.size ≤ wr.heap.size + 1; omega) ?_; intro v' w8 hown' hgrow _)
              have R1 := Lib.hid (by have h9 := own_snoc rfl hown'; rw [← HE2.out] at h9; exact h9)
              have R2 := Lib.hid (((HNX3.out.trans ((below_draws wr nq).mono hszw)).alloc (by show w1.heap.size ≤ wr.heap.size; omega) _).grown hgrow (by rw [size_alloc]; show w1.heap.size ≤ wr.heap.size + 1; omega) (fun j hj => (hown.lt j hj).1))
              have R3 := Lib.hid (Nat.le_trans hsz3 (Nat.le_trans (by rw [size_alloc]; show wr.heap.size ≤ wr.heap.size + 1; omega) hgrow.size))
              clear hown' hgrow hown
              go_wp2
              go_roundw
              case rel => exact ⟨i + 1, by omega, by go_num, R1.out, R2.out, R3.out⟩
              case measure => simp [intOf]; omega
            · have hee : (q == c) = false := by simp [hqc]
              have hde : decide (q = c) = false := by simp [hqc]
              have HE2 : Hid (places (fun r => decide (r = 0)) (restsS S p 1) (i + 1) = places (fun r => decide (r = 0)) (restsS S p 1) i) := Lib.hid (places_no (by rw [HG.out]; simp; omega))
              have HDR := Lib.hid (fun d => owns_below HOT.out (below_draws wr d))
              have HND := Lib.hid (fun d => HNX3.out.trans ((below_draws wr d).mono (show w1.heap.size ≤ wr.heap.size by omega)))
              clear hta hoa hc hset hq hrl hrm hrat hg hpat hown3 hownt hnx3 hqc hcb
              go_wp2
              go_quiet ((go_at_call 62; exact Calls.quiet_of_same (CP.out _)))
              go_wp2
              go_roundw
              case rel => exact ⟨i + 1, by omega, by go_num, by rw [HE2.out]; exact HDR.out _, HND.out _, hsz3⟩
              case measure => simp [intOf]; omega
          · obtain rfl : i = S.f.t.R.length := by omega
            obtain ⟨t, ht, htl, hto, hti⟩ := row_of_own hownt
            obtain ⟨s, hs, hsl, hso, hsi⟩ := rowN_of_own (HLEN.out k).symm hown3
            have HS := Lib.hid hs
            have HT := Lib.hid ht
            have HSL := Lib.hid hsl
            have HTL := Lib.hid htl
            have HBF := Lib.hid (hbw.trans ((HNX.out.trans (hnx3.mono (show W1.heap.size ≤ w1.heap.size by omega))).mono hs1))
            have hsi2 : s.In w.heap.size w1.heap.size wr := by
              obtain ⟨q1, q2, q3⟩ := hsi
              refine ⟨q1, q2, ?_⟩
              rcases q3 with q3 | ⟨b, o, e, hlo, _, hb, hc⟩
              · exact .inl q3
              · have hsa := HS.out
                simp only [Value.slice.injEq] at hsa
                rw [← hsa.1] at e
                simp only [Option.some.injEq, Addr.mk.injEq] at e
                exact .inr ⟨b, o, by rw [← hsa.1, e.1, e.2.1], by omega, by omega, hb, hc⟩
            have HRES : Hid (PInts2 (raisedS S) (paidS S) true w (.returned (.tuple #[.slice (some ⟨W1.heap.size, 0, none⟩) k k, .slice t.a t.l.length t.c, .bool true])) wr) := Lib.hid ⟨s, t, w1.heap.size, by rw [← HS.out], by rw [HSL.out, HE.out.1], by rw [HTL.out, HE.out.2, HPK.out, HCL.out], hso, hto, hsi2, hti, by omega, by omega, HBF.out⟩
            subst ht
            clear hown3 hownt hnx3 hs hsl hsi htl hsi2 hso hto hti
            go_wp2
            go_ret3
            first
              | exact HRES.out
              | (obtain ⟨s, t, mid, a1, a2, a3, a4, a5, a6, a7, a8, a9, a10⟩ := HRES.out
                 first
                  | exact ⟨s, t, a1, a2, a3, a4, a5, mid, a6, a7, a8, a9, a10⟩
                  | exact ⟨s, t, a1, a2, a3, a4, a5, ⟨mid, a6, a7, a8, a9⟩, a10⟩
                  | (simp only [Value.slice.injEq] at a1; exact ⟨s, t, by simpa using a1, a2, a3, a4, a5, mid, a6, a7, a8, a9, a10⟩))

theorem raisePrices_pair (S : Sys) (_ : S.Small) : ∃ (l l2 : List Int) (b : Bool) (_ : l.length ≤ 1048576 ∧ l2.length ≤ 1048576),
    (∀ (G : Sys) (W : World), G.At W → G.Like S → Calls Try.prog 33 #[.agg #[.int .i64 G.n, .slice G.f.t.a G.f.t.R.length G.f.t.c, .slice G.f.o.a G.f.o.l.length G.f.o.c]] W (PInts2 l l2 b W)) ∧
    (∀ (G : Sys) (W : World), G.At W → G.Like S → Calls Try.prog 34 #[.agg #[.int .i64 G.n, .slice G.f.t.a G.f.t.R.length G.f.t.c, .slice G.f.o.a G.f.o.l.length G.f.o.c]] W (PInts2 l l2 b W)) := by
  refine ⟨raisedS S, paidS S, S.good, ?_, fun G W h hl => by have := specRaisePrices_any G W h; rw [raisedS_like hl, paidS_like hl, hl.good] at this; exact this, fun G W h hl => by have := implRaisePrices_any G W h; rw [raisedS_like hl, paidS_like hl, hl.good] at this; exact this⟩
  unfold raisedS paidS
  by_cases hg : S.good = true
  · rw [if_pos hg, if_pos hg]
    obtain ⟨n, hn, hn8, hm8, _, _, _⟩ := good_n hg
    refine ⟨by rw [pricesK_len]; omega, ?_⟩
    have := places_len (fun r => decide (r = 0)) (restsS S (pricesK S S.n.toNat S.n.toNat) 1) S.f.t.con.length
    omega
  · rw [if_neg hg, if_neg hg]; simp
end Go.Proofs.Ytffjlecibpmgiaa
