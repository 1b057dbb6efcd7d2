/- Plans: whether a set may be that of a round, and whether a table is a plan, on both sides. Condition: the arguments read as such. -/
import Derived.Test.YtifgmbljimfebaaPairIsSeason
import Derived.Test.YtifgmbljimfebaaSets
namespace Go.Proofs.Ytifgmbljimfebaa
open Go.RowKit

/-- Whether a set of n sites may be open when some clients come. -/
def canB (n : Nat) (l : List Int) (d : List (List Int)) : Bool := setB n l && (decide (0 < l.length) || decide (d.length = 0))
def planB (n : Nat) (r : List (List (List Int))) (p : List (List Int)) : Bool := decide (p.length = r.length) && (List.range p.length).all fun i => canB n (p.getD i []) (r.getD i [])
theorem planB_out {n : Nat} {r : List (List (List Int))} {p : List (List Int)} {i : Nat} (h : i < p.length) (hc : canB n (p.getD i []) (r.getD i []) = false) : planB n r p = false := by
  have : (List.range p.length).all (fun i => canB n (p.getD i []) (r.getD i [])) = false := by
    rw [List.all_eq_false]; exact ⟨i, List.mem_range.2 h, by simpa using hc⟩
  unfold planB; rw [this, Bool.and_false]
theorem getD_con {T : Tab} {k : Nat} (h : k < T.R.length) : T.con.getD k [] = T.R[k].l := by rw [List.getD_eq_getElem?_getD, List.getElem?_eq_getElem (by rw [con_length]; exact h), Option.getD_some, con_at T h]
theorem getD_cube {K : Cube} {k : Nat} (h : k < K.T.length) : K.con.getD k [] = K.T[k].con := by rw [List.getD_eq_getElem?_getD, List.getElem?_eq_getElem (by rw [Cube.con_length]; exact h), Option.getD_some]; simp [Cube.con]

set_option maxHeartbeats 1000000 in
theorem l10May_any (S : Sea) (i : Nat) (s : Row) (w : World) (hS : S.At w) (hs : s.At w) (hi : i < S.r.T.length) :
    Calls Try.prog 42 #[.agg #[.slice S.o.a S.o.l.length S.o.c, .slice S.x.a S.x.l.length S.x.c, .slice S.k.a S.k.l.length S.k.c, .slice S.r.a S.r.T.length S.r.c], .int .i64 i, .slice s.a s.l.length s.c] w fun e w' => e = .returned (.bool (canB S.o.l.length s.l (S.r.con.getD i []))) ∧ Below w.heap.size w w' := by
  obtain ⟨wA, hA, hbA, bx, hSA, hszA⟩ := laid_sea S w 31 hS
  obtain ⟨b, o, t, ha, hcl, htA, hte⟩ := cube_cells hSA.2.2.2 (Below.refl _ _) hi
  have HD : Hid (S.r.con.getD i [] = t.con) := Lib.hid (by rw [getD_cube hi, ← hte])
  rw [HD.out]
  have hni := rowLim' hS.1
  have hsi := rowLim' hs
  have hti := tabLim htA
  have hKi := cubeLim hS.2.2.2
  have hii : (i : Int) < (S.r.T.length : Int) := by omega
  obtain ⟨v, hv⟩ : ∃ v, v = setB S.o.l.length s.l := ⟨_, rfl⟩
  have CR := rising_any s S.o.l.length wA (hs.on hbA) hni
  rw [← hv] at CR
  have CR1 := Lib.hid CR
  have x0 := bx.c0
  rw [hA] at x0
  have x3 := bx.c3
  rw [ha] at x3
  have HX : Hid (∀ d, (wA.drewN d).cell? ⟨w.heap.size, 3, none⟩ = some (.slice (some ⟨b, o, none⟩) S.r.T.length S.r.c) ∧ (wA.drewN d).cell? ⟨b, o + i, none⟩ = some (.slice t.a t.R.length t.c)) := Lib.hid fun d => ⟨x3, hcl⟩
  have HA := Lib.hid hA
  obtain ⟨m, hm⟩ : ∃ m, m = s.l.length := ⟨_, rfl⟩
  have HV : Hid (canB S.o.l.length s.l t.con = (v && (decide (0 < m) || decide (t.R.length = 0)))) := Lib.hid (by unfold canB; rw [hv, con_length, hm])
  rw [← hm] at CR1 hsi ⊢
  clear hS hs hA bx hSA hszA ha hcl htA hte hi hv CR x3 HD hm
  go_enter Try.func42, Try.ntmps42
  go_wp2_with fail
  rw [← HA.out]
  refine (show Calls _ _ _ _ _ from CR1.out).mono ?_
  rintro e W ⟨rfl, d, rfl⟩
  have hbW := hbA.trans ((below_draws wA d).mono hbA.size)
  clear x0
  cases v with
  | false =>
    go_wp2
    go_ret
    exact ⟨by rw [HV.out]; rfl, hbW⟩
  | true =>
    by_cases h0 : 0 < m
    · have hgt : (m : Int) > 0 := by omega
      have hgt' : (0 : Int) < (m : Int) := by omega
      have HE : Hid (canB S.o.l.length s.l t.con = true) := Lib.hid (by rw [HV.out, decide_eq_true h0]; rfl)
      go_wp2
      go_ret
      exact ⟨by rw [HE.out]; rfl, hbW⟩
    · obtain ⟨g3, gc⟩ := HX.out d
      have HE : Hid (canB S.o.l.length s.l t.con = decide (t.R.length = 0)) := Lib.hid (by rw [HV.out, decide_eq_false h0]; rfl)
      have HQ : Hid (((t.R.length : Int) == 0) = decide (t.R.length = 0)) := Lib.hid (nat_eqB t.R.length 0)
      obtain rfl : m = 0 := by omega
      clear h0
      go_wp2
      go_ret
      exact ⟨by rw [HE.out, ← HQ.out]; rfl, hbW⟩

set_option maxHeartbeats 1000000 in
theorem canBeOpen_any (S : Sea) (s : Row) (t : Tab) (w : World) (hS : S.At w) (hs : s.At w) (ht : t.At w) :
    Calls Try.prog 94 #[.agg #[.slice S.o.a S.o.l.length S.o.c, .slice S.x.a S.x.l.length S.x.c, .slice S.k.a S.k.l.length S.k.c, .slice S.r.a S.r.T.length S.r.c], .slice s.a s.l.length s.c, .slice t.a t.R.length t.c] w fun e w' => e = .returned (.bool (canB S.o.l.length s.l t.con)) ∧ Below w.heap.size w w' := by
  obtain ⟨wA, hA, hbA, bx, hSA, hszA⟩ := laid_sea S w 31 hS
  have hni := rowLim' hS.1
  have hsi := rowLim' hs
  have hti := tabLim ht
  obtain ⟨v, hv⟩ : ∃ v, v = setB S.o.l.length s.l := ⟨_, rfl⟩
  have CR := ascends_any s S.o.l.length wA (hs.on hbA) hni
  rw [← hv] at CR
  have CR1 := Lib.hid CR
  have x0 := bx.c0
  rw [hA] at x0
  have HA := Lib.hid hA
  obtain ⟨m, hm⟩ : ∃ m, m = s.l.length := ⟨_, rfl⟩
  have HV : Hid (canB S.o.l.length s.l t.con = (v && (decide (0 < m) || decide (t.R.length = 0)))) := Lib.hid (by unfold canB; rw [hv, con_length, hm])
  rw [← hm] at CR1 hsi ⊢
  clear hS hs hA bx hSA hszA ht hv CR hm
  go_enter Try.func94, Try.ntmps94
  go_wp2_with fail
  rw [← HA.out]
  refine (show Calls _ _ _ _ _ from CR1.out).mono ?_
  rintro e W ⟨rfl, rfl⟩
  clear x0
  cases v with
  | false =>
    go_wp2
    go_ret
    exact ⟨by rw [HV.out]; rfl, hbA⟩
  | true =>
    by_cases h0 : 0 < m
    · have hgt : (m : Int) > 0 := by omega
      have hgt' : (0 : Int) < (m : Int) := by omega
      have HE : Hid (canB S.o.l.length s.l t.con = true) := Lib.hid (by rw [HV.out, decide_eq_true h0]; rfl)
      go_wp2
      go_ret
      exact ⟨by rw [HE.out]; rfl, hbA⟩
    · have HE : Hid (canB S.o.l.length s.l t.con = decide (t.R.length = 0)) := Lib.hid (by rw [HV.out, decide_eq_false h0]; rfl)
      have HQ : Hid (((t.R.length : Int) == 0) = decide (t.R.length = 0)) := Lib.hid (nat_eqB t.R.length 0)
      obtain rfl : m = 0 := by omega
      clear h0
      go_wp2
      go_ret
      exact ⟨by rw [HE.out, ← HQ.out]; rfl, hbA⟩

/-- A Season in a box and a table beside it, in every later world. -/
structure SeaTab (S : Sea) (P : Tab) (g B : Nat) (u : World) : Prop where
  box : Box4 u g (.slice S.o.a S.o.l.length S.o.c) (.slice S.x.a S.x.l.length S.x.c) (.slice S.k.a S.k.l.length S.k.c) (.slice S.r.a S.r.T.length S.r.c) 31
  sea : S.At u
  tab : P.At u
theorem SeaTab.on {S : Sea} {P : Tab} {g B : Nat} {u u' : World} (h : SeaTab S P g B u) (hb : Below u.heap.size u u') : SeaTab S P g B u' := ⟨h.box.on hb, h.sea.on hb, h.tab.on hb⟩

set_option maxRecDepth 32000 in
set_option maxHeartbeats 1500000 in
theorem l10Plan_any (S : Sea) (P : Tab) (w : World) (hS : S.At w) (hP : P.At w) :
    Calls Try.prog 36 #[.agg #[.slice S.o.a S.o.l.length S.o.c, .slice S.x.a S.x.l.length S.x.c, .slice S.k.a S.k.l.length S.k.c, .slice S.r.a S.r.T.length S.r.c], .slice P.a P.R.length P.c] w fun e w' => e = .returned (.bool (planB S.o.l.length S.r.con P.con)) ∧ Below w.heap.size w w' := by
  obtain ⟨wA, hA, hbA, bx, hSA, hszA⟩ := laid_sea S w 31 hS
  obtain ⟨K, hK⟩ : ∃ K, K = S.r.T.length := ⟨_, rfl⟩
  obtain ⟨M, hM⟩ : ∃ M, M = P.R.length := ⟨_, rfl⟩
  obtain ⟨n, hn⟩ : ∃ n, n = S.o.l.length := ⟨_, rfl⟩
  obtain ⟨pa, hpa⟩ : ∃ a, a = P.a := ⟨_, rfl⟩
  have hKi : (K : Int) ≤ 9223372036854775807 := by rw [hK]; exact cubeLim hS.2.2.2
  have hMi : (M : Int) ≤ 9223372036854775807 := by rw [hM]; exact tabLim hP
  have HH : Hid (∀ u, Below wA.heap.size wA u → SeaTab S P w.heap.size 0 u) := Lib.hid fun u hu => ⟨bx.on hu, hSA.on hu, (hP.on hbA).on hu⟩
  have HA : Hid (wA = w.alloc (Obj.cells #[.slice S.o.a n S.o.c, .slice S.x.a S.x.l.length S.x.c, .slice S.k.a S.k.l.length S.k.c, .slice S.r.a K S.r.c] 31)) := Lib.hid (by rw [hn, hK]; exact hA)
  have x3 := bx.c3
  rw [hA, ← hn, ← hK] at x3
  have HK := Lib.hid hK
  have HM := Lib.hid hM
  have HN := Lib.hid hn
  have HPA := Lib.hid hpa
  have HV : Hid (∀ j, j < M → j < K → canB n (P.con.getD j []) (S.r.con.getD j []) = false → planB n S.r.con P.con = false) := Lib.hid fun j h1 _ h3 => planB_out (by rw [con_length, ← hM]; exact h1) h3
  have HV2 : Hid (∀ v, (∀ j, j < M → j < K → canB n (P.con.getD j []) (S.r.con.getD j []) = true) → ((M : Int) == (K : Int)) = v → planB n S.r.con P.con = v) := Lib.hid fun v h1 h2 => by
    rw [nat_eqB] at h2
    unfold planB
    rw [con_length, Cube.con_length, ← hM, ← hK]
    by_cases h : M = K
    · rw [decide_eq_true h] at h2 ⊢
      rw [← h2, Bool.true_and, List.all_eq_true]
      intro j hj
      have := List.mem_range.1 hj
      exact h1 j this (by omega)
    · rw [decide_eq_false h] at h2 ⊢
      rw [← h2]; rfl
  rw [← hn, ← hK, ← hM, ← hpa]
  clear hS hP hA bx hSA hszA hK hM hn hpa
  go_enter Try.func36, Try.ntmps36
  go_wp2_with fail
  go_loopw [5] (fun i wr => ∃ k : Nat, k ≤ M ∧ i = .int .i64 k ∧ Below wA.heap.size wA wr ∧ Hid (∀ j, j < k → j < K → canB n (P.con.getD j []) (S.r.con.getD j []) = true)) (fun i _ => M - (intOf i).toNat)
  case atStart => exact ⟨0, Nat.zero_le _, rfl, by rw [HA.out]; exact Below.refl _ _, Lib.hid fun j hj _ => absurd hj (Nat.not_lt_zero _)⟩
  case round =>
    obtain ⟨k, hk, rfl, hnx, HALL⟩ := hrel
    clear x3
    have hh := HH.out wr hnx
    have HBW := Lib.hid (hbA.trans (hnx.mono hbA.size))
    have y3 : wr.cell? ⟨w.heap.size, 3, none⟩ = some (.slice S.r.a K S.r.c) := by rw [HK.out]; exact hh.box.c3
    by_cases hlt : k < M
    · have hlti : (k : Int) < (M : Int) := by omega
      by_cases hltK : k < K
      · have hltKi : (k : Int) < (K : Int) := by omega
        have y0 : wr.cell? ⟨w.heap.size, 0, none⟩ = some (.slice S.o.a n S.o.c) := by rw [HN.out]; exact hh.box.c0
        have y1 := hh.box.c1
        have y2 := hh.box.c2
        obtain ⟨b, o, r, ha, hcl, hrA, hre⟩ := tab_cell hh.tab (show k < P.R.length by rw [← HM.out]; exact hlt)
        have HR : Hid (P.con.getD k [] = r.l) := Lib.hid (by rw [getD_con (by rw [← HM.out]; exact hlt), ← hre])
        have hpa' : pa = some ⟨b, o, none⟩ := HPA.out.trans ha
        obtain ⟨v, hv⟩ : ∃ v, v = canB n r.l (S.r.con.getD k []) := ⟨_, rfl⟩
        have CM : Hid (∀ u, Below wr.heap.size wr u → Calls Try.prog 42 #[.agg #[.slice S.o.a n S.o.c, .slice S.x.a S.x.l.length S.x.c, .slice S.k.a S.k.l.length S.k.c, .slice S.r.a K S.r.c], .int .i64 k, .slice r.a r.l.length r.c] u fun e w' => e = .returned (.bool v) ∧ Below u.heap.size u w') := Lib.hid fun u hu => by
          rw [hv, HN.out, HK.out]; exact l10May_any S k r u (hh.sea.on hu) (hrA.on hu) (by rw [← HK.out]; exact hltK)
        have HVV := Lib.hid hv
        have HNX := Lib.hid hnx
        clear hh hre hrA hv ha hnx
        subst hpa'
        go_wp2_with fail
        go_still_tail 6, (by kernel_rfl)
        change wpList _ _ _ _ _ wr.drew
        obtain ⟨Wd, hWd⟩ : ∃ u, u = wr.drew := ⟨_, rfl⟩
        have hbd : Below wr.heap.size wr Wd := by rw [hWd]; exact (Below.refl _ _).drew
        rw [← hWd]
        have CM1 := Lib.hid (CM.out Wd hbd)
        have HBD := Lib.hid hbd
        clear hWd hbd y0 y1 y2 y3 hcl
        go_wp2_with fail
        refine (show Calls _ _ _ _ _ from CM1.out).mono ?_
        rintro e W2 ⟨rfl, hb2⟩
        have HB2 := Lib.hid (HBD.out.trans (hb2.mono HBD.out.size))
        clear hb2
        cases v with
        | false =>
          have HE : Hid (planB n S.r.con P.con = false) := Lib.hid (HV.out k hlt hltK (by rw [HR.out]; exact HVV.out.symm))
          go_wp2
          go_ret
          exact ⟨by rw [HE.out]; rfl, HBW.out.trans (HB2.out.mono HBW.out.size)⟩
        | true =>
          have R2 := HNX.out.trans (HB2.out.mono HNX.out.size)
          have R3 : Hid (∀ j, j < k + 1 → j < K → canB n (P.con.getD j []) (S.r.con.getD j []) = true) := Lib.hid fun j hj hjK => by
            by_cases h : j < k
            · exact HALL.out j h hjK
            · obtain rfl : j = k := by omega
              rw [HR.out]; exact HVV.out.symm
          go_wp2
          go_roundw
          case rel => exact ⟨k + 1, by omega, by go_num, R2, R3⟩
          case measure => simp [intOf]; omega
      · have hltKi : ¬ (k : Int) < (K : Int) := by omega
        obtain ⟨v, hv⟩ : ∃ v, v = ((M : Int) == (K : Int)) := ⟨_, rfl⟩
        have HE : Hid (planB n S.r.con P.con = ((M : Int) == (K : Int))) := Lib.hid (HV2.out _ (fun j h1 h2 => HALL.out j (by omega) h2) rfl)
        clear hh hnx hv
        go_wp2
        go_ret
        exact ⟨by rw [HE.out]; rfl, HBW.out⟩
    · obtain rfl : k = M := by omega
      have HE : Hid (planB n S.r.con P.con = ((k : Int) == (K : Int))) := Lib.hid (HV2.out _ (fun j h1 h2 => HALL.out j h1 h2) rfl)
      clear hh hnx
      go_wp2
      go_ret
      exact ⟨by rw [HE.out]; rfl, HBW.out⟩

set_option maxRecDepth 32000 in
set_option maxHeartbeats 2000000 in
theorem implIsPlan_any (S : Sea) (P : Tab) (w : World) (hS : S.At w) (hP : P.At w) :
    Calls Try.prog 82 #[.agg #[.slice S.o.a S.o.l.length S.o.c, .slice S.x.a S.x.l.length S.x.c, .slice S.k.a S.k.l.length S.k.c, .slice S.r.a S.r.T.length S.r.c], .slice P.a P.R.length P.c] w fun e w' => e = .returned (.tuple #[.bool (S.good && planB S.o.l.length S.r.con P.con), .bool S.good]) ∧ Below w.heap.size w w' := by
  obtain ⟨wA, hA, hbA, bx, hSA, hszA⟩ := laid_sea S w 31 hS
  obtain ⟨K, hK⟩ : ∃ K, K = S.r.T.length := ⟨_, rfl⟩
  obtain ⟨M, hM⟩ : ∃ M, M = P.R.length := ⟨_, rfl⟩
  obtain ⟨pa, hpa⟩ : ∃ a, a = P.a := ⟨_, rfl⟩
  obtain ⟨ra, hra⟩ : ∃ a, a = S.r.a := ⟨_, rfl⟩
  have hKi : (K : Int) ≤ 9223372036854775807 := by rw [hK]; exact cubeLim hS.2.2.2
  have hMi : (M : Int) ≤ 9223372036854775807 := by rw [hM]; exact tabLim hP
  have x0 := bx.c0
  have x1 := bx.c1
  have x2 := bx.c2
  have x3 := bx.c3
  rw [hA, ← hK] at x0 x1 x2 x3
  have HA : Hid (wA = w.alloc (Obj.cells #[.slice S.o.a S.o.l.length S.o.c, .slice S.x.a S.x.l.length S.x.c, .slice S.k.a S.k.l.length S.k.c, .slice S.r.a K S.r.c] 31)) := Lib.hid (by rw [hK]; exact hA)
  have HH : Hid (∀ u, Below wA.heap.size wA u → SeaTab S P w.heap.size 0 u) := Lib.hid fun u hu => ⟨bx.on hu, hSA.on hu, (hP.on hbA).on hu⟩
  have HK := Lib.hid hK
  have HM := Lib.hid hM
  have HPA := Lib.hid hpa
  have HRA := Lib.hid hra
  obtain ⟨v, hv⟩ : ∃ v, v = S.good := ⟨_, rfl⟩
  have CG : Hid (Calls Try.prog 31 #[.agg #[.slice S.o.a S.o.l.length S.o.c, .slice S.x.a S.x.l.length S.x.c, .slice S.k.a S.k.l.length S.k.c, .slice S.r.a K S.r.c]] wA fun e w' => e = .returned (.bool v) ∧ Below wA.heap.size wA w') := Lib.hid (by rw [hK, hv]; exact implIsSeason_any S wA hSA)
  have HV : Hid (∀ j, j < M → canB S.o.l.length (P.con.getD j []) (S.r.con.getD j []) = false → planB S.o.l.length S.r.con P.con = false) := Lib.hid fun j h1 h3 => planB_out (by rw [con_length, ← hM]; exact h1) h3
  have HV0 : Hid (M ≠ K → planB S.o.l.length S.r.con P.con = false) := Lib.hid fun h => by
    unfold planB; rw [con_length, Cube.con_length, ← hM, ← hK, decide_eq_false h]; rfl
  have HV2 : Hid (M = K → (∀ j, j < M → canB S.o.l.length (P.con.getD j []) (S.r.con.getD j []) = true) → planB S.o.l.length S.r.con P.con = true) := Lib.hid fun h h1 => by
    unfold planB
    rw [con_length, Cube.con_length, ← hM, ← hK, decide_eq_true h, Bool.true_and, List.all_eq_true]
    intro j hj
    exact h1 j (List.mem_range.1 hj)
  obtain ⟨q, hq⟩ : ∃ q, q = planB S.o.l.length S.r.con P.con := ⟨_, rfl⟩
  rw [← hq] at HV HV0 HV2
  rw [← hv, ← hq, ← hK, ← hM, ← hpa]
  clear hS hP hA bx hSA hszA hK hM hpa hra hv hq
  go_enter Try.func82, Try.ntmps82
  go_wp2_with fail
  rw [← HA.out]
  refine (show Calls _ _ _ _ _ from CG.out).mono ?_
  rintro e W1 ⟨rfl, hb1⟩
  have HB1 := Lib.hid hb1
  have HBW := Lib.hid (hbA.trans (hb1.mono hbA.size))
  have y3 : W1.cell? ⟨w.heap.size, 3, none⟩ = some (.slice S.r.a K S.r.c) := by rw [HK.out]; exact (HH.out W1 hb1).box.c3
  clear x0 x1 x2 x3 hb1
  cases v with
  | false =>
    go_wp2
    go_ret2
    exact ⟨rfl, HBW.out⟩
  | true =>
    by_cases hMK : M = K
    · have hne : ((M : Int) != (K : Int)) = false := by rw [nat_neB, decide_eq_true hMK]; rfl
      have HMK := Lib.hid hMK
      clear hMK
      go_wp2_with fail
      clear y3 hne
      go_loopw [6, 7, 19] (fun _ _ i wr => ∃ k : Nat, k ≤ M ∧ i = .int .i64 k ∧ Below W1.heap.size W1 wr ∧ Hid (∀ j, j < k → canB S.o.l.length (P.con.getD j []) (S.r.con.getD j []) = true)) (fun _ _ i _ => M - (intOf i).toNat)
      case atStart => exact ⟨0, Nat.zero_le _, rfl, Below.refl _ _, Lib.hid fun j hj => absurd hj (Nat.not_lt_zero _)⟩
      case round =>
        obtain ⟨k, hk, rfl, hnx, HALL⟩ := hrel
        have hh := HH.out wr (HB1.out.trans (hnx.mono HB1.out.size))
        have HBR := Lib.hid (HBW.out.trans (hnx.mono HBW.out.size))
        by_cases hlt : k < M
        · have hlti : (k : Int) < (M : Int) := by omega
          have hkK : k < S.r.T.length := by rw [← HK.out, ← HMK.out]; exact hlt
          have hltKi : (k : Int) < (K : Int) := by rw [← HMK.out]; exact hlti
          have y0 := hh.box.c0
          have y1 := hh.box.c1
          have y2 := hh.box.c2
          have y3 : wr.cell? ⟨w.heap.size, 3, none⟩ = some (.slice S.r.a K S.r.c) := by rw [HK.out]; exact hh.box.c3
          obtain ⟨b, o, r, ha, hcl, hrA, hre⟩ := tab_cell hh.tab (show k < P.R.length by rw [← HM.out]; exact hlt)
          obtain ⟨b2, o2, t, ha2, hcl2, htA, hte⟩ := cube_cells hh.sea.2.2.2 (Below.refl _ _) hkK
          have HR : Hid (P.con.getD k [] = r.l) := Lib.hid (by rw [getD_con (by rw [← HM.out]; exact hlt), ← hre])
          have HRT : Hid (S.r.con.getD k [] = t.con) := Lib.hid (by rw [getD_cube hkK, ← hte])
          have hpa' : pa = some ⟨b, o, none⟩ := HPA.out.trans ha
          obtain ⟨v, hv⟩ : ∃ v, v = canB S.o.l.length r.l t.con := ⟨_, rfl⟩
          have y3' : wr.cell? ⟨w.heap.size, 3, none⟩ = some (.slice (some ⟨b2, o2, none⟩) K S.r.c) := by rw [← ha2]; exact y3
          have CM : Hid (∀ u, Below wr.heap.size wr u → Calls Try.prog 94 #[.agg #[.slice S.o.a S.o.l.length S.o.c, .slice S.x.a S.x.l.length S.x.c, .slice S.k.a S.k.l.length S.k.c, .slice (some ⟨b2, o2, none⟩) K S.r.c], .slice r.a r.l.length r.c, .slice t.a t.R.length t.c] u fun e w' => e = .returned (.bool v) ∧ Below u.heap.size u w') := Lib.hid fun u hu => by
            rw [hv, HK.out, ← ha2]; exact canBeOpen_any S r t u (hh.sea.on hu) (hrA.on hu) (htA.on hu)
          have HVV := Lib.hid hv
          have HNX := Lib.hid hnx
          clear hh hre hrA hv ha hnx y3 ha2 htA hte hkK
          subst hpa'
          go_wp2_with fail
          go_still_tail 7, (by kernel_rfl)
          change wpList _ _ _ _ _ wr.drew
          obtain ⟨Wd, hWd⟩ : ∃ u, u = wr.drew := ⟨_, rfl⟩
          have hbd : Below wr.heap.size wr Wd := by rw [hWd]; exact (Below.refl _ _).drew
          rw [← hWd]
          have CM1 := Lib.hid (CM.out Wd hbd)
          have HBD := Lib.hid hbd
          clear hWd hbd y0 y1 y2 y3' hcl hcl2
          go_wp2_with fail
          refine (show Calls _ _ _ _ _ from CM1.out).mono ?_
          rintro e W2 ⟨rfl, hb2⟩
          have HB2 := Lib.hid (HBD.out.trans (hb2.mono HBD.out.size))
          clear hb2
          cases v with
          | false =>
            obtain rfl := HV.out k hlt (by rw [HR.out, HRT.out]; exact HVV.out.symm)
            go_wp2
            go_ret2
            exact ⟨rfl, HBR.out.trans (HB2.out.mono HBR.out.size)⟩
          | true =>
            have R2 := HNX.out.trans (HB2.out.mono HNX.out.size)
            have R3 : Hid (∀ j, j < k + 1 → canB S.o.l.length (P.con.getD j []) (S.r.con.getD j []) = true) := Lib.hid fun j hj => by
              by_cases h : j < k
              · exact HALL.out j h
              · obtain rfl : j = k := by omega
                rw [HR.out, HRT.out]; exact HVV.out.symm
            go_wp2
            go_roundw
            case rel => exact ⟨k + 1, by omega, by go_num, R2, R3⟩
            case measure => simp [intOf]; omega
        · obtain rfl : k = M := by omega
          obtain rfl := HV2.out HMK.out HALL.out
          clear hh
          go_wp2
          go_ret2
          exact ⟨rfl, HBR.out⟩
    · have hne : ((M : Int) != (K : Int)) = true := by rw [nat_neB, decide_eq_false hMK]; rfl
      obtain rfl := HV0.out hMK
      clear hMK
      go_wp2
      go_ret2
      exact ⟨rfl, HBW.out⟩
end Go.Proofs.Ytifgmbljimfebaa
