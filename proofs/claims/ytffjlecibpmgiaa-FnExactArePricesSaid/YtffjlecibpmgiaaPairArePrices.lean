/- Both sides of ArePrices answer alike. Condition: System and prices read as such. -/
import Derived.Test.YtffjlecibpmgiaaSetRests
import Derived.Test.YtffjlecibpmgiaaPairCoveredBy
namespace Go.Proofs.Ytffjlecibpmgiaa
open Go.RowKit Go.Shelf

set_option maxHeartbeats 600000 in
theorem l2RowM_any (r : Row) (n : Nat) (m : Int) (w : World) (hr : r.At w) :
    Calls Try.prog 61 #[.slice r.a r.l.length r.c, .int .i64 n, .int .i64 m] w fun e w' => e = .returned (.bool (r.l.all (upTo m) && decide (r.l.length = n))) ∧ w' = w := by
  obtain ⟨a, c, l⟩ := r
  obtain ⟨h1, h2, h3⟩ := hr
  simp only at h1 h2 h3 ⊢
  rw [iv_length] at h1
  unfold maxLen at h2
  have hni : (l.length : Int) ≤ 9223372036854775807 := by omega
  have HR := Lib.hid h3
  clear h3
  have ci := Lib.hid fun x W => l1In_any x 0 m W
  go_enter Try.func61, Try.ntmps61
  go_wp2
  go_loopw [7] (fun i wr => ∃ k : Nat, k ≤ l.length ∧ i = .int .i64 k ∧ w = wr ∧ (l.take k).all (upTo m) = true) (fun i _ => l.length - (intOf i).toNat)
  case atStart => exact ⟨0, Nat.zero_le _, rfl, rfl, by simp⟩
  case round =>
    obtain ⟨k, hk, rfl, rfl, hall⟩ := hrel
    have HALL := Lib.hid hall
    clear hall
    by_cases hlt : k < l.length
    · have hlti : (k : Int) < (l.length : Int) := by omega
      rcases HR.out with h3 | ⟨b, o, rfl, hb, hcell⟩
      · have h3' := congrArg List.length (iv_nil h3); rw [List.length_nil] at h3'; omega
      obtain ⟨x, hx⟩ : ∃ x, x = l[k] := ⟨_, rfl⟩
      have hcl : w.cell? ⟨b, o + k, none⟩ = some (.int .i64 x) := by rw [hx]; exact hcell k _ (iv_at hlt)
      have HX := Lib.hid hx
      clear hx hcell
      by_cases hp : upTo m x = true
      · have hp' : (decide (0 ≤ x) && decide (x ≤ m)) = true := hp
        have ci1 := Lib.hid (fun W => by have := ci.out x W; rw [hp'] at this; exact this : ∀ W, Calls Try.prog 60 #[.int .i64 x, .int .i64 0, .int .i64 m] W fun e w' => e = .returned (.bool true) ∧ w' = W)
        have HS : Hid ((l.take (k + 1)).all (upTo m) = true) := Lib.hid (all_take hlt HALL.out (by rw [← HX.out]; exact hp))
        clear hp hp'
        go_wp2_with fail
        refine (ci1.out _).mono ?_
        rintro e W ⟨rfl, rfl⟩
        go_wp2
        go_roundw
        case rel => exact ⟨k + 1, by omega, by go_num, by first | rfl | trivial, HS.out⟩
        case measure => simp [intOf]; omega
      · have hp1 : upTo m x = false := by simpa using hp
        have hp' : (decide (0 ≤ x) && decide (x ≤ m)) = false := hp1
        have ci1 := Lib.hid (fun W => by have := ci.out x W; rw [hp'] at this; exact this : ∀ W, Calls Try.prog 60 #[.int .i64 x, .int .i64 0, .int .i64 m] W fun e w' => e = .returned (.bool false) ∧ w' = W)
        have HS : Hid (l.all (upTo m) = false) := Lib.hid (all_out hlt (by rw [← HX.out]; exact hp1))
        clear hp hp' hp1
        go_wp2_with fail
        refine (ci1.out _).mono ?_
        rintro e W ⟨rfl, rfl⟩
        go_wp2
        go_ret
        exact ⟨by rw [HS.out]; rfl, rfl⟩
    · obtain rfl : k = l.length := by omega
      have HS := Lib.hid (all_end HALL.out)
      go_wp2
      go_ret
      exact ⟨by rw [HS.out, Bool.true_and, ← nat_eqB]; rfl, rfl⟩


/-- Not below 0. -/
def notNeg (x : Int) : Bool := decide (0 ≤ x)
theorem neg_any (x : Int) (w : World) :
    Calls Try.prog 64 #[.int .i64 x] w fun e w' => e = .returned (.bool (!notNeg x)) ∧ w' = w := by
  by_cases h : x < 0
  · have hu : notNeg x = false := by unfold notNeg; simp; omega
    rw [hu]
    clear hu
    go_enter Try.func64, Try.ntmps64
    go_wp2
    go_ret
    exact ⟨by simp, rfl⟩
  · have hu : notNeg x = true := by unfold notNeg; simp; omega
    rw [hu]
    clear hu
    go_enter Try.func64, Try.ntmps64
    go_wp2
    go_ret
    exact ⟨by simp, rfl⟩

set_option maxHeartbeats 600000 in
theorem indexNeg_any (r : Row) (w : World) (hr : r.At w) :
    Calls Try.prog 88 #[.slice r.a r.l.length r.c, .func (.func 64) #[] #[]] w fun e w' => (∃ i : Int, e = .returned (.int .i64 i) ∧ decide (0 ≤ i) = !r.l.all (notNeg)) ∧ w' = w := by
  obtain ⟨a, c, l⟩ := r
  obtain ⟨h1, h2, h3⟩ := hr
  simp only at h1 h2 h3 ⊢
  rw [iv_length] at h1
  unfold maxLen at h2
  have hni : (l.length : Int) ≤ 9223372036854775807 := by omega
  have HR := Lib.hid h3
  have CO := Lib.hid fun x => neg_any x w
  clear h3
  show Calls _ _ #[_, .func (.func 64) #[] #[]] _ _
  go_enter Try.func88, Try.ntmps88
  go_wp2
  go_loopw [8] (fun i wr => ∃ k : Nat, k ≤ l.length ∧ i = .int .i64 k ∧ w = wr ∧ (l.take k).all (notNeg) = true) (fun i _ => l.length - (intOf i).toNat)
  case atStart => exact ⟨0, Nat.zero_le _, rfl, rfl, by simp⟩
  case round =>
    obtain ⟨k, hk, rfl, rfl, hall⟩ := hrel
    have HALL := Lib.hid hall
    clear hall
    by_cases hlt : k < l.length
    · have hlti : (k : Int) < (l.length : Int) := by omega
      rcases HR.out with h3 | ⟨b, o, rfl, hb, hcell⟩
      · have h3' := congrArg List.length (iv_nil h3); rw [List.length_nil] at h3'; omega
      obtain ⟨x, hx⟩ : ∃ x, x = l[k] := ⟨_, rfl⟩
      have hcl : w.cell? ⟨b, o + k, none⟩ = some (.int .i64 x) := by rw [hx]; exact hcell k _ (iv_at hlt)
      have HX := Lib.hid hx
      clear hx hcell
      by_cases hp : notNeg x = true
      · have ci1 := Lib.hid (by have := CO.out x; rw [hp] at this; exact this : Calls Try.prog 64 #[.int .i64 x] w fun e w' => e = .returned (.bool false) ∧ w' = w)
        have HS : Hid ((l.take (k + 1)).all (notNeg) = true) := Lib.hid (all_take hlt HALL.out (by rw [← HX.out]; exact hp))
        clear hp
        go_wp2_with fail
        refine ci1.out.mono ?_
        rintro e W ⟨rfl, rfl⟩
        go_wp2
        go_roundw
        case rel => exact ⟨k + 1, by omega, by go_num, by first | rfl | trivial, HS.out⟩
        case measure => simp [intOf]; omega
      · have hp1 : notNeg x = false := by simpa using hp
        have ci1 := Lib.hid (by have := CO.out x; rw [hp1] at this; exact this : Calls Try.prog 64 #[.int .i64 x] w fun e w' => e = .returned (.bool true) ∧ w' = w)
        have HS : Hid (l.all (notNeg) = false) := Lib.hid (all_out hlt (by rw [← HX.out]; exact hp1))
        clear hp hp1
        go_wp2_with fail
        refine ci1.out.mono ?_
        rintro e W ⟨rfl, rfl⟩
        go_wp2
        go_ret
        exact ⟨⟨(k : Int), rfl, by rw [HS.out]; simp⟩, rfl⟩
    · obtain rfl : k = l.length := by omega
      have HS := Lib.hid (all_end HALL.out)
      go_wp2
      go_ret
      exact ⟨⟨-1, rfl, by rw [HS.out]; rfl⟩, rfl⟩

theorem containsNeg_any (r : Row) (w : World) (hr : r.At w) :
    Calls Try.prog 65 #[.slice r.a r.l.length r.c, .func (.func 64) #[] #[]] w fun e w' => e = .returned (.bool (!r.l.all (notNeg))) ∧ w' = w := by
  have CI := Lib.hid (indexNeg_any r w hr)
  clear hr
  go_enter Try.func65, Try.ntmps65
  go_wp2_with fail
  refine CI.out.mono ?_
  rintro e W ⟨⟨i, rfl, hi⟩, rfl⟩
  have HI := Lib.hid hi
  clear hi
  go_wp2
  go_ret
  exact ⟨by rw [← HI.out]; rfl, rfl⟩


theorem pricesS_iff {S : Sys} {p : List Int} {z : Int} {v u : Bool} {n : Nat} (hv : v = S.good) (hn : v = true → S.n = n) (hu : u = (p.all (upTo 1000000) && decide (p.length = n))) : pricesS S p z = (v && u && fromTo 1 1000000 z) := by
  unfold pricesS
  rw [← hv]
  cases v with
  | false => simp
  | true =>
    rw [hn rfl, hu]
    have : decide ((p.length : Int) = (n : Int)) = decide (p.length = n) := by rw [Bool.eq_iff_iff]; simp; omega
    rw [this]

set_option maxRecDepth 16000 in
set_option maxHeartbeats 2000000 in
theorem specArePrices_any (S : Sys) (p : Row) (z : Int) (w : World) (hS : S.At w) (hp : p.At w) (l b : Bool) (h : (pricesS S p.l z = false ∧ l = false ∧ b = false) ∨ (pricesS S p.l z = true ∧ l = fairS S p.l z ∧ b = true)) :
    Calls Try.prog 31 #[.agg #[.int .i64 S.n, .slice S.f.t.a S.f.t.R.length S.f.t.c, .slice S.f.o.a S.f.o.l.length S.f.o.c], .slice p.a p.l.length p.c, .int .i64 z] w (PBool2 l b w) := by
  obtain ⟨wA, hA, hb, bx, hSA, hszA⟩ := laid_sys S w 28 hS
  have x0 := bx.c0
  have x1 := bx.c1
  have x2 := bx.c2
  rw [hA] at x0 x1 x2
  have HSA := Lib.hid hSA
  have HPA := Lib.hid (hp.on hb)
  have HBX := Lib.hid bx
  have HA := Lib.hid hA
  obtain ⟨v, hv⟩ : ∃ v, v = S.good := ⟨_, rfl⟩
  have CG := l6Good_any S wA hSA
  rw [← hv] at CG
  have CG1 := Lib.hid CG
  obtain ⟨n, hn⟩ : ∃ n : Nat, v = true → S.n = n := by
    cases v with
    | false => exact ⟨0, fun h => by cases h⟩
    | true => obtain ⟨n, h1, _⟩ := good_n hv.symm; exact ⟨n, fun _ => h1⟩
  obtain ⟨u, hu⟩ : ∃ u, u = (p.l.all (upTo 1000000) && decide (p.l.length = n)) := ⟨_, rfl⟩
  have CR := Lib.hid (fun W (hW : Below wA.heap.size wA W) => by have := l2RowM_any p n 1000000 W (HPA.out.on hW); rw [← hu] at this; exact this : ∀ W, Below wA.heap.size wA W → Calls Try.prog 61 #[.slice p.a p.l.length p.c, .int .i64 n, .int .i64 1000000] W fun e w' => e = .returned (.bool u) ∧ w' = W)
  obtain ⟨s, hs⟩ : ∃ s, s = fromTo 1 1000000 z := ⟨_, rfl⟩
  have CI := Lib.hid (fun W => by have := l1In_any z 1 1000000 W; rw [show (decide (1 ≤ z) && decide (z ≤ 1000000)) = s from hs.symm] at this; exact this : ∀ W, Calls Try.prog 60 #[.int .i64 z, .int .i64 1, .int .i64 1000000] W fun e w' => e = .returned (.bool s) ∧ w' = W)
  have HPS : Hid (pricesS S p.l z = (v && u && s)) := Lib.hid (by rw [hs]; exact pricesS_iff hv hn hu)
  have HH := Lib.hid h
  have HNN := Lib.hid hn
  have HGG := Lib.hid hv
  clear hS hp bx hSA hA hv hu hs CG h hn
  unfold PBool2
  go_enter Try.func31, Try.ntmps31
  go_wp2_with fail
  rw [← HA.out]
  refine (show Calls _ _ _ _ _ from CG1.out).mono ?_
  rintro e W1 ⟨rfl, hb1⟩
  have hbw := hb.trans (hb1.mono hb.size)
  have HB1 := Lib.hid hb1
  have y0 := (HBX.out.on hb1).c0
  clear x0 x1 x2 hb1
  cases v with
  | false =>
    have HE : Hid (l = false ∧ b = false) := Lib.hid (by rcases HH.out with h | h; exact h.2; rw [HPS.out] at h; exact absurd h.1 (by simp))
    go_wp2
    go_ret2
    exact ⟨by rw [HE.out.1, HE.out.2]; rfl, hbw⟩
  | true =>
    have hSn := HNN.out rfl
    have CR1 := Lib.hid (CR.out W1 HB1.out)
    rw [hSn] at y0
    clear hSn
    go_wp2_with fail
    refine (show Calls _ _ _ _ _ from CR1.out).mono ?_
    rintro e W ⟨rfl, rfl⟩
    cases u with
    | false =>
      have HE : Hid (l = false ∧ b = false) := Lib.hid (by rcases HH.out with h | h; exact h.2; rw [HPS.out] at h; exact absurd h.1 (by simp))
      go_wp2
      go_ret2
      exact ⟨by rw [HE.out.1, HE.out.2]; rfl, hbw⟩
    | true =>
      go_wp2_with fail
      refine (show Calls _ _ _ _ _ from CI.out _).mono ?_
      rintro e W ⟨rfl, rfl⟩
      cases s with
      | false =>
        have HE : Hid (l = false ∧ b = false) := Lib.hid (by rcases HH.out with h | h; exact h.2; rw [HPS.out] at h; exact absurd h.1 (by simp))
        go_wp2
        go_ret2
        exact ⟨by rw [HE.out.1, HE.out.2]; rfl, hbw⟩
      | true =>
        have HE : Hid (l = fairS S p.l z ∧ b = true) := Lib.hid (by rcases HH.out with h | h; rw [HPS.out] at h; exact absurd h.1 (by simp); exact h.2)
        obtain ⟨hg, ⟨n2, hn2, hP⟩, hz1, hz2⟩ := pricesN_of (show pricesS S p.l z = true by rw [HPS.out]; rfl)
        obtain ⟨m, hm, hm8, hR8, hoR, hcost, hset⟩ := good_n hg
        obtain rfl : m = n2 := by omega
        have hcl := con_length S.f.t
        have hRi : (S.f.t.R.length : Int) ≤ 8 := by omega
        have hOi : (S.f.o.l.length : Int) ≤ 8 := by omega
        have HOL : Hid (S.f.o.l.length = S.f.t.R.length) := Lib.hid (by omega)
        have HCL := Lib.hid hcl
        have HPN := Lib.hid hP
        have HCO := Lib.hid hcost
        have HSE := Lib.hid hset
        have HZ : Hid (1 ≤ z ∧ z ≤ 1000000) := Lib.hid ⟨hz1, hz2⟩
        have y1 := (HBX.out.on HB1.out).c1
        clear hg hn2 hP hz1 hz2 hm hcost hset hcl hoR hR8
        go_wp2
        go_loopw [8] (fun i wr => ∃ k : Nat, k ≤ S.f.t.R.length ∧ i = .int .i64 k ∧ Below W.heap.size W wr ∧ ((restsS S p.l z).take k).all (fun r => decide (0 ≤ r)) = true) (fun i _ => S.f.t.R.length - (intOf i).toNat)
        case atStart => exact ⟨0, Nat.zero_le _, rfl, Below.refl _ _, by simp⟩
        case round =>
          obtain ⟨k, hk, rfl, hnx, hall⟩ := hrel
          have HALL := Lib.hid hall
          have HBA : Hid (Below wA.heap.size wA wr) := Lib.hid (HB1.out.trans (hnx.mono HB1.out.size))
          clear hall
          have z1 := (HBX.out.on HBA.out).c1
          have z2 := (HBX.out.on HBA.out).c2
          by_cases hlt : k < S.f.t.R.length
          · have hlti : (k : Int) < (S.f.t.R.length : Int) := by omega
            have hlto : k < S.f.o.l.length := by have := HOL.out; omega
            have hltoi : (k : Int) < (S.f.o.l.length : Int) := by omega
            obtain ⟨bt, ot, r, hta, hcr, hrat, hrl, hrm⟩ := tab_cells HSA.out.2 HBA.out hlt
            obtain ⟨bo, oo, hoa, hoc⟩ := intAt_cells HSA.out.1 HBA.out (k := k) hlto
            obtain ⟨x, hx⟩ : ∃ x, x = S.f.o.l.getD k 0 := ⟨_, rfl⟩
            have hxb : 1 ≤ x ∧ x ≤ 99 := by
              rw [hx, List.getD_eq_getElem?_getD, List.getElem?_eq_getElem hlto, Option.getD_some]
              exact HCO.out _ (List.getElem_mem _)
            rw [← hx] at hoc
            have hset := HSE.out r.l (List.mem_map.2 ⟨r, hrm, rfl⟩)
            have hz := HZ.out
            have hm0 : 0 ≤ x * z := Int.mul_nonneg (by omega) (by omega)
            have hm1 : x * z ≤ 99 * 1000000 := Int.mul_le_mul hxb.2 hz.2 (by omega) (by omega)
            have e1 : -9223372036854775808 ≤ x * z := by omega
            have e2 : x * z ≤ 9223372036854775807 := by omega
            obtain ⟨q, hq⟩ : ∃ q, q = (prOf p.l r.l).sum := ⟨_, rfl⟩
            have CP := Lib.hid (fun d => by
              have := l6Priced_any r p m (wr.drewN d) (hrat.on (below_draws wr d)) ((HPA.out.on HBA.out).on (below_draws wr d)) hset hm8 HPN.out
              rw [← hq] at this; exact this)
            have HR : Hid (restS S p.l z k = x * z - q) := Lib.hid (by unfold restS; rw [← hx, hrl, hq])
            have HG : Hid ((restsS S p.l z)[k]'(by rw [restsS_len, HCL.out]; exact hlt) = restS S p.l z k) := Lib.hid (restsS_get _ _ _ (by rw [HCL.out]; exact hlt))
            have hkl : k < (restsS S p.l z).length := by rw [restsS_len, HCL.out]; exact hlt
            rw [hta] at z1
            rw [hoa] at z2
            by_cases hc : x * z < q
            · have HS : Hid (fairS S p.l z = false) := Lib.hid (all_out hkl (by rw [HG.out, HR.out]; simp; omega))
              clear hta hoa hx hset hq hrl hrm hrat hz hxb hkl
              go_wp2
              go_quiet ((go_at_call 62; exact Calls.quiet_of_same (CP.out _)))
              go_wp2
              go_ret2
              exact ⟨by rw [HE.out.1, HE.out.2, HS.out]; rfl, hb.trans ((HBA.out.trans ((below_draws wr _).mono HBA.out.size)).mono hb.size)⟩
            · have HS : Hid (((restsS S p.l z).take (k + 1)).all (fun r => decide (0 ≤ r)) = true) := Lib.hid (all_take hkl HALL.out (by rw [HG.out, HR.out]; simp; omega))
              have HNX := Lib.hid hnx
              clear hta hoa hx hset hq hrl hrm hrat hz hxb hkl
              go_wp2
              go_quiet ((go_at_call 62; exact Calls.quiet_of_same (CP.out _)))
              have R2 := HNX.out.trans ((below_draws wr nq).mono HNX.out.size)
              go_wp2
              go_roundw
              case rel => exact ⟨k + 1, by omega, by go_num, R2, HS.out⟩
              case measure => simp [intOf]; omega
          · obtain rfl : k = S.f.t.R.length := by omega
            have HS : Hid (fairS S p.l z = true) := Lib.hid (all_end (by rw [restsS_len, HCL.out]; exact HALL.out))
            go_wp2
            go_ret2
            exact ⟨by rw [HE.out.1, HE.out.2, HS.out]; rfl, hb.trans (HBA.out.mono hb.size)⟩

set_option maxRecDepth 16000 in
set_option maxHeartbeats 2000000 in
theorem implArePrices_any (S : Sys) (p : Row) (z : Int) (w : World) (hS : S.At w) (hp : p.At w) (l b : Bool) (h : (pricesS S p.l z = false ∧ l = false ∧ b = false) ∨ (pricesS S p.l z = true ∧ l = fairS S p.l z ∧ b = true)) :
    Calls Try.prog 32 #[.agg #[.int .i64 S.n, .slice S.f.t.a S.f.t.R.length S.f.t.c, .slice S.f.o.a S.f.o.l.length S.f.o.c], .slice p.a p.l.length p.c, .int .i64 z] w (PBool2 l b w) := by
  obtain ⟨wA, hA, hb, bx, hSA, hszA⟩ := laid_sys S w 28 hS
  have x0 := bx.c0
  have x1 := bx.c1
  have x2 := bx.c2
  rw [hA] at x0 x1 x2
  have HSA := Lib.hid hSA
  have HPA := Lib.hid (hp.on hb)
  have HBX := Lib.hid bx
  have HA := Lib.hid hA
  obtain ⟨v, hv⟩ : ∃ v, v = S.good := ⟨_, rfl⟩
  have CG := implIsSystem_any S wA hSA
  rw [← hv] at CG
  have CG1 := Lib.hid CG
  have HH := Lib.hid h
  have HGG := Lib.hid hv
  have hpi : (p.l.length : Int) ≤ 9223372036854775807 := by obtain ⟨q1, q2, _⟩ := hp; rw [iv_length] at q1; unfold maxLen at q2; omega
  obtain ⟨u, hu⟩ : ∃ u, u = p.l.all (upTo 1000000) := ⟨_, rfl⟩
  have CR := Lib.hid (fun W (hW : Below wA.heap.size wA W) => by have := allWithinM_any 1000000 p W (HPA.out.on hW); rw [← hu] at this; exact this : ∀ W, Below wA.heap.size wA W → Calls Try.prog 63 #[.slice p.a p.l.length p.c, .int .i64 1000000] W fun e w' => e = .returned (.bool u) ∧ Below W.heap.size W w')
  have HPS : Hid (pricesS S p.l z = (v && (u && decide ((p.l.length : Int) = S.n)) && fromTo 1 1000000 z)) := Lib.hid (by unfold pricesS; rw [hv, hu])
  clear hS hp bx hSA hA hv hu CG h
  unfold PBool2
  go_enter Try.func32, Try.ntmps32
  go_wp2_with fail
  rw [← HA.out]
  refine (show Calls _ _ _ _ _ from CG1.out).mono ?_
  rintro e W1 ⟨rfl, hb1⟩
  have hbw := hb.trans (hb1.mono hb.size)
  have HB1 := Lib.hid hb1
  have y0 := (HBX.out.on hb1).c0
  clear x0 x1 x2 hb1
  have HNO : Hid (pricesS S p.l z = false → l = false ∧ b = false) := Lib.hid (fun hn => by rcases HH.out with h | h; exact h.2; rw [hn] at h; exact absurd h.1 (by simp))
  cases v with
  | false =>
    have HE := Lib.hid (HNO.out (by rw [HPS.out]; rfl))
    go_wp2
    go_ret2
    exact ⟨by rw [HE.out.1, HE.out.2]; rfl, hbw⟩
  | true =>
    by_cases hpn : (p.l.length : Int) = S.n
    · have hne : ((p.l.length : Int) != S.n) = false := by rw [hpn]; simp
      have HPN := Lib.hid hpn
      have CR1 := Lib.hid (CR.out W1 HB1.out)
      clear hpn
      go_wp2_with fail
      refine (show Calls _ _ _ _ _ from CR1.out).mono ?_
      rintro e W2 ⟨rfl, hb2⟩
      have hbw2 := hbw.trans (hb2.mono hbw.size)
      have HB2 : Hid (Below wA.heap.size wA W2) := Lib.hid (HB1.out.trans (hb2.mono HB1.out.size))
      clear hb2 y0
      cases u with
      | false =>
        have HE := Lib.hid (HNO.out (by rw [HPS.out]; rfl))
        go_wp2
        go_ret2
        exact ⟨by rw [HE.out.1, HE.out.2]; rfl, hbw2⟩
      | true =>
        by_cases hz1 : z < 1
        · have HE := Lib.hid (HNO.out (by rw [HPS.out, show fromTo 1 1000000 z = false by unfold fromTo; rw [Bool.and_eq_false_iff]; left; simp; omega]; simp))
          go_wp2
          go_ret2
          exact ⟨by rw [HE.out.1, HE.out.2]; rfl, hbw2⟩
        by_cases hz2 : 1000000 < z
        · have HE := Lib.hid (HNO.out (by rw [HPS.out, show fromTo 1 1000000 z = false by unfold fromTo; rw [Bool.and_eq_false_iff]; right; simp; omega]; simp))
          go_wp2
          go_ret2
          exact ⟨by rw [HE.out.1, HE.out.2]; rfl, hbw2⟩
        have hPS : pricesS S p.l z = true := by rw [HPS.out, decide_eq_true HPN.out, show fromTo 1 1000000 z = true from fromTo_iff.2 ⟨by omega, by omega⟩]; rfl
        have HE : Hid (l = fairS S p.l z ∧ b = true) := Lib.hid (by rcases HH.out with h | h; rw [hPS] at h; exact absurd h.1 (by simp); exact h.2)
        obtain ⟨hg, ⟨n, hn, hP⟩, hz3, hz4⟩ := pricesN_of hPS
        have CS := Lib.hid fun W (hW : Below wA.heap.size wA W) => setRests_any S p z n W (Sys.At.on (show S.At wA from HSA.out) hW) (HPA.out.on hW) hg hn hP (by omega) hz4
        have CS1 := Lib.hid (CS.out W2 HB2.out)
        have bx2 := HBX.out.on HB2.out
        have z0 := bx2.c0
        have z1 := bx2.c1
        have z2 := bx2.c2
        clear hPS hg hn hP hz3 hz4 bx2
        go_wp2_with fail
        refine (show Calls _ _ _ _ _ from CS1.out).mono ?_
        rintro e W3 ⟨t, rfl, htl, -, hti, hb3⟩
        have CN := containsNeg_any t W3 hti.at
        rw [htl] at CN
        have HF : Hid (fairS S p.l z = (restsS S p.l z).all notNeg) := Lib.hid rfl
        obtain ⟨f, hf⟩ : ∃ f, f = (restsS S p.l z).all notNeg := ⟨_, rfl⟩
        rw [← hf] at CN HF
        rw [← htl] at CN
        have CN1 := Lib.hid CN
        have hbw3 := hbw2.trans (hb3.mono hbw2.size)
        clear CN htl hti hb3 z0 z1 z2 hf
        go_wp2_with fail
        refine (show Calls _ _ _ _ _ from CN1.out).mono ?_
        rintro e W ⟨rfl, rfl⟩
        go_wp2
        go_ret2
        exact ⟨by rw [HE.out.1, HE.out.2, HF.out]; simp, hbw3⟩
    · have hne : ((p.l.length : Int) != S.n) = true := by simp [hpn]
      have HE := Lib.hid (HNO.out (by rw [HPS.out, decide_eq_false hpn]; simp))
      clear hpn
      go_wp2
      go_ret2
      exact ⟨by rw [HE.out.1, HE.out.2]; rfl, hbw⟩

theorem arePrices_pair (S : Sys) (p : Row) (z : Int) (_ : (Lit.int .i64 z).wf = true) (_ : S.Small) (_ : p.l.length ≤ 1048576) : ∃ (v : Bool) (b : Bool),
    (∀ (G : Sys) (t : Row) (W : World), G.At W → t.At W → G.Like S → t.l = p.l → Calls Try.prog 31 #[.agg #[.int .i64 G.n, .slice G.f.t.a G.f.t.R.length G.f.t.c, .slice G.f.o.a G.f.o.l.length G.f.o.c], .slice t.a t.l.length t.c, .int .i64 z] W (PBool2 v b W)) ∧
    (∀ (G : Sys) (t : Row) (W : World), G.At W → t.At W → G.Like S → t.l = p.l → Calls Try.prog 32 #[.agg #[.int .i64 G.n, .slice G.f.t.a G.f.t.R.length G.f.t.c, .slice G.f.o.a G.f.o.l.length G.f.o.c], .slice t.a t.l.length t.c, .int .i64 z] W (PBool2 v b W)) := by
  by_cases h : pricesS S p.l z = true
  · refine ⟨fairS S p.l z, true, fun G t W hG ht hl hs => specArePrices_any G t z W hG ht _ _ ?_, fun G t W hG ht hl hs => implArePrices_any G t z W hG ht _ _ ?_⟩
    all_goals exact .inr ⟨by rw [pricesS_like hl, hs]; exact h, by rw [fairS_like hl, hs], rfl⟩
  · have h' : pricesS S p.l z = false := by simpa using h
    refine ⟨false, false, fun G t W hG ht hl hs => specArePrices_any G t z W hG ht _ _ ?_, fun G t W hG ht hl hs => implArePrices_any G t z W hG ht _ _ ?_⟩
    all_goals exact .inl ⟨by rw [pricesS_like hl, hs]; exact h', rfl, rfl⟩
end Go.Proofs.Ytffjlecibpmgiaa
