/- The clients that go to the follower and the votes of a site, as the model has them. Condition: a valid Field, sets of its sites. -/
import Derived.Test.YtfiijfgclfoeoaaTakenImpl
namespace Go.Proofs.Ytfiijfgclfoeoaa
open Go.RowKit

set_option maxRecDepth 8000 in
set_option maxHeartbeats 1500000 in
theorem l9Votes_any (F : Fld) (a b : Nat) (w : World) (hF : F.At w) (hg : F.good = true) (ha : a < F.o.l.length) (hb : b < F.o.l.length) :
    Calls Try.prog 30 #[.agg #[.slice F.o.a F.o.l.length F.o.c, .slice F.t.a F.t.R.length F.t.c], .int .i64 (a : Int), .int .i64 (b : Int)] w fun e w' => e = .returned (.int .i64 ((votes F.t.con a b : Nat) : Int)) ∧ Below w.heap.size w w' := by
  obtain ⟨wA, hA, hbA, bx, hFA, hszA⟩ := laid_fld F w 29 hF
  have hsz := good_sizes hg
  have HROW := Lib.hid (fun (r : Row) (hr : r ∈ F.t.R) => (good_row hg hr).1)
  have hni : (F.t.R.length : Int) ≤ 7 := by omega
  have hoi : F.o.l.length ≤ 7 := hsz.2.1
  have HTA := Lib.hid hFA.2
  have HBX := Lib.hid bx
  have HA : Hid (wA = w.alloc (Obj.cells #[.slice F.o.a F.o.l.length F.o.c, .slice F.t.a F.t.R.length F.t.c] 29)) := Lib.hid hA
  have HBA := Lib.hid hbA
  obtain ⟨P, hP⟩ : ∃ P, P = takeP [b] [a] := ⟨_, rfl⟩
  have HP : Hid (∀ l : List Int, P l = decide (l.getD a 0 < l.getD b 0)) := Lib.hid fun l => by rw [hP]; exact takeP_one a b l
  have HV : Hid (votes F.t.con a b = (picks P F.t.con F.t.R.length).length) := Lib.hid (by unfold votes taken; rw [con_length, hP])
  obtain ⟨n, hn⟩ : ∃ n, n = F.t.R.length := ⟨_, rfl⟩
  have HNN := Lib.hid hn
  have HB0 : Hid (Below wA.heap.size wA (w.alloc (Obj.cells #[.slice F.o.a F.o.l.length F.o.c, .slice F.t.a n F.t.c] 29))) := Lib.hid (by rw [hn, ← HA.out]; exact Below.refl _ _)
  rw [HV.out, ← hn]
  rw [← hn] at hni
  clear hF hg hA hbA bx hFA hszA hsz hP hn
  go_enter Try.func30, Try.ntmps30
  go_wp2
  go_loopw [7, 8] (fun mv jv wr => ∃ k : Nat, k ≤ n ∧ jv = .int .i64 k ∧ mv = .int .i64 ((picks P F.t.con k).length : Int) ∧ Below wA.heap.size wA wr) (fun _ jv _ => n - (intOf jv).toNat)
  case atStart => exact ⟨0, Nat.zero_le _, rfl, rfl, HB0.out⟩
  case round =>
    obtain ⟨k, hk, rfl, rfl, hnx⟩ := hrel
    have y1 : wr.cell? ⟨w.heap.size, 1, none⟩ = some (.slice F.t.a n F.t.c) := by rw [HNN.out]; exact (HBX.out.on hnx).c1
    have hpl := picks_len P F.t.con k
    obtain ⟨z, hz⟩ : ∃ z, z = (picks P F.t.con k).length := ⟨_, rfl⟩
    rw [← hz] at hpl ⊢
    have HZ := Lib.hid hz
    clear hz
    by_cases hlt : k < n
    · have hlti : (k : Int) < (n : Int) := by omega
      obtain ⟨b0, o0, x, hta, hcl, hxa, hxl, hxm⟩ := tab_cellsT HTA.out hnx (by rw [← HNN.out]; exact hlt : k < F.t.R.length)
      have hxn := HROW.out x hxm
      obtain ⟨xb, xo, hxa1, hca, hcb⟩ : ∃ b1 o1, x.a = some ⟨b1, o1, none⟩ ∧ wr.cell? ⟨b1, o1 + a, none⟩ = some (.int .i64 (x.l.getD a 0)) ∧ wr.cell? ⟨b1, o1 + b, none⟩ = some (.int .i64 (x.l.getD b 0)) := by
        rcases hxa.2.2 with h3 | ⟨b1, o1, h5, h6, hc5⟩
        · have := congrArg List.length (iv_nil h3); rw [List.length_nil] at this; omega
        · exact ⟨b1, o1, h5, by rw [hc5 a _ (iv_at (by omega)), getD_at (by omega)], by rw [hc5 b _ (iv_at (by omega)), getD_at (by omega)]⟩
      obtain ⟨ya, hya⟩ : ∃ y, y = x.l.getD a 0 := ⟨_, rfl⟩
      obtain ⟨yb, hyb⟩ : ∃ y, y = x.l.getD b 0 := ⟨_, rfl⟩
      have hPx : P (F.t.con.getD k []) = decide (ya < yb) := by rw [hxl, HP.out, hya, hyb]
      rw [← hya] at hca
      rw [← hyb] at hcb
      rw [hxa1] at hcl
      rw [hta] at y1
      obtain ⟨xn, hxn'⟩ : ∃ q, q = x.l.length := ⟨_, rfl⟩
      rw [← hxn'] at hcl
      have hai : (a : Int) < (xn : Int) := by omega
      have hbi : (b : Int) < (xn : Int) := by omega
      have hxi : (xn : Int) ≤ 7 := by omega
      have HNX := Lib.hid hnx
      have hszr := hnx.size
      clear hta hxa hxl hxm hxa1 hya hyb hxn hxn' hnx
      by_cases hlt2 : ya < yb
      · have HE : Hid ((picks P F.t.con (k + 1)).length = z + 1) := Lib.hid (by rw [picks_yes (by rw [hPx, decide_eq_true hlt2]), List.length_append, ← HZ.out]; rfl)
        clear hPx
        go_wp2
        go_quiet (fail)
        have HN2 := Lib.hid (HNX.out.trans ((below_draws wr nq).mono hszr))
        clear hca hcb hcl y1
        go_wp2
        go_roundw
        case rel => exact ⟨k + 1, by omega, by go_num, by rw [HE.out]; go_num, HN2.out⟩
        case measure => simp [intOf]; omega
      · have HE : Hid ((picks P F.t.con (k + 1)).length = z) := Lib.hid (by rw [picks_no (by rw [hPx, decide_eq_false hlt2]), ← HZ.out])
        clear hPx
        go_wp2
        go_quiet (fail)
        have HN2 := Lib.hid (HNX.out.trans ((below_draws wr nq).mono hszr))
        clear hca hcb hcl y1
        go_wp2
        go_roundw
        case rel => exact ⟨k + 1, by omega, by go_num, by rw [HE.out], HN2.out⟩
        case measure => simp [intOf]; omega
    · obtain rfl : k = n := by omega
      have HBW := Lib.hid (HBA.out.trans (hnx.mono HBA.out.size))
      clear hnx
      go_wp2
      go_ret
      exact ⟨by rw [HZ.out]; rfl, HBW.out⟩

set_option maxRecDepth 16000 in
set_option maxHeartbeats 1500000 in
theorem l9Taken_any (F : Fld) (s t : Row) (T U : List Nat) (w : World) (hF : F.At w) (hg : F.good = true) (hs : s.At w) (hT : s.l = up T) (h0 : 0 < T.length) (hTb : ∀ m ∈ T, m < F.o.l.length) (ht : t.At w) (hU : t.l = up U) (hUb : ∀ m ∈ U, m < F.o.l.length) :
    Calls Try.prog 44 #[.agg #[.slice F.o.a F.o.l.length F.o.c, .slice F.t.a F.t.R.length F.t.c], .slice s.a s.l.length s.c, .slice t.a t.l.length t.c] w fun e w' => ∃ y : Row, e = .returned (.slice y.a y.l.length y.c) ∧ y.l = taken F.t.con T U ∧ y.Own 3 w' ∧ y.In w.heap.size w'.heap.size w' ∧ Below w.heap.size w w' := by
  obtain ⟨i0, hi, hz0, hz1, hz2⟩ := info_parts infoInt
  obtain ⟨wA, hA, hbA, bx, hFA, hszA⟩ := laid_fld F w 29 hF
  have hsz := good_sizes hg
  have hni : (F.t.R.length : Int) ≤ 7 := by omega
  have HBX := Lib.hid bx
  have HA : Hid (wA = w.alloc (Obj.cells #[.slice F.o.a F.o.l.length F.o.c, .slice F.t.a F.t.R.length F.t.c] 29)) := Lib.hid hA
  have HBA := Lib.hid hbA
  obtain ⟨P, hP⟩ : ∃ P, P = takeP T U := ⟨_, rfl⟩
  have HV : Hid (taken F.t.con T U = picks P F.t.con F.t.R.length) := Lib.hid (by unfold taken; rw [con_length, hP])
  have CT := Lib.hid (fun (k : Nat) (hk : k < F.t.R.length) W (h : Below wA.heap.size wA W) => l2Nearest_any F s T k W (hFA.on h) ((hs.on hbA).on h) hg hT h0 hTb hk)
  have CU := Lib.hid (fun (h00 : 0 < U.length) (k : Nat) (hk : k < F.t.R.length) W (h : Below wA.heap.size wA W) => l2Nearest_any F t U k W (hFA.on h) ((ht.on hbA).on h) hg hU h00 hUb hk)
  have HPN := Lib.hid (fun (h00 : 0 < U.length) (l : List Int) => by rw [hP]; exact takeP_near h00 l : 0 < U.length → ∀ l : List Int, P l = decide (l.getD (near l U) 0 < l.getD (near l T) 0))
  have HP0 := Lib.hid (fun (h00 : U.length = 0) (k : Nat) => by rw [hP, show U = [] from List.eq_nil_of_length_eq_zero h00]; exact picks_nil (fun l => takeP_nil T l) k : U.length = 0 → ∀ k, picks P F.t.con k = [])
  have htn : t.l.length = U.length := by rw [hU, up_length]
  have hti : (t.l.length : Int) ≤ 9223372036854775807 := by obtain ⟨q1, q2, _⟩ := ht; rw [iv_length] at q1; unfold maxLen at q2; omega
  obtain ⟨un, hun⟩ : ∃ u, u = t.l.length := ⟨_, rfl⟩
  rw [← hun] at CU htn hti ⊢
  have HUN := Lib.hid htn
  obtain ⟨n, hn⟩ : ∃ n, n = F.t.R.length := ⟨_, rfl⟩
  have HNN := Lib.hid hn
  have HO0 := Lib.hid (empty_own wA)
  have HB0 := Lib.hid (below_alloc wA (.cells #[] 3))
  have HSZ := Lib.hid hszA
  rw [HV.out]
  rw [← hn] at hni HA ⊢
  have HROW : Hid (∀ (k : Nat) (hk : k < n), F.t.con.getD k [] = (F.t.R[k]'(by rw [← HNN.out]; exact hk)).l) := Lib.hid (by
    intro k hk
    have hk2 : k < F.t.R.length := by rw [← hn]; exact hk
    rw [List.getD_eq_getElem?_getD, List.getElem?_eq_getElem (by rw [con_length]; exact hk2), Option.getD_some, con_at F.t hk2])
  clear hF hg hA hbA bx hFA hszA hsz hP hn hs hT h0 hTb ht hU hUb htn hun
  go_enter Try.func44, Try.ntmps44
  go_wp2_with fail
  rw [← HA.out]
  go_wp2
  go_loopw [7, 8] (fun out jv wr => ∃ k : Nat, k ≤ n ∧ jv = .int .i64 k ∧ wr.ownsRow wA.heap.size 3 1 out (picks P F.t.con k).length (iv (picks P F.t.con k)) ∧ Below wA.heap.size wA wr) (fun _ jv _ => n - (intOf jv).toNat)
  case atStart => exact ⟨0, Nat.zero_le _, rfl, by have := HO0.out; rw [HSZ.out] at this ⊢; exact this, HB0.out⟩
  case round =>
    obtain ⟨k, hk, rfl, hown0, hnx⟩ := hrel
    have y0 : wr.cell? ⟨w.heap.size, 0, none⟩ = some (.slice F.o.a F.o.l.length F.o.c) := (HBX.out.on hnx).c0
    have y1 : wr.cell? ⟨w.heap.size, 1, none⟩ = some (.slice F.t.a n F.t.c) := by rw [HNN.out]; exact (HBX.out.on hnx).c1
    have hlt0 := (HBX.out.on hnx).lt
    have hpl := picks_len P F.t.con k
    have hszr := hnx.size
    by_cases hlt : k < n
    · have hlti : (k : Int) < (n : Int) := by omega
      by_cases hu0 : 0 < un
      · have hu0i : (un : Int) > 0 := by omega
        have h00 : 0 < U.length := by have := HUN.out; omega
        obtain ⟨x, hx⟩ : ∃ x, x = (F.t.R[k]'(by rw [← HNN.out]; exact hlt)).l.getD (near (F.t.R[k]'(by rw [← HNN.out]; exact hlt)).l U) 0 := ⟨_, rfl⟩
        obtain ⟨z, hz⟩ : ∃ z, z = (F.t.R[k]'(by rw [← HNN.out]; exact hlt)).l.getD (near (F.t.R[k]'(by rw [← HNN.out]; exact hlt)).l T) 0 := ⟨_, rfl⟩
        have HPK : Hid (P (F.t.con.getD k []) = decide (x < z)) := Lib.hid (by rw [HPN.out h00, HROW.out k hlt, hx, hz])
        have C1 := Lib.hid (fun u (hu : Below wr.heap.size wr u) => by have := CU.out h00 k (by rw [← HNN.out]; exact hlt) u (hnx.trans (hu.mono hszr)); rw [← hx] at this; unfold Fld.val Row.val Tab.val at this; rw [← HNN.out] at this; exact this)
        have C2 := Lib.hid (fun u (hu : Below wr.heap.size wr u) => by have := CT.out k (by rw [← HNN.out]; exact hlt) u (hnx.trans (hu.mono hszr)); rw [← hz] at this; unfold Fld.val Row.val Tab.val at this; rw [← HNN.out] at this; exact this)
        have HS : Hid (∀ u, Below wr.heap.size wr u → ((u.cell? ⟨w.heap.size, 0, none⟩ = some (.slice F.o.a F.o.l.length F.o.c) ∧ u.cell? ⟨w.heap.size, 1, none⟩ = some (.slice F.t.a n F.t.c)) ∧ Below wr.heap.size wr u)) := Lib.hid fun u hu => ⟨⟨(hu.cell (p := ⟨w.heap.size, 0, none⟩) hlt0).trans y0, (hu.cell (p := ⟨w.heap.size, 1, none⟩) hlt0).trans y1⟩, hu⟩
        have s0 := HS.out wr.drew (Below.refl _ _).drew
        have HO := Lib.hid hown0
        have HN := Lib.hid hnx
        clear hx hz hown0 hnx
        go_wp2
        go_region_held3 (fun u => ((u.cell? ⟨w.heap.size, 0, none⟩ = some (.slice F.o.a F.o.l.length F.o.c) ∧ u.cell? ⟨w.heap.size, 1, none⟩ = some (.slice F.t.a n F.t.c)) ∧ Below wr.heap.size wr u)) (first | exact s0 | exact keep_reg HS.out (by first | assumption | exact And.right (by assumption)) hb1) (first | (go_at_call 62; with_reducible change Calls _ _ #[_, _, .slice t.a un t.c] _ _; refine (show Calls _ _ _ _ _ from C1.out _ (by first | assumption | exact And.right (by assumption))).mono ?_; rintro e u1 ⟨rfl, hb1⟩) | (go_at_call 62; with_reducible change Calls _ _ #[_, _, .slice s.a s.l.length s.c] _ _; refine (show Calls _ _ _ _ _ from C2.out _ (by first | assumption | exact And.right (by assumption))).mono ?_; rintro e u1 ⟨rfl, hb1⟩))
        refine at_exit (W := wr) (by first | assumption | exact And.right (by assumption)) ?_
        intro W8 hb8
        have hown := owns_below HO.out hb8
        have hnx1 := HN.out.trans (hb8.mono hszr)
        have hsz8 := hb8.size
        clear s0 hb8 y0 y1
        by_cases hxz : x < z
        · have HE : Hid (picks P F.t.con (k + 1) = picks P F.t.con k ++ [(k : Int)]) := Lib.hid (picks_yes (by rw [HPK.out, decide_eq_true hxz]))
          have HX2 := Lib.hid hnx1
          clear hnx1
          go_wp2_with (at_builtin; refine wpList_append_own _ rfl _ _ 22 rfl wA.heap.size 3 i0 (.int .i64 0) 1 8 Try.underlying22 hi hz0 hz1 hz2 rfl (by decide) _ _ _ rfl (hown.alloc _) ⟨W8.heap.size, 0, none⟩ 1 1 [.int .i64 (k : Int)] rfl rfl (one_cell _ _ _) (by simp [Value.oneCell']) (by unfold maxLen; omega) (by omega) (by simp; omega) ?_; intro v' w1 hown' hgrow _)
          have R1 : w1.ownsRow wA.heap.size 3 1 v' (picks P F.t.con (k + 1)).length (iv (picks P F.t.con (k + 1))) := by rw [HE.out]; exact own_snoc rfl hown'
          have R2 : Below wA.heap.size wA w1 := (HX2.out.alloc (by omega) _).grown hgrow (by simp; omega) (fun j hj => (hown.lt j hj).1)
          clear hown' hgrow hown
          go_wp2
          go_roundw
          case rel => exact ⟨k + 1, by omega, by go_num, R1, R2⟩
          case measure => simp [intOf]; omega
        · have HE : Hid (picks P F.t.con (k + 1) = picks P F.t.con k) := Lib.hid (picks_no (by rw [HPK.out, decide_eq_false hxz]))
          have HOW := Lib.hid hown
          clear hown
          go_wp2
          go_roundw
          case rel => exact ⟨k + 1, by omega, by go_num, by rw [HE.out]; exact HOW.out, hnx1⟩
          case measure => simp [intOf]; omega
      · obtain rfl : un = 0 := by omega
        have HEND : Hid (picks P F.t.con n = picks P F.t.con k) := Lib.hid (by rw [HP0.out HUN.out.symm, HP0.out HUN.out.symm])
        have HO := Lib.hid (row_of_own hown0)
        have HBW := Lib.hid (HBA.out.trans (hnx.mono HBA.out.size))
        have hszw := HBA.out.size
        clear hown0 hnx
        go_wp2
        go_ret
        obtain ⟨y, hy, hyl, hyo, hyi⟩ := HO.out
        exact ⟨y, congrArg Ending.returned hy, by rw [hyl, HEND.out], hyo, hyi.wide hszw (Nat.le_refl _), HBW.out⟩
    · obtain rfl : k = n := by omega
      have HO := Lib.hid (row_of_own hown0)
      have HBW := Lib.hid (HBA.out.trans (hnx.mono HBA.out.size))
      have hszw := HBA.out.size
      clear hown0 hnx
      go_wp2
      go_ret
      obtain ⟨y, hy, hyl, hyo, hyi⟩ := HO.out
      exact ⟨y, congrArg Ending.returned hy, hyl, hyo, hyi.wide hszw (Nat.le_refl _), HBW.out⟩
end Go.Proofs.Ytfiijfgclfoeoaa
