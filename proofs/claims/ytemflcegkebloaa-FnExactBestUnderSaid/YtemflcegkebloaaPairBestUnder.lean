/- BestUnder on both sides, as its law wants it. No condition. -/
import Derived.Test.YtemflcegkebloaaUnderI
namespace Go.Proofs.Ytemflcegkebloaa
open Go.RowKit

set_option maxHeartbeats 1000000 in
theorem l11Two_any (F : Fld) (a b : Int) (w : World) (hF : F.At w) :
    Calls Try.prog 27 #[F.val, .int .i64 a, .int .i64 b] w fun e w' => e = .returned (.bool (underB F a b)) ∧ Below w.heap.size w w' := by
  obtain ⟨wA, hA, hbA, bx, hFA, hszA⟩ := laid_fld F w 29 hF
  have CG := Lib.hid (l2Good_any F wA hFA)
  have CA := Lib.hid (fun W => l11Objective_any a W)
  have CB := Lib.hid (fun W => l11Objective_any b W)
  obtain ⟨g, hg⟩ : ∃ g, g = F.good := ⟨_, rfl⟩
  obtain ⟨x, hx⟩ : ∃ x, x = isObj a := ⟨_, rfl⟩
  obtain ⟨y, hy⟩ : ∃ y, y = isObj b := ⟨_, rfl⟩
  have CG1 := Lib.hid (by have := CG.out; rw [← hg] at this; exact this)
  have CA1 := Lib.hid (fun W => (by have := CA.out W; rw [show (decide (1 ≤ a) && decide (a ≤ 5)) = x from hx.symm] at this; exact this : Calls Try.prog 46 #[.int .i64 a] W fun e w' => e = .returned (.bool x) ∧ w' = W))
  have CB1 := Lib.hid (fun W => (by have := CB.out W; rw [show (decide (1 ≤ b) && decide (b ≤ 5)) = y from hy.symm] at this; exact this : Calls Try.prog 46 #[.int .i64 b] W fun e w' => e = .returned (.bool y) ∧ w' = W))
  have HE : Hid (underB F a b = ((g && x) && y)) := Lib.hid (by unfold underB; rw [hg, hx, hy]; cases F.good <;> cases isObj a <;> cases isObj b <;> rfl)
  rw [HE.out]
  have y0 := bx.c0
  have y1 := bx.c1
  rw [hA] at y0 y1
  have HA := Lib.hid hA
  clear hF hA hFA bx hg hx hy CG CA CB HE
  show Calls _ _ #[.agg #[F.o.val, F.t.val], _, _] w _
  go_enter Try.func27, Try.ntmps27
  go_wp2_with fail
  rw [← HA.out]
  refine (show Calls _ _ _ _ _ from CG1.out).mono ?_
  rintro e W ⟨rfl, hb⟩
  have HB := Lib.hid (hbA.trans (hb.mono hbA.size))
  clear y0 y1 hb
  cases g with
  | false =>
    go_wp2
    go_ret
    exact ⟨rfl, HB.out⟩
  | true =>
    go_wp2_with fail
    refine (show Calls _ _ _ _ _ from CA1.out _).mono ?_
    rintro e W1 ⟨rfl, rfl⟩
    cases x with
    | false =>
      go_wp2
      go_ret
      exact ⟨rfl, HB.out⟩
    | true =>
      go_wp2_with fail
      refine (show Calls _ _ _ _ _ from CB1.out _).mono ?_
      rintro e W2 ⟨rfl, rfl⟩
      go_wp2
      go_ret
      exact ⟨rfl, HB.out⟩

theorem firstC_step (φ : List Nat → Int) (pk : List Nat → Bool) (C : List (List Nat)) {j : Nat} (hj : j < C.length) :
    firstB φ ((C.take (j + 1)).filter pk) = if pk C[j] then stepB φ (firstB φ ((C.take j).filter pk)) C[j] else firstB φ ((C.take j).filter pk) := by
  rw [List.take_succ_eq_append_getElem hj, List.filter_append]
  cases h : pk C[j] with
  | true => simp [h, firstB, List.foldl_append]
  | false => simp [h]

set_option maxRecDepth 32000 in
set_option maxHeartbeats 2500000 in
theorem specBU_any (F : Fld) (a b lim : Int) (w : World) (hF : F.At w) (l : List Int) (v : Bool) (hv : BUIs F a b lim l v) :
    Calls Try.prog 7 #[F.val, .int .i64 a, .int .i64 b, .int .i64 lim] w (PInts l v w) := by
  obtain ⟨w0, hw0, hb0, bx0, hF0, hsz0⟩ := laid_fld F w 29 hF
  obtain ⟨wA, hA0⟩ : ∃ u, u = w0.alloc (.cells #[] 3) := ⟨_, rfl⟩
  have hb1 : Below w0.heap.size w0 wA := by rw [hA0]; exact below_alloc _ _
  have hbA : Below w.heap.size w wA := hb0.trans (hb1.mono hb0.size)
  have E0 : wA.ownsRow (w.heap.size + 1) 3 1 (.slice (some ⟨w.heap.size + 1, 0, none⟩) 0 0) ([] : List Int).length (iv []) := by rw [hA0, ← hsz0]; exact empty_own w0
  have bx := bx0.on hb1
  have hFA := hF0.on hb1
  have hszA : wA.heap.size = w.heap.size + 1 + 1 := by rw [hA0, World.size_alloc, hsz0]
  obtain ⟨y00, hy0v, hy0l, hy0o, hy0i⟩ := row_of_own E0
  have HY00 : Hid (Best1 (w.heap.size + 1) wA y00 (firstB (fun T => objV F T a) (((allSets F.o.l.length).take 0).filter (pickB F b lim)))) := Lib.hid ⟨by rw [hy0l]; rfl, hy0o, hy0i⟩
  have HYV := Lib.hid hy0v
  have HA : Hid (wA = (w.alloc (Obj.cells #[F.o.val, F.t.val] 29)).alloc (.cells #[] 3)) := Lib.hid (by rw [hA0, hw0])
  have HFA := Lib.hid hFA
  have HBX := Lib.hid bx
  have HSZ := Lib.hid hszA
  have CT := Lib.hid (l11Two_any F a b wA hFA)
  obtain ⟨g, hg⟩ : ∃ g, g = underB F a b := ⟨_, rfl⟩
  have CT1 := Lib.hid (by have := CT.out; rw [← hg] at this; exact this)
  have HG := Lib.hid hg
  have x0 := bx.c0
  have x1 := bx.c1
  rw [HA.out] at x0 x1
  have HV := Lib.hid hv
  clear hF hw0 hb0 bx0 hF0 hsz0 hA0 hb1 bx hFA hv E0 hy0v hy0l hy0o hy0i hg CT hszA
  show Calls _ _ #[.agg #[F.o.val, F.t.val], _, _, _] w _
  go_enter Try.func7, Try.ntmps7
  go_wp2_with fail
  rw [← HA.out]
  refine (show Calls _ _ _ _ _ from CT1.out).mono ?_
  rintro e W0 ⟨rfl, hbT⟩
  have HBT := Lib.hid hbT
  clear x0 x1 hbT
  cases g with
  | false =>
    obtain ⟨rfl, rfl⟩ : l = [] ∧ v = false := by
      rcases HV.out with ⟨_, h1, h2⟩ | ⟨h1, _⟩
      · exact ⟨h1, h2⟩
      · rw [← HG.out] at h1; cases h1
    go_wp2
    go_ret2
    have hB := hbA.trans (HBT.out.mono hbA.size)
    have hy := HY00.out.on HBT.out
    exact ⟨y00, congrArg (fun v => Ending.returned (.tuple #[v, .bool false])) HYV.out, hy.l, hy.own, hy.ins.wide (Nat.le_succ _) (Nat.le_refl _), hB⟩
  | true =>
    have hu : F.good = true ∧ isObj a = true ∧ isObj b = true := by
      have := HG.out.symm
      unfold underB at this
      simp only [Bool.and_eq_true] at this
      exact ⟨this.1.1, this.1.2, this.2.2⟩
    obtain ⟨hgood, hoa, hob⟩ := hu
    obtain ⟨hl, hvv⟩ : l = up (firstB (fun T => objV F T a) (underC F b lim)) ∧ v = decide (0 < l.length) := by
      rcases HV.out with ⟨h1, _⟩ | ⟨_, h1, h2⟩
      · rw [← HG.out] at h1; cases h1
      · exact ⟨h1, h2⟩
    have HKA := Lib.hid (isObj_yes hoa)
    have HKB := Lib.hid (isObj_yes hob)
    have hsz := good_sizes hgood
    have HGD := Lib.hid hgood
    obtain ⟨n, hn⟩ : ∃ n, n = F.o.l.length := ⟨_, rfl⟩
    have HN := Lib.hid hn
    have hn7 : n ≤ 7 := by omega
    have hni : (n : Int) ≤ 7 := by omega
    have CS := Lib.hid (l2Sets_any n W0 hn7)
    have HL9 : Hid (l = up (firstB (fun T => objV F T a) ((allSets n).filter (pickB F b lim)))) := Lib.hid (by rw [hn]; exact hl)
    have HVV := Lib.hid hvv
    have y0 : W0.cell? ⟨w.heap.size, 0, none⟩ = some (.slice F.o.a n F.o.c) := by rw [hn]; exact (HBX.out.on HBT.out).c0
    have HYZ : Hid (Best1 (w.heap.size + 1) wA y00 (firstB (fun T => objV F T a) (((allSets n).take 0).filter (pickB F b lim)))) := Lib.hid (by rw [hn]; exact HY00.out)
    clear hgood hoa hob hl hvv hsz hn
    go_wp2_with fail
    refine CS.out.mono ?_
    rintro e W1 ⟨v1, g, cap, Q, rfl, htab, hb1⟩
    obtain ⟨hgl, hcc, hcm, hwg⟩ := htab.lt
    obtain ⟨c, hc⟩ : ∃ c, c = 2 ^ n - 1 := ⟨_, rfl⟩
    rw [← hc] at htab hcc
    have hc7 : c ≤ 127 := by
      have : 2 ^ n ≤ 2 ^ 7 := Nat.pow_le_pow_right (by omega) hn7
      have h7 : (2 : Nat) ^ 7 = 128 := rfl
      omega
    obtain rfl := htab.val
    have HT := Lib.hid htab
    have HB1 := Lib.hid (HBT.out.trans (hb1.mono HBT.out.size))
    have HSA : Hid (setsTo n c = allSets n) := Lib.hid (by rw [hc]; exact sets_all n hn7)
    have HSL : Hid ((allSets n).length = c) := Lib.hid (by rw [← HSA.out]; exact setsTo_len n c)
    have HL : Hid (∀ i, (hi : i < c) → ∃ (hq : i < Q.length) (hs : i < (allSets n).length), Q[i].l = up (allSets n)[i] ∧ (allSets n)[i] ≠ [] ∧ (((setB n (up (allSets n)[i]) = true ∧ ∀ m ∈ (allSets n)[i], m < n)) ∧ (allSets n)[i].length ≤ 7)) := Lib.hid fun i hi => by
      have hq : i < Q.length := by rw [htab.len]; exact hi
      have hs : i < (allSets n).length := by rw [HSL.out]; exact hi
      have hr := htab.row hq
      rw [HSA.out, List.getD_eq_getElem?_getD, List.getElem?_eq_getElem hs] at hr
      exact ⟨hq, hs, hr, all_ok hn7 (List.getElem_mem hs)⟩
    have hci : (c : Int) ≤ 127 := by omega
    have HLO : Hid (w.heap.size + 1 ≤ W0.heap.size) := Lib.hid (by have := HBT.out.size; have := HSZ.out; omega)
    have HY1 := Lib.hid (HYZ.out.on HB1.out)
    clear htab hb1 hc y0
    go_wp2
    go_loopw [10, 12] (fun yv i wr => ∃ (j : Nat) (y : Row), j ≤ c ∧ i = .int .i64 j ∧ yv = .slice y.a y.l.length y.c ∧ Best1 (w.heap.size + 1) wr y (firstB (fun T => objV F T a) (((allSets n).take j).filter (pickB F b lim))) ∧ Below W1.heap.size W1 wr) (fun _ i _ => c - (intOf i).toNat)
    case atStart => exact ⟨0, y00, Nat.zero_le _, rfl, HYV.out, HY1.out, Below.refl _ _⟩
    case round =>
      obtain ⟨j, y, hj, rfl, rfl, hy, hnx⟩ := hrel
      have HNX := Lib.hid hnx
      by_cases hlt : j < c
      · have hlti : (j : Int) < (c : Int) := by omega
        obtain ⟨hjQ, hjs, hrl, hne, hok, hl7⟩ := HL.out j hlt
        have hgw : ∀ u, Below wr.heap.size wr u → Below W1.heap.size W1 u := fun u hu => hnx.trans (hu.mono hnx.size)
        obtain ⟨r, hr⟩ : ∃ r, r = Q[j] := ⟨_, rfl⟩
        obtain ⟨T, hT⟩ : ∃ T, T = (allSets n)[j] := ⟨_, rfl⟩
        obtain ⟨U, hU⟩ : ∃ U, U = firstB (fun T => objV F T a) (((allSets n).take j).filter (pickB F b lim)) := ⟨_, rfl⟩
        have hUm : U ≠ [] → U ∈ allSets n := fun h => by
          rw [hU]
          refine List.mem_of_mem_take (List.mem_filter.1 (firstB_some (φ := fun T => objV F T a) (L := ((allSets n).take j).filter (pickB F b lim)) (fun e => h (by rw [hU, e]; rfl)) (fun V hV => (all_ok hn7 (List.mem_of_mem_take (List.mem_filter.1 hV).1)).1))).1
        rw [← hr, ← hT] at hrl
        rw [← hT] at hne hok hl7
        rw [← hU] at hy
        obtain ⟨p, hp⟩ : ∃ p, p = objV F T b := ⟨_, rfl⟩
        obtain ⟨x, hx⟩ : ∃ x, x = objV F T a := ⟨_, rfl⟩
        obtain ⟨z, hz⟩ : ∃ z, z = objV F U a := ⟨_, rfl⟩
        have HRB : Hid (Best1 (w.heap.size + 1) wr r T) := Lib.hid ⟨hrl, by rw [hr]; exact (HT.out.grows.lots.1 _ (List.getElem_mem _)).on hnx, by rw [hr]; exact (((HT.out.grows.ins _ (List.getElem_mem _)).on hnx).wide HLO.out hnx.size)⟩
        have HYB := Lib.hid hy
        have HS : Hid (∀ u, Below wr.heap.size wr u → ((u.cell? ⟨g, j, none⟩ = some (.slice r.a r.l.length r.c) ∧ u.cell? ⟨w.heap.size, 0, none⟩ = some (.slice F.o.a n F.o.c) ∧ u.cell? ⟨w.heap.size, 1, none⟩ = some F.t.val) ∧ Below wr.heap.size wr u)) := Lib.hid fun u hu => ⟨⟨by rw [hr]; exact ((hgw u hu).cell (p := ⟨g, j, none⟩) hgl).trans (HT.out.cell hjQ), by rw [HN.out]; exact ((HBX.out.on HB1.out).on (hgw u hu)).c0, ((HBX.out.on HB1.out).on (hgw u hu)).c1⟩, hu⟩
        have C1 := Lib.hid (fun u (hu : Below wr.heap.size wr u) => by have := l11Value_any F r T b u ((HFA.out.on HB1.out).on (hgw u hu)) (HRB.out.on hu).ins.at (fine_all HGD.out hrl hne (by rw [← HN.out]; exact hok.2)) ⟨HGD.out, hrl, by rw [← HN.out]; exact hok.2, by omega⟩ HKB.out; rw [← hp] at this; unfold Fld.val Row.val at this; rw [← HN.out] at this; exact this : ∀ u, Below wr.heap.size wr u → Calls Try.prog 29 #[.agg #[.slice F.o.a n F.o.c, F.t.val], .slice r.a r.l.length r.c, .int .i64 b] u fun e w' => e = .returned (.int .i64 p) ∧ Below u.heap.size u w')
        have C2 := Lib.hid (fun u (hu : Below wr.heap.size wr u) => by have := l11Value_any F r T a u ((HFA.out.on HB1.out).on (hgw u hu)) (HRB.out.on hu).ins.at (fine_all HGD.out hrl hne (by rw [← HN.out]; exact hok.2)) ⟨HGD.out, hrl, by rw [← HN.out]; exact hok.2, by omega⟩ HKA.out; rw [← hx] at this; unfold Fld.val Row.val at this; rw [← HN.out] at this; exact this : ∀ u, Below wr.heap.size wr u → Calls Try.prog 29 #[.agg #[.slice F.o.a n F.o.c, F.t.val], .slice r.a r.l.length r.c, .int .i64 a] u fun e w' => e = .returned (.int .i64 x) ∧ Below u.heap.size u w')
        have C3 := Lib.hid (fun (hUn : U ≠ []) u (hu : Below wr.heap.size wr u) => by
          obtain ⟨k1, k2, k3⟩ := all_ok hn7 (hUm hUn)
          have := l11Value_any F y U a u ((HFA.out.on HB1.out).on (hgw u hu)) (HYB.out.on hu).ins.at (fine_all HGD.out HYB.out.l k1 (by rw [← HN.out]; exact k2.2)) ⟨HGD.out, HYB.out.l, by rw [← HN.out]; exact k2.2, by omega⟩ HKA.out
          rw [← hz] at this; unfold Fld.val Row.val at this; rw [← HN.out] at this; exact this : ∀ (_ : U ≠ []) u, Below wr.heap.size wr u → Calls Try.prog 29 #[.agg #[.slice F.o.a n F.o.c, F.t.val], .slice y.a y.l.length y.c, .int .i64 a] u fun e w' => e = .returned (.int .i64 z) ∧ Below u.heap.size u w')
        have HPK : Hid (pickB F b lim T = decide (p ≤ lim)) := Lib.hid (by unfold pickB; rw [← hp])
        have HST : Hid (firstB (fun T => objV F T a) (((allSets n).take (j + 1)).filter (pickB F b lim)) = if pickB F b lim T then stepB (fun T => objV F T a) U T else U) := Lib.hid (by rw [firstC_step _ _ _ hjs, ← hU, ← hT])
        have HX := Lib.hid hx
        have HZ := Lib.hid hz
        have HGW := Lib.hid hgw
        have y0 := (HS.out wr (Below.refl _ _)).1.1
        have y1 := (HS.out wr (Below.refl _ _)).1.2.1
        have y2 := (HS.out wr (Below.refl _ _)).1.2.2
        have s0 := HS.out wr.drew (Below.refl _ _).drew
        have hyn : y.l.length = U.length := by rw [hy.l, up_length]
        have HRP : Hid (∀ W8, Below wr.heap.size wr W8 → Best1 (w.heap.size + 1) W8 r T ∧ Best1 (w.heap.size + 1) W8 y U ∧ Below W1.heap.size W1 W8) := Lib.hid fun W8 h8 => ⟨HRB.out.on h8, HYB.out.on h8, hgw W8 h8⟩
        clear hr hT hU hrl hne hok hl7 hy hx hz hp hUm hnx hgw
        by_cases hple : p ≤ lim
        · have HPT : Hid (firstB (fun T => objV F T a) (((allSets n).take (j + 1)).filter (pickB F b lim)) = stepB (fun T => objV F T a) U T) := Lib.hid (by rw [HST.out, HPK.out, decide_eq_true hple]; rfl)
          by_cases hU0 : U = []
          · have hy0 : y.l.length = 0 := by rw [hyn, hU0]; rfl
            have HSS : Hid (firstB (fun T => objV F T a) (((allSets n).take (j + 1)).filter (pickB F b lim)) = T) := Lib.hid (by rw [HPT.out]; unfold stepB; rw [if_pos (.inl hU0)])
            have hyq : ((y.l.length : Int) == 0) = true := by rw [hy0]; rfl
            have hdt : decide (p ≤ lim) = true := decide_eq_true hple
            clear hyn hU0
            go_wp2_with fail
            refine wp_region_held_drew (S := (fun u' => ((u'.cell? ⟨g, j, none⟩ = some (.slice r.a r.l.length r.c) ∧ u'.cell? ⟨w.heap.size, 0, none⟩ = some (.slice F.o.a n F.o.c) ∧ u'.cell? ⟨w.heap.size, 1, none⟩ = some F.t.val) ∧ Below wr.heap.size wr u'))) (by kernel_rfl) s0 (fun hHeld => ?_)
            refine wpAnyH_take (i := 0) (v := ?vve0) rfl (by kernel_rfl) (by kernel_rfl) (by kernel_rfl) (fun _ _ _ h => h) (Or.inl ⟨by rfl, ?hye0⟩) (by assumption) ?reste0
            case hye0 => (intro w hSw; (try dsimp only at hSw); (try simp only [List.getElem_toArray, List.getElem_cons_zero]); go_simp <;> with_reducible rfl)
            try simp only [Act.put, List.getElem_toArray, List.getElem_cons_zero, List.setIfInBounds_toArray, List.set_cons_zero, List.set_cons_succ]
            refine wpAnyH_take (i := 1) (v := ?vve1) rfl (by kernel_rfl) (by kernel_rfl) (by kernel_rfl) (fun _ _ _ h => h) (Or.inl ⟨by rfl, ?hye1⟩) (by assumption) ?reste1
            case hye1 => (intro w hSw; (try dsimp only at hSw); (try simp only [List.getElem_toArray, List.getElem_cons_zero, List.getElem_cons_succ]); go_simp <;> with_reducible rfl)
            try simp only [Act.put, List.getElem_toArray, List.getElem_cons_zero, List.getElem_cons_succ, List.setIfInBounds_toArray, List.set_cons_zero, List.set_cons_succ]
            refine wpAnyH_take (i := 2) (v := ?vve2) rfl (by kernel_rfl) (by kernel_rfl) (by kernel_rfl) (fun _ _ _ h => h) (Or.inl ⟨by rfl, ?hye2⟩) (by assumption) ?reste2
            case hye2 => (intro w hSw; (try dsimp only at hSw); (try simp only [List.getElem_toArray, List.getElem_cons_zero, List.getElem_cons_succ]); go_simp <;> with_reducible rfl)
            try simp only [Act.put, List.getElem_toArray, List.getElem_cons_zero, List.getElem_cons_succ, List.setIfInBounds_toArray, List.set_cons_zero, List.set_cons_succ]
            refine wpAnyH_take (i := 3) (v := ?vve3) rfl (by kernel_rfl) (by kernel_rfl) (by kernel_rfl) (fun _ _ _ h => h) (Or.inl ⟨by rfl, ?hye3⟩) (by assumption) ?reste3
            case hye3 => (intro w hSw; (try dsimp only at hSw); (try simp only [List.getElem_toArray, List.getElem_cons_zero, List.getElem_cons_succ]); go_simp <;> with_reducible rfl)
            try simp only [Act.put, List.getElem_toArray, List.getElem_cons_zero, List.getElem_cons_succ, List.setIfInBounds_toArray, List.set_cons_zero, List.set_cons_succ]
            refine wpAnyH_take (i := 4) (v := ?vve4) rfl (by kernel_rfl) (by kernel_rfl) (by kernel_rfl) (fun _ _ _ h => h) (Or.inl ⟨by rfl, ?hye4⟩) (by assumption) ?reste4
            case hye4 => (intro w hSw; (try dsimp only at hSw); (try simp only [List.getElem_toArray, List.getElem_cons_zero, List.getElem_cons_succ]); go_simp <;> with_reducible rfl)
            try simp only [Act.put, List.getElem_toArray, List.getElem_cons_zero, List.getElem_cons_succ, List.setIfInBounds_toArray, List.set_cons_zero, List.set_cons_succ]
            refine wpAnyH_take (i := 5) (v := ?vve5) rfl (by kernel_rfl) (by kernel_rfl) (by kernel_rfl) (fun _ _ _ h => h) (Or.inl ⟨by rfl, ?hye5⟩) (by assumption) ?reste5
            case hye5 => (intro w hSw; (try dsimp only at hSw); (try simp only [List.getElem_toArray, List.getElem_cons_zero, List.getElem_cons_succ]); go_simp <;> with_reducible rfl)
            try simp only [Act.put, List.getElem_toArray, List.getElem_cons_zero, List.getElem_cons_succ, List.setIfInBounds_toArray, List.set_cons_zero, List.set_cons_succ]
            refine wpAnyH_take (i := 7) (v := ?vve7) rfl (by kernel_rfl) (by kernel_rfl) (by kernel_rfl) (fun _ _ _ h => h) (Or.inl ⟨by rfl, ?hye7⟩) (by assumption) ?reste7
            case hye7 => (intro w hSw; (try dsimp only at hSw); (try simp only [List.getElem_toArray, List.getElem_cons_zero, List.getElem_cons_succ]); go_simp <;> with_reducible rfl)
            try simp only [Act.put, List.getElem_toArray, List.getElem_cons_zero, List.getElem_cons_succ, List.setIfInBounds_toArray, List.set_cons_zero, List.set_cons_succ]
            refine wpAnyH_ready (rs := [6]) (by kernel_rfl) (by simp) ?_
            refine AllReadyH.cons rfl (fun K hK => ?_) AllReadyH.nil
            try simp only [List.getElem_toArray, List.getElem_cons_zero, List.getElem_cons_succ]
            go_simp
            go_at_call 29
            refine (show Calls _ _ _ _ _ from C1.out _ (by first | assumption | exact And.right (by assumption))).mono ?_
            rintro e u1 ⟨rfl, hb1⟩
            have hB1 := keep_reg HS.out (by first | assumption | exact And.right (by assumption)) hb1
            go_wp2_with fail
            refine hK.out _ _ hB1 (fun hHeld1 => ?_)
            clear hK
            try simp only [Act.put, List.getElem_toArray, List.getElem_cons_zero, List.getElem_cons_succ, List.setIfInBounds_toArray, List.set_cons_zero, List.set_cons_succ]
            refine wpAnyH_take (i := 8) (v := ?vve8) rfl (by kernel_rfl) (by kernel_rfl) (by kernel_rfl) (fun _ _ _ h => h) (Or.inl ⟨by rfl, ?hye8⟩) (by assumption) ?reste8
            case hye8 => (intro w hSw; (try dsimp only at hSw); (try simp only [List.getElem_toArray, List.getElem_cons_zero, List.getElem_cons_succ]); go_simp <;> with_reducible rfl)
            try simp only [Act.put, List.getElem_toArray, List.getElem_cons_zero, List.getElem_cons_succ, List.setIfInBounds_toArray, List.set_cons_zero, List.set_cons_succ]
            refine wpAnyH_take (i := 9) (v := ?vve9) rfl (by kernel_rfl) (by kernel_rfl) (by kernel_rfl) (fun _ _ _ h => h) (Or.inl ⟨by rfl, ?hye9⟩) (by assumption) ?reste9
            case hye9 => (intro w hSw; (try dsimp only at hSw); (try simp only [List.getElem_toArray, List.getElem_cons_zero, List.getElem_cons_succ]); go_simp <;> with_reducible rfl)
            try simp only [Act.put, List.getElem_toArray, List.getElem_cons_zero, List.getElem_cons_succ, List.setIfInBounds_toArray, List.set_cons_zero, List.set_cons_succ]
            refine wpAnyH_take (i := 10) (v := ?vve10) rfl (by kernel_rfl) (by kernel_rfl) (by kernel_rfl) (fun _ _ _ h => h) (Or.inl ⟨by rfl, ?hye10⟩) (by assumption) ?reste10
            case hye10 => (intro w hSw; (try dsimp only at hSw); (try simp only [List.getElem_toArray, List.getElem_cons_zero, List.getElem_cons_succ]); go_simp <;> with_reducible rfl)
            try simp only [Act.put, List.getElem_toArray, List.getElem_cons_zero, List.getElem_cons_succ, List.setIfInBounds_toArray, List.set_cons_zero, List.set_cons_succ]
            refine wpAnyH_take (i := 11) (v := ?vve11) rfl (by kernel_rfl) (by kernel_rfl) (by kernel_rfl) (fun _ _ _ h => h) (Or.inl ⟨by rfl, ?hye11⟩) (by assumption) ?reste11
            case hye11 => (intro w hSw; (try dsimp only at hSw); (try simp only [List.getElem_toArray, List.getElem_cons_zero, List.getElem_cons_succ]); go_simp <;> with_reducible rfl)
            try simp only [Act.put, List.getElem_toArray, List.getElem_cons_zero, List.getElem_cons_succ, List.setIfInBounds_toArray, List.set_cons_zero, List.set_cons_succ]
            refine wpAnyH_take (i := 12) (v := ?vve12) rfl (by kernel_rfl) (by kernel_rfl) (by kernel_rfl) (fun _ _ _ h => h) (Or.inl ⟨by rfl, ?hye12⟩) (by assumption) ?reste12
            case hye12 => (intro w hSw; (try dsimp only at hSw); (try simp only [List.getElem_toArray, List.getElem_cons_zero, List.getElem_cons_succ]); go_simp <;> with_reducible rfl)
            try simp only [Act.put, List.getElem_toArray, List.getElem_cons_zero, List.getElem_cons_succ, List.setIfInBounds_toArray, List.set_cons_zero, List.set_cons_succ]
            refine wpAnyH_take (i := 13) (v := ?vve13) rfl (by kernel_rfl) (by kernel_rfl) (by kernel_rfl) (fun _ _ _ h => h) (Or.inl ⟨by rfl, ?hye13⟩) (by assumption) ?reste13
            case hye13 => (intro w hSw; (try dsimp only at hSw); (try simp only [List.getElem_toArray, List.getElem_cons_zero, List.getElem_cons_succ]); go_simp <;> with_reducible rfl)
            try simp only [Act.put, List.getElem_toArray, List.getElem_cons_zero, List.getElem_cons_succ, List.setIfInBounds_toArray, List.set_cons_zero, List.set_cons_succ]
            refine wpAnyH_take (i := 14) (v := undef) rfl (by kernel_rfl) (by kernel_rfl) (by kernel_rfl) (fun _ _ _ h => h) (Or.inr ⟨by rfl, rfl⟩) (by assumption) ?_
            try simp only [Act.put, List.getElem_toArray, List.getElem_cons_zero, List.getElem_cons_succ, List.setIfInBounds_toArray, List.set_cons_zero, List.set_cons_succ]
            refine wpAnyH_take (i := 15) (v := undef) rfl (by kernel_rfl) (by kernel_rfl) (by kernel_rfl) (fun _ _ _ h => h) (Or.inr ⟨by rfl, rfl⟩) (by assumption) ?_
            try simp only [Act.put, List.getElem_toArray, List.getElem_cons_zero, List.getElem_cons_succ, List.setIfInBounds_toArray, List.set_cons_zero, List.set_cons_succ]
            refine wpAnyH_take (i := 16) (v := undef) rfl (by kernel_rfl) (by kernel_rfl) (by kernel_rfl) (fun _ _ _ h => h) (Or.inr ⟨by rfl, rfl⟩) (by assumption) ?_
            try simp only [Act.put, List.getElem_toArray, List.getElem_cons_zero, List.getElem_cons_succ, List.setIfInBounds_toArray, List.set_cons_zero, List.set_cons_succ]
            refine wpAnyH_take (i := 17) (v := undef) rfl (by kernel_rfl) (by kernel_rfl) (by kernel_rfl) (fun _ _ _ h => h) (Or.inr ⟨by rfl, rfl⟩) (by assumption) ?_
            try simp only [Act.put, List.getElem_toArray, List.getElem_cons_zero, List.getElem_cons_succ, List.setIfInBounds_toArray, List.set_cons_zero, List.set_cons_succ]
            refine wpAnyH_take (i := 18) (v := undef) rfl (by kernel_rfl) (by kernel_rfl) (by kernel_rfl) (fun _ _ _ h => h) (Or.inr ⟨by rfl, rfl⟩) (by assumption) ?_
            try simp only [Act.put, List.getElem_toArray, List.getElem_cons_zero, List.getElem_cons_succ, List.setIfInBounds_toArray, List.set_cons_zero, List.set_cons_succ]
            refine wpAnyH_take (i := 19) (v := undef) rfl (by kernel_rfl) (by kernel_rfl) (by kernel_rfl) (fun _ _ _ h => h) (Or.inr ⟨by rfl, rfl⟩) (by assumption) ?_
            try simp only [Act.put, List.getElem_toArray, List.getElem_cons_zero, List.getElem_cons_succ, List.setIfInBounds_toArray, List.set_cons_zero, List.set_cons_succ]
            refine wpAnyH_take (i := 20) (v := undef) rfl (by kernel_rfl) (by kernel_rfl) (by kernel_rfl) (fun _ _ _ h => h) (Or.inr ⟨by rfl, rfl⟩) (by assumption) ?_
            try simp only [Act.put, List.getElem_toArray, List.getElem_cons_zero, List.getElem_cons_succ, List.setIfInBounds_toArray, List.set_cons_zero, List.set_cons_succ]
            refine wpAnyH_take (i := 21) (v := undef) rfl (by kernel_rfl) (by kernel_rfl) (by kernel_rfl) (fun _ _ _ h => h) (Or.inr ⟨by rfl, rfl⟩) (by assumption) ?_
            try simp only [Act.put, List.getElem_toArray, List.getElem_cons_zero, List.getElem_cons_succ, List.setIfInBounds_toArray, List.set_cons_zero, List.set_cons_succ]
            refine wpAnyH_take (i := 22) (v := undef) rfl (by kernel_rfl) (by kernel_rfl) (by kernel_rfl) (fun _ _ _ h => h) (Or.inr ⟨by rfl, rfl⟩) (by assumption) ?_
            try simp only [Act.put, List.getElem_toArray, List.getElem_cons_zero, List.getElem_cons_succ, List.setIfInBounds_toArray, List.set_cons_zero, List.set_cons_succ]
            refine wpAnyH_take (i := 23) (v := undef) rfl (by kernel_rfl) (by kernel_rfl) (by kernel_rfl) (fun _ _ _ h => h) (Or.inr ⟨by rfl, rfl⟩) (by assumption) ?_
            try simp only [Act.put, List.getElem_toArray, List.getElem_cons_zero, List.getElem_cons_succ, List.setIfInBounds_toArray, List.set_cons_zero, List.set_cons_succ]
            refine wpAnyH_take (i := 24) (v := undef) rfl (by kernel_rfl) (by kernel_rfl) (by kernel_rfl) (fun _ _ _ h => h) (Or.inr ⟨by rfl, rfl⟩) (by assumption) ?_
            try simp only [Act.put, List.getElem_toArray, List.getElem_cons_zero, List.getElem_cons_succ, List.setIfInBounds_toArray, List.set_cons_zero, List.set_cons_succ]
            refine wpAnyH_take (i := 25) (v := undef) rfl (by kernel_rfl) (by kernel_rfl) (by kernel_rfl) (fun _ _ _ h => h) (Or.inr ⟨by rfl, rfl⟩) (by assumption) ?_
            try simp only [Act.put, List.getElem_toArray, List.getElem_cons_zero, List.getElem_cons_succ, List.setIfInBounds_toArray, List.set_cons_zero, List.set_cons_succ]
            refine wpAnyH_take (i := 26) (v := ?vve26) rfl (by kernel_rfl) (by kernel_rfl) (by kernel_rfl) (fun _ _ _ h => h) (Or.inl ⟨by rfl, ?hye26⟩) (by assumption) ?reste26
            case hye26 => (intro w hSw; (try dsimp only at hSw); (try simp only [List.getElem_toArray, List.getElem_cons_zero, List.getElem_cons_succ]); go_simp <;> with_reducible rfl)
            try simp only [Act.put, List.getElem_toArray, List.getElem_cons_zero, List.getElem_cons_succ, List.setIfInBounds_toArray, List.set_cons_zero, List.set_cons_succ]
            refine wpAnyH_take (i := 27) (v := ?vve27) rfl (by kernel_rfl) (by kernel_rfl) (by kernel_rfl) (fun _ _ _ h => h) (Or.inl ⟨by rfl, ?hye27⟩) (by assumption) ?reste27
            case hye27 => (intro w hSw; (try dsimp only at hSw); (try simp only [List.getElem_toArray, List.getElem_cons_zero, List.getElem_cons_succ]); go_simp <;> with_reducible rfl)
            try simp only [Act.put, List.getElem_toArray, List.getElem_cons_zero, List.getElem_cons_succ, List.setIfInBounds_toArray, List.set_cons_zero, List.set_cons_succ]
            refine wpAnyH_done (by kernel_rfl) ?_ _
            refine at_exit (W := wr) hB1.2 ?_
            intro W8 hb8
            have hc8 : W8.cell? ⟨g, j, none⟩ = some (.slice r.a r.l.length r.c) := (HS.out W8 hb8).1.1
            have HR8 := Lib.hid (HRP.out W8 hb8)
            clear s0 hb8 y0 y1 y2
            go_wp2
            go_roundw
            case rel => exact ⟨j + 1, r, by omega, by go_num, rfl, by rw [HSS.out]; exact HR8.out.1, HR8.out.2.2⟩
            case measure => simp [intOf]; omega
          · have hyp : 0 < y.l.length := by rw [hyn]; exact List.length_pos_iff.2 hU0
            have hyq : ((y.l.length : Int) == 0) = false := by rw [beq_eq_false_iff_ne]; omega
            have C3' := Lib.hid (C3.out hU0)
            have HST2 : Hid (firstB (fun T => objV F T a) (((allSets n).take (j + 1)).filter (pickB F b lim)) = if x < z then T else U) := Lib.hid (by
              rw [HPT.out]; unfold stepB
              by_cases h : x < z
              · rw [if_pos h, if_pos (.inr (by show objV F T a < objV F U a; rw [← HX.out, ← HZ.out]; exact h))]
              · rw [if_neg h, if_neg (fun hc => hc.elim hU0 (fun hc => h (by rw [HX.out, HZ.out]; exact hc)))])
            clear hyn hU0 C3
            go_wp2_with fail
            go_region_held3 (fun u => ((u.cell? ⟨g, j, none⟩ = some (.slice r.a r.l.length r.c) ∧ u.cell? ⟨w.heap.size, 0, none⟩ = some (.slice F.o.a n F.o.c) ∧ u.cell? ⟨w.heap.size, 1, none⟩ = some F.t.val) ∧ Below wr.heap.size wr u)) (first | exact s0 | exact keep_reg HS.out (by first | assumption | exact And.right (by assumption)) hb1) (first | (go_at_call 29; (fail_if_success clear hb1); refine (show Calls _ _ _ _ _ from C1.out _ (by first | assumption | exact And.right (by assumption))).mono ?_; rintro e u1 ⟨rfl, hb1⟩) | (go_at_call 29; with_reducible change Calls _ _ #[_, .slice r.a _ _, _] _ _; refine (show Calls _ _ _ _ _ from C2.out _ (by first | assumption | exact And.right (by assumption))).mono ?_; rintro e u1 ⟨rfl, hb1⟩) | (go_at_call 29; with_reducible change Calls _ _ #[_, .slice y.a _ _, _] _ _; refine (show Calls _ _ _ _ _ from C3'.out _ (by first | assumption | exact And.right (by assumption))).mono ?_; rintro e u1 ⟨rfl, hb1⟩))
            refine at_exit (W := wr) (by first | assumption | exact And.right (by assumption)) ?_
            intro W8 hb8
            have hc8 : W8.cell? ⟨g, j, none⟩ = some (.slice r.a r.l.length r.c) := (HS.out W8 hb8).1.1
            have HR8 := Lib.hid (HRP.out W8 hb8)
            clear s0 hb8 y0 y1 y2
            by_cases hxz : x < z
            · have HSS : Hid (firstB (fun T => objV F T a) (((allSets n).take (j + 1)).filter (pickB F b lim)) = T) := Lib.hid (by rw [HST2.out, if_pos hxz])
              go_wp2
              go_roundw
              case rel => exact ⟨j + 1, r, by omega, by go_num, rfl, by rw [HSS.out]; exact HR8.out.1, HR8.out.2.2⟩
              case measure => simp [intOf]; omega
            · have HSS : Hid (firstB (fun T => objV F T a) (((allSets n).take (j + 1)).filter (pickB F b lim)) = U) := Lib.hid (by rw [HST2.out, if_neg hxz])
              go_wp2
              go_roundw
              case rel => exact ⟨j + 1, y, by omega, by go_num, rfl, by rw [HSS.out]; exact HR8.out.2.1, HR8.out.2.2⟩
              case measure => simp [intOf]; omega
        · have HSS : Hid (firstB (fun T => objV F T a) (((allSets n).take (j + 1)).filter (pickB F b lim)) = U) := Lib.hid (by rw [HST.out, HPK.out, decide_eq_false hple]; rfl)
          have hd : decide (p ≤ lim) = false := decide_eq_false hple
          clear hyn C3 hple
          go_wp2_with fail
          refine wp_region_held_drew (S := (fun u' => ((u'.cell? ⟨g, j, none⟩ = some (.slice r.a r.l.length r.c) ∧ u'.cell? ⟨w.heap.size, 0, none⟩ = some (.slice F.o.a n F.o.c) ∧ u'.cell? ⟨w.heap.size, 1, none⟩ = some F.t.val) ∧ Below wr.heap.size wr u'))) (by kernel_rfl) s0 (fun hHeld => ?_)
          refine wpAnyH_take (i := 0) (v := ?vvf0) rfl (by kernel_rfl) (by kernel_rfl) (by kernel_rfl) (fun _ _ _ h => h) (Or.inl ⟨by rfl, ?hyf0⟩) (by assumption) ?restf0
          case hyf0 => (intro w hSw; (try dsimp only at hSw); (try simp only [List.getElem_toArray, List.getElem_cons_zero]); go_simp <;> with_reducible rfl)
          try simp only [Act.put, List.getElem_toArray, List.getElem_cons_zero, List.setIfInBounds_toArray, List.set_cons_zero, List.set_cons_succ]
          refine wpAnyH_take (i := 1) (v := ?vvf1) rfl (by kernel_rfl) (by kernel_rfl) (by kernel_rfl) (fun _ _ _ h => h) (Or.inl ⟨by rfl, ?hyf1⟩) (by assumption) ?restf1
          case hyf1 => (intro w hSw; (try dsimp only at hSw); (try simp only [List.getElem_toArray, List.getElem_cons_zero, List.getElem_cons_succ]); go_simp <;> with_reducible rfl)
          try simp only [Act.put, List.getElem_toArray, List.getElem_cons_zero, List.getElem_cons_succ, List.setIfInBounds_toArray, List.set_cons_zero, List.set_cons_succ]
          refine wpAnyH_take (i := 2) (v := ?vvf2) rfl (by kernel_rfl) (by kernel_rfl) (by kernel_rfl) (fun _ _ _ h => h) (Or.inl ⟨by rfl, ?hyf2⟩) (by assumption) ?restf2
          case hyf2 => (intro w hSw; (try dsimp only at hSw); (try simp only [List.getElem_toArray, List.getElem_cons_zero, List.getElem_cons_succ]); go_simp <;> with_reducible rfl)
          try simp only [Act.put, List.getElem_toArray, List.getElem_cons_zero, List.getElem_cons_succ, List.setIfInBounds_toArray, List.set_cons_zero, List.set_cons_succ]
          refine wpAnyH_take (i := 3) (v := ?vvf3) rfl (by kernel_rfl) (by kernel_rfl) (by kernel_rfl) (fun _ _ _ h => h) (Or.inl ⟨by rfl, ?hyf3⟩) (by assumption) ?restf3
          case hyf3 => (intro w hSw; (try dsimp only at hSw); (try simp only [List.getElem_toArray, List.getElem_cons_zero, List.getElem_cons_succ]); go_simp <;> with_reducible rfl)
          try simp only [Act.put, List.getElem_toArray, List.getElem_cons_zero, List.getElem_cons_succ, List.setIfInBounds_toArray, List.set_cons_zero, List.set_cons_succ]
          refine wpAnyH_take (i := 4) (v := ?vvf4) rfl (by kernel_rfl) (by kernel_rfl) (by kernel_rfl) (fun _ _ _ h => h) (Or.inl ⟨by rfl, ?hyf4⟩) (by assumption) ?restf4
          case hyf4 => (intro w hSw; (try dsimp only at hSw); (try simp only [List.getElem_toArray, List.getElem_cons_zero, List.getElem_cons_succ]); go_simp <;> with_reducible rfl)
          try simp only [Act.put, List.getElem_toArray, List.getElem_cons_zero, List.getElem_cons_succ, List.setIfInBounds_toArray, List.set_cons_zero, List.set_cons_succ]
          refine wpAnyH_take (i := 5) (v := ?vvf5) rfl (by kernel_rfl) (by kernel_rfl) (by kernel_rfl) (fun _ _ _ h => h) (Or.inl ⟨by rfl, ?hyf5⟩) (by assumption) ?restf5
          case hyf5 => (intro w hSw; (try dsimp only at hSw); (try simp only [List.getElem_toArray, List.getElem_cons_zero, List.getElem_cons_succ]); go_simp <;> with_reducible rfl)
          try simp only [Act.put, List.getElem_toArray, List.getElem_cons_zero, List.getElem_cons_succ, List.setIfInBounds_toArray, List.set_cons_zero, List.set_cons_succ]
          refine wpAnyH_take (i := 7) (v := ?vvf7) rfl (by kernel_rfl) (by kernel_rfl) (by kernel_rfl) (fun _ _ _ h => h) (Or.inl ⟨by rfl, ?hyf7⟩) (by assumption) ?restf7
          case hyf7 => (intro w hSw; (try dsimp only at hSw); (try simp only [List.getElem_toArray, List.getElem_cons_zero, List.getElem_cons_succ]); go_simp <;> with_reducible rfl)
          try simp only [Act.put, List.getElem_toArray, List.getElem_cons_zero, List.getElem_cons_succ, List.setIfInBounds_toArray, List.set_cons_zero, List.set_cons_succ]
          refine wpAnyH_ready (rs := [6]) (by kernel_rfl) (by simp) ?_
          refine AllReadyH.cons rfl (fun K hK => ?_) AllReadyH.nil
          try simp only [List.getElem_toArray, List.getElem_cons_zero, List.getElem_cons_succ]
          go_simp
          go_at_call 29
          refine (show Calls _ _ _ _ _ from C1.out _ (by first | assumption | exact And.right (by assumption))).mono ?_
          rintro e u1 ⟨rfl, hb1⟩
          have hB1 := keep_reg HS.out (by first | assumption | exact And.right (by assumption)) hb1
          go_wp2_with fail
          refine hK.out _ _ hB1 (fun hHeld1 => ?_)
          clear hK
          try simp only [Act.put, List.getElem_toArray, List.getElem_cons_zero, List.getElem_cons_succ, List.setIfInBounds_toArray, List.set_cons_zero, List.set_cons_succ]
          refine wpAnyH_take (i := 8) (v := ?vvf8) rfl (by kernel_rfl) (by kernel_rfl) (by kernel_rfl) (fun _ _ _ h => h) (Or.inl ⟨by rfl, ?hyf8⟩) (by assumption) ?restf8
          case hyf8 => (intro w hSw; (try dsimp only at hSw); (try simp only [List.getElem_toArray, List.getElem_cons_zero, List.getElem_cons_succ]); go_simp <;> with_reducible rfl)
          try simp only [Act.put, List.getElem_toArray, List.getElem_cons_zero, List.getElem_cons_succ, List.setIfInBounds_toArray, List.set_cons_zero, List.set_cons_succ]
          refine wpAnyH_take (i := 9) (v := ?vvf9) rfl (by kernel_rfl) (by kernel_rfl) (by kernel_rfl) (fun _ _ _ h => h) (Or.inl ⟨by rfl, ?hyf9⟩) (by assumption) ?restf9
          case hyf9 => (intro w hSw; (try dsimp only at hSw); (try simp only [List.getElem_toArray, List.getElem_cons_zero, List.getElem_cons_succ]); go_simp <;> with_reducible rfl)
          try simp only [Act.put, List.getElem_toArray, List.getElem_cons_zero, List.getElem_cons_succ, List.setIfInBounds_toArray, List.set_cons_zero, List.set_cons_succ]
          refine wpAnyH_take (i := 10) (v := undef) rfl (by kernel_rfl) (by kernel_rfl) (by kernel_rfl) (fun _ _ _ h => h) (Or.inr ⟨by rfl, rfl⟩) (by assumption) ?_
          try simp only [Act.put, List.getElem_toArray, List.getElem_cons_zero, List.getElem_cons_succ, List.setIfInBounds_toArray, List.set_cons_zero, List.set_cons_succ]
          refine wpAnyH_take (i := 11) (v := undef) rfl (by kernel_rfl) (by kernel_rfl) (by kernel_rfl) (fun _ _ _ h => h) (Or.inr ⟨by rfl, rfl⟩) (by assumption) ?_
          try simp only [Act.put, List.getElem_toArray, List.getElem_cons_zero, List.getElem_cons_succ, List.setIfInBounds_toArray, List.set_cons_zero, List.set_cons_succ]
          refine wpAnyH_take (i := 12) (v := undef) rfl (by kernel_rfl) (by kernel_rfl) (by kernel_rfl) (fun _ _ _ h => h) (Or.inr ⟨by rfl, rfl⟩) (by assumption) ?_
          try simp only [Act.put, List.getElem_toArray, List.getElem_cons_zero, List.getElem_cons_succ, List.setIfInBounds_toArray, List.set_cons_zero, List.set_cons_succ]
          refine wpAnyH_take (i := 13) (v := undef) rfl (by kernel_rfl) (by kernel_rfl) (by kernel_rfl) (fun _ _ _ h => h) (Or.inr ⟨by rfl, rfl⟩) (by assumption) ?_
          try simp only [Act.put, List.getElem_toArray, List.getElem_cons_zero, List.getElem_cons_succ, List.setIfInBounds_toArray, List.set_cons_zero, List.set_cons_succ]
          refine wpAnyH_take (i := 14) (v := undef) rfl (by kernel_rfl) (by kernel_rfl) (by kernel_rfl) (fun _ _ _ h => h) (Or.inr ⟨by rfl, rfl⟩) (by assumption) ?_
          try simp only [Act.put, List.getElem_toArray, List.getElem_cons_zero, List.getElem_cons_succ, List.setIfInBounds_toArray, List.set_cons_zero, List.set_cons_succ]
          refine wpAnyH_take (i := 15) (v := undef) rfl (by kernel_rfl) (by kernel_rfl) (by kernel_rfl) (fun _ _ _ h => h) (Or.inr ⟨by rfl, rfl⟩) (by assumption) ?_
          try simp only [Act.put, List.getElem_toArray, List.getElem_cons_zero, List.getElem_cons_succ, List.setIfInBounds_toArray, List.set_cons_zero, List.set_cons_succ]
          refine wpAnyH_take (i := 16) (v := undef) rfl (by kernel_rfl) (by kernel_rfl) (by kernel_rfl) (fun _ _ _ h => h) (Or.inr ⟨by rfl, rfl⟩) (by assumption) ?_
          try simp only [Act.put, List.getElem_toArray, List.getElem_cons_zero, List.getElem_cons_succ, List.setIfInBounds_toArray, List.set_cons_zero, List.set_cons_succ]
          refine wpAnyH_take (i := 17) (v := undef) rfl (by kernel_rfl) (by kernel_rfl) (by kernel_rfl) (fun _ _ _ h => h) (Or.inr ⟨by rfl, rfl⟩) (by assumption) ?_
          try simp only [Act.put, List.getElem_toArray, List.getElem_cons_zero, List.getElem_cons_succ, List.setIfInBounds_toArray, List.set_cons_zero, List.set_cons_succ]
          refine wpAnyH_take (i := 18) (v := undef) rfl (by kernel_rfl) (by kernel_rfl) (by kernel_rfl) (fun _ _ _ h => h) (Or.inr ⟨by rfl, rfl⟩) (by assumption) ?_
          try simp only [Act.put, List.getElem_toArray, List.getElem_cons_zero, List.getElem_cons_succ, List.setIfInBounds_toArray, List.set_cons_zero, List.set_cons_succ]
          refine wpAnyH_take (i := 19) (v := undef) rfl (by kernel_rfl) (by kernel_rfl) (by kernel_rfl) (fun _ _ _ h => h) (Or.inr ⟨by rfl, rfl⟩) (by assumption) ?_
          try simp only [Act.put, List.getElem_toArray, List.getElem_cons_zero, List.getElem_cons_succ, List.setIfInBounds_toArray, List.set_cons_zero, List.set_cons_succ]
          refine wpAnyH_take (i := 20) (v := undef) rfl (by kernel_rfl) (by kernel_rfl) (by kernel_rfl) (fun _ _ _ h => h) (Or.inr ⟨by rfl, rfl⟩) (by assumption) ?_
          try simp only [Act.put, List.getElem_toArray, List.getElem_cons_zero, List.getElem_cons_succ, List.setIfInBounds_toArray, List.set_cons_zero, List.set_cons_succ]
          refine wpAnyH_take (i := 21) (v := undef) rfl (by kernel_rfl) (by kernel_rfl) (by kernel_rfl) (fun _ _ _ h => h) (Or.inr ⟨by rfl, rfl⟩) (by assumption) ?_
          try simp only [Act.put, List.getElem_toArray, List.getElem_cons_zero, List.getElem_cons_succ, List.setIfInBounds_toArray, List.set_cons_zero, List.set_cons_succ]
          refine wpAnyH_take (i := 22) (v := undef) rfl (by kernel_rfl) (by kernel_rfl) (by kernel_rfl) (fun _ _ _ h => h) (Or.inr ⟨by rfl, rfl⟩) (by assumption) ?_
          try simp only [Act.put, List.getElem_toArray, List.getElem_cons_zero, List.getElem_cons_succ, List.setIfInBounds_toArray, List.set_cons_zero, List.set_cons_succ]
          refine wpAnyH_take (i := 23) (v := undef) rfl (by kernel_rfl) (by kernel_rfl) (by kernel_rfl) (fun _ _ _ h => h) (Or.inr ⟨by rfl, rfl⟩) (by assumption) ?_
          try simp only [Act.put, List.getElem_toArray, List.getElem_cons_zero, List.getElem_cons_succ, List.setIfInBounds_toArray, List.set_cons_zero, List.set_cons_succ]
          refine wpAnyH_take (i := 24) (v := undef) rfl (by kernel_rfl) (by kernel_rfl) (by kernel_rfl) (fun _ _ _ h => h) (Or.inr ⟨by rfl, rfl⟩) (by assumption) ?_
          try simp only [Act.put, List.getElem_toArray, List.getElem_cons_zero, List.getElem_cons_succ, List.setIfInBounds_toArray, List.set_cons_zero, List.set_cons_succ]
          refine wpAnyH_take (i := 25) (v := undef) rfl (by kernel_rfl) (by kernel_rfl) (by kernel_rfl) (fun _ _ _ h => h) (Or.inr ⟨by rfl, rfl⟩) (by assumption) ?_
          try simp only [Act.put, List.getElem_toArray, List.getElem_cons_zero, List.getElem_cons_succ, List.setIfInBounds_toArray, List.set_cons_zero, List.set_cons_succ]
          refine wpAnyH_take (i := 26) (v := undef) rfl (by kernel_rfl) (by kernel_rfl) (by kernel_rfl) (fun _ _ _ h => h) (Or.inr ⟨by rfl, rfl⟩) (by assumption) ?_
          try simp only [Act.put, List.getElem_toArray, List.getElem_cons_zero, List.getElem_cons_succ, List.setIfInBounds_toArray, List.set_cons_zero, List.set_cons_succ]
          refine wpAnyH_take (i := 27) (v := ?vvf27) rfl (by kernel_rfl) (by kernel_rfl) (by kernel_rfl) (fun _ _ _ h => h) (Or.inl ⟨by rfl, ?hyf27⟩) (by assumption) ?restf27
          case hyf27 => (intro w hSw; (try dsimp only at hSw); (try simp only [List.getElem_toArray, List.getElem_cons_zero, List.getElem_cons_succ]); go_simp <;> with_reducible rfl)
          try simp only [Act.put, List.getElem_toArray, List.getElem_cons_zero, List.getElem_cons_succ, List.setIfInBounds_toArray, List.set_cons_zero, List.set_cons_succ]
          refine wpAnyH_done (by kernel_rfl) ?_ _
          refine at_exit (W := wr) hB1.2 ?_
          intro W8 hb8
          have HR8 := Lib.hid (HRP.out W8 hb8)
          clear s0 hb8 y0 y1 y2
          go_wp2
          go_roundw
          case rel => exact ⟨j + 1, y, by omega, by go_num, rfl, by rw [HSS.out]; exact HR8.out.2.1, HR8.out.2.2⟩
          case measure => simp [intOf]; omega
      · obtain rfl : j = c := by omega
        have HE : Hid (y.l = l) := Lib.hid (by rw [hy.l, HL9.out, List.take_of_length_le (by rw [HSL.out]; exact Nat.le_refl _)])
        have HVE : Hid (v = decide ((y.l.length : Int) > 0)) := Lib.hid (by rw [HVV.out, HE.out]; simp)
        have HY := Lib.hid hy
        have HB := Lib.hid (hbA.trans ((HB1.out.trans (hnx.mono HB1.out.size)).mono hbA.size))
        clear hy hnx
        go_wp2
        go_ret2
        exact ⟨y, by first | rfl | (simp; rw [HVE.out]; try simp), HE.out, HY.out.own, HY.out.ins.wide (Nat.le_succ _) (Nat.le_refl _), HB.out⟩

theorem bu_some (F : Fld) (a b lim : Int) : ∃ l v, BUIs F a b lim l v ∧ l.length ≤ 1048576 := by
  by_cases h : underB F a b = true
  · have hg : F.good = true := by unfold underB at h; simp only [Bool.and_eq_true] at h; exact h.1.1
    have h7 := (good_sizes hg).2.1
    refine ⟨_, _, .inr ⟨h, rfl, rfl⟩, ?_⟩
    rw [up_length]
    by_cases hC : underC F b lim = []
    · rw [hC]; simp [firstB]
    · have h1 := firstB_some (φ := fun T => objV F T a) hC (fun T hT => (all_ok h7 (List.mem_filter.1 hT).1).1)
      have := (all_ok h7 (List.mem_filter.1 h1).1).2.2
      omega
  · exact ⟨_, _, .inl ⟨by simpa using h, rfl, rfl⟩, by simp⟩
theorem bu_like {F G : Fld} {a b lim : Int} {l : List Int} {v : Bool} (h : BUIs F a b lim l v) (hl : G.Like F) : BUIs G a b lim l v := by
  have ho : ∀ T k, objV G T k = objV F T k := fun T k => objV_like hl T k
  have hg : underB G a b = underB F a b := by unfold underB; rw [hl.good]
  have hc : underC G b lim = underC F b lim := by unfold underC pickB; simp only [ho]; rw [hl.1]
  rcases h with ⟨h1, h2⟩ | ⟨h1, h2, h3⟩
  · exact .inl ⟨by rw [hg]; exact h1, h2⟩
  · exact .inr ⟨by rw [hg]; exact h1, by rw [hc]; simp only [ho]; exact h2, h3⟩
theorem bestUnder_pair {X Y Z : Prop} (F : Fld) (a b lim : Int) (_ : X) (_ : Y) (_ : Z) (_ : F.Small) : ∃ (l : List Int) (v : Bool) (_ : l.length ≤ 1048576),
    (∀ (G : Fld) (W : World), G.At W → G.Like F → Calls Try.prog 7 #[G.val, .int .i64 a, .int .i64 b, .int .i64 lim] W (PInts l v W)) ∧
    (∀ (G : Fld) (W : World), G.At W → G.Like F → Calls Try.prog 9 #[G.val, .int .i64 a, .int .i64 b, .int .i64 lim] W (PInts l v W)) := by
  obtain ⟨l, v, h, hl⟩ := bu_some F a b lim
  exact ⟨l, v, hl, fun G W hG hs => specBU_any G a b lim W hG l v (bu_like h hs), fun G W hG hs => implBU_any G a b lim W hG l v (bu_like h hs)⟩
end Go.Proofs.Ytemflcegkebloaa
