/- Both sides of CostOf answer alike. Condition: System and choice read as such. -/
import Derived.Test.YtbngmjmcmdfphaaPairCoveredBy
namespace Go.Proofs.Ytbngmjmcmdfphaa
open Go.RowKit Go.Shelf

/-- The cost of a choice. -/
def costT (S : Sys) (T : List Nat) : Int := (pays S.f.o.l T).sum
theorem costT_like {S U : Sys} (hl : U.Like S) : costT U = costT S := by funext T; unfold costT; rw [hl.2.1]
theorem pays_len (o : List Int) (T : List Nat) : (pays o T).length = T.length := by unfold pays; simp
theorem pays_get (o : List Int) (T : List Nat) {i : Nat} (h : i < T.length) : (pays o T)[i]'(by rw [pays_len]; exact h) = o.getD T[i] 0 := by simp [pays]
theorem costs_bound {S : Sys} (h : S.good = true) (T : List Nat) : ∀ x ∈ pays S.f.o.l T, 0 ≤ x ∧ x ≤ 99 := by
  intro x hx
  unfold pays at hx
  obtain ⟨m, _, rfl⟩ := List.mem_map.1 hx
  rw [List.getD_eq_getElem?_getD]
  cases e : S.f.o.l[m]? with
  | none => simp
  | some y =>
    obtain ⟨n, _, _, _, _, h5, _⟩ := good_n h
    have := h5 y (List.mem_of_getElem? e)
    simp only [Option.getD_some]; omega
theorem costs_take {S : Sys} (h : S.good = true) (T : List Nat) (hf : T.length ≤ 8) (k : Nat) : 0 ≤ ((pays S.f.o.l T).take k).sum ∧ ((pays S.f.o.l T).take k).sum ≤ 792 := by
  have h1 := sum_bound (l := (pays S.f.o.l T).take k) (fun x hx => costs_bound h T x (List.mem_of_mem_take hx))
  rw [List.length_take, pays_len] at h1
  omega
/-- A cell of a row of numbers. -/
theorem int_cells {r : Row} {w u : World} (hr : r.At w) (hu : Below w.heap.size w u) {k : Nat} (hk : k < r.l.length) : ∃ b o, r.a = some ⟨b, o, none⟩ ∧ u.cell? ⟨b, o + k, none⟩ = some (.int .i64 (r.l.getD k 0)) := by
  obtain ⟨_, _, h3⟩ := hr
  rcases h3 with h3 | ⟨b, o, ha, hb, hcell⟩
  · have := congrArg List.length (iv_nil h3); rw [List.length_nil] at this; omega
  · refine ⟨b, o, ha, (hu.cell (p := ⟨b, o + k, none⟩) hb).trans (hcell k _ ?_)⟩
    rw [iv_at hk, List.getD_eq_getElem?_getD, List.getElem?_eq_getElem hk, Option.getD_some]

set_option maxHeartbeats 1000000 in
theorem l6Cost_any (S : Sys) (c : Row) (T : List Nat) (w : World) (hS : S.At w) (hc : c.At w) (hf : FineS S c T) :
    Calls Try.prog 50 #[.agg #[.int .i64 S.n, .slice S.f.t.a S.f.t.R.length S.f.t.c, .slice S.f.o.a S.f.o.l.length S.f.o.c], .slice c.a c.l.length c.c] w fun e w' => e = .returned (.int .i64 (costT S T)) ∧ Below w.heap.size w w' := by
  obtain ⟨wA, hA, hb, bx, hSA, hszA⟩ := laid_sys S w 29 hS
  have HOA := Lib.hid hSA.1
  have HCA := Lib.hid (hc.on hb)
  have HBX := Lib.hid bx
  have HSET := Lib.hid hf.set
  obtain ⟨g1, g2, g3, g4, g5, g6, g7⟩ := good_n hf.good
  have HLT := Lib.hid (fun m hm => by have := hf.lt m hm; omega : ∀ m ∈ T, m < S.f.o.l.length)
  obtain ⟨n, hn⟩ : ∃ n, n = c.l.length := ⟨_, rfl⟩
  have HTN : Hid (T.length = n) := Lib.hid (by rw [hn, hf.set, up_length])
  have hn8 : n ≤ 8 := by have := HTN.out; have := hf.few; omega
  have hni : (n : Int) ≤ 8 := by omega
  have hoi : (S.f.o.l.length : Int) ≤ 8 := by omega
  obtain ⟨P, hP⟩ : ∃ P, P = pays S.f.o.l T := ⟨_, rfl⟩
  have HPT : Hid (∀ k, 0 ≤ (P.take k).sum ∧ (P.take k).sum ≤ 792) := Lib.hid (fun k => by rw [hP]; exact costs_take hf.good T hf.few k)
  have HPB : Hid (∀ k, (hk : k < T.length) → 0 ≤ S.f.o.l.getD T[k] 0 ∧ S.f.o.l.getD T[k] 0 ≤ 99 ∧ (P.take (k + 1)).sum = (P.take k).sum + S.f.o.l.getD T[k] 0) := Lib.hid (fun k hk => by
    have h1 := sum_step (l := P) (k := k) (by rw [hP, pays_len]; exact hk)
    have h2 : P[k]'(by rw [hP, pays_len]; exact hk) = S.f.o.l.getD T[k] 0 := by simp only [hP]; exact pays_get _ _ hk
    have h3 := costs_bound hf.good T (P[k]'(by rw [hP, pays_len]; exact hk)) (by have h9 := List.getElem_mem (l := P) (n := k) (by rw [hP, pays_len]; exact hk); simpa only [hP] using h9)
    rw [h2] at h1 h3
    exact ⟨h3.1, h3.2, h1⟩)
  have HPE : Hid (∀ k, k = n → (P.take k).sum = costT S T) := Lib.hid (fun k hk => by rw [List.take_of_length_le (by rw [hP, pays_len, HTN.out, hk]; exact Nat.le_refl _), hP]; rfl)
  have HA := Lib.hid hA
  rw [← hn]
  clear hS hc bx hSA hA hf hn g1 g2 g3 g4 g5 g6 g7 hP hszA
  go_enter Try.func50, Try.ntmps50
  go_wp2
  go_loopw [5, 6] (fun sv iv_ wr => ∃ k : Nat, k ≤ n ∧ iv_ = .int .i64 k ∧ sv = .int .i64 ((P.take k).sum) ∧ DrewTo wA wr) (fun _ iv_ _ => n - (intOf iv_).toNat)
  case atStart => exact ⟨0, Nat.zero_le _, rfl, by simp, by rw [← HA.out]; exact DrewTo.refl _⟩
  case round =>
    obtain ⟨k, hk, rfl, rfl, hdw⟩ := hrel
    by_cases hltk : k < n
    · have HBW := Lib.hid hdw.below
      have hlti : (k : Int) < (n : Int) := by omega
      have hkT : k < T.length := by rw [HTN.out]; exact hltk
      obtain ⟨b, o, ha, hcl⟩ := up_cells HCA.out HBW.out HSET.out hkT
      obtain ⟨p1, p2, p3⟩ := HPB.out k hkT
      obtain ⟨m, hm⟩ : ∃ m, m = T[k] := ⟨_, rfl⟩
      rw [← hm] at hcl p1 p2 p3
      have hmR : m < S.f.o.l.length := HLT.out m (by rw [hm]; exact List.getElem_mem _)
      have hmi : (m : Int) < (S.f.o.l.length : Int) := by omega
      obtain ⟨bt, ot, hta, hcr⟩ := int_cells HOA.out HBW.out hmR
      have y1 : wr.cell? ⟨w.heap.size, 2, none⟩ = some (.slice (some ⟨bt, ot, none⟩) S.f.o.l.length S.f.o.c) := by rw [← hta]; exact (HBX.out.on HBW.out).c2
      obtain ⟨y, hy⟩ : ∃ y, y = S.f.o.l.getD m 0 := ⟨_, rfl⟩
      obtain ⟨s, hs⟩ : ∃ s, s = (P.take k).sum := ⟨_, rfl⟩
      obtain ⟨q1, q2⟩ := HPT.out k
      rw [← hy] at hcr p1 p2 p3
      rw [← hs] at p3 q1 q2 ⊢
      have e1 : -9223372036854775808 ≤ s + y := by omega
      have e2 : s + y ≤ 9223372036854775807 := by omega
      have HST := Lib.hid p3
      rw [ha]
      clear hm ha hta hy hs p3
      go_wp2
      go_quiet (fail)
      go_wp2
      go_roundw
      case rel => exact ⟨k + 1, by omega, by go_num, by rw [HST.out]; first | done | go_num, hdw.more _⟩
      case measure => simp [intOf]; omega
    · obtain rfl : k = n := by omega
      have HE := Lib.hid (HPE.out k rfl)
      go_wp2
      go_ret
      exact ⟨by rw [HE.out]; rfl, hb.trans (hdw.below.mono hb.size)⟩

set_option maxHeartbeats 1000000 in
theorem implCostOf_any (S : Sys) (c : Row) (w : World) (hS : S.At w) (hc : c.At w) (l : Int) (b : Bool) (h : (twoS S c.l = false ∧ l = 0 ∧ b = false) ∨ ∃ T, FineS S c T ∧ twoS S c.l = true ∧ l = costT S T ∧ b = true) :
    Calls Try.prog 33 #[.agg #[.int .i64 S.n, .slice S.f.t.a S.f.t.R.length S.f.t.c, .slice S.f.o.a S.f.o.l.length S.f.o.c], .slice c.a c.l.length c.c] w (PInt l b w) := by
  obtain ⟨wA, hA, hb, bx, hSA, hszA⟩ := laid_sys S w 29 hS
  have x0 := bx.c0
  have x1 := bx.c1
  have x2 := bx.c2
  rw [hA] at x0 x1 x2
  have HA := Lib.hid hA
  have CG := canChoose_any S c wA hSA (hc.on hb)
  unfold PInt
  rcases h with ⟨hv, rfl, rfl⟩ | ⟨T, hf, hv, hl, rfl⟩
  · rw [hv] at CG
    have CG1 := Lib.hid CG
    clear hS hc bx hSA hA CG hv
    go_enter Try.func33, Try.ntmps33
    go_wp2_with fail
    rw [← HA.out]
    refine (show Calls _ _ _ _ _ from CG1.out).mono ?_
    rintro e W1 ⟨rfl, hb1⟩
    have hbw := hb.trans (hb1.mono hb.size)
    clear x0 x1 x2
    go_wp2
    go_ret2
    exact ⟨rfl, hbw⟩
  · rw [hv] at CG
    have HOA := Lib.hid hSA.1
    have HCA := Lib.hid (hc.on hb)
    have HBX := Lib.hid bx
    have HSET := Lib.hid hf.set
    obtain ⟨g1, g2, g3, g4, g5, g6, g7⟩ := good_n hf.good
    have HLT := Lib.hid (fun m hm => by have := hf.lt m hm; omega : ∀ m ∈ T, m < S.f.o.l.length)
    obtain ⟨n, hn⟩ : ∃ n, n = c.l.length := ⟨_, rfl⟩
    have HTN : Hid (T.length = n) := Lib.hid (by rw [hn, hf.set, up_length])
    have hn8 : n ≤ 8 := by have := HTN.out; have := hf.few; omega
    have hni : (n : Int) ≤ 8 := by omega
    have hoi : (S.f.o.l.length : Int) ≤ 8 := by omega
    obtain ⟨P, hP⟩ : ∃ P, P = pays S.f.o.l T := ⟨_, rfl⟩
    have HPT : Hid (∀ k, 0 ≤ (P.take k).sum ∧ (P.take k).sum ≤ 792) := Lib.hid (fun k => by rw [hP]; exact costs_take hf.good T hf.few k)
    have HPB : Hid (∀ k, (hk : k < T.length) → 0 ≤ S.f.o.l.getD T[k] 0 ∧ S.f.o.l.getD T[k] 0 ≤ 99 ∧ (P.take (k + 1)).sum = (P.take k).sum + S.f.o.l.getD T[k] 0) := Lib.hid (fun k hk => by
      have h1 := sum_step (l := P) (k := k) (by rw [hP, pays_len]; exact hk)
      have h2 : P[k]'(by rw [hP, pays_len]; exact hk) = S.f.o.l.getD T[k] 0 := by simp only [hP]; exact pays_get _ _ hk
      have h3 := costs_bound hf.good T (P[k]'(by rw [hP, pays_len]; exact hk)) (by have h9 := List.getElem_mem (l := P) (n := k) (by rw [hP, pays_len]; exact hk); simpa only [hP] using h9)
      rw [h2] at h1 h3
      exact ⟨h3.1, h3.2, h1⟩)
    have HPE : Hid (∀ k, k = n → (P.take k).sum = costT S T) := Lib.hid (fun k hk => by rw [List.take_of_length_le (by rw [hP, pays_len, HTN.out, hk]; exact Nat.le_refl _), hP]; rfl)
    have CG1 := Lib.hid CG
    have HL := Lib.hid hl
    rw [← hn] at CG1 ⊢
    clear hS hc bx hSA hA CG hv hf hl hn g1 g2 g3 g4 g5 g6 g7 hP hszA
    go_enter Try.func33, Try.ntmps33
    go_wp2_with fail
    rw [← HA.out]
    refine (show Calls _ _ _ _ _ from CG1.out).mono ?_
    rintro e W1 ⟨rfl, hb1⟩
    have HB1 := Lib.hid hb1
    have hbw := hb.trans (hb1.mono hb.size)
    clear x0 x1 x2 hb1
    go_wp2
    go_loopw [6, 8, 15] (fun sv _ iv_ wr => ∃ k : Nat, k ≤ n ∧ iv_ = .int .i64 k ∧ sv = .int .i64 ((P.take k).sum) ∧ W1 = wr) (fun _ _ iv_ _ => n - (intOf iv_).toNat)
    case atStart => exact ⟨0, Nat.zero_le _, rfl, by simp, rfl⟩
    case round =>
      obtain ⟨k, hk, rfl, rfl, rfl⟩ := hrel
      by_cases hltk : k < n
      · skip
        have hlti : (k : Int) < (n : Int) := by omega
        have hkT : k < T.length := by rw [HTN.out]; exact hltk
        obtain ⟨b, o, ha, hcl⟩ := up_cells HCA.out HB1.out HSET.out hkT
        obtain ⟨p1, p2, p3⟩ := HPB.out k hkT
        obtain ⟨m, hm⟩ : ∃ m, m = T[k] := ⟨_, rfl⟩
        rw [← hm] at hcl p1 p2 p3
        have hmR : m < S.f.o.l.length := HLT.out m (by rw [hm]; exact List.getElem_mem _)
        have hmi : (m : Int) < (S.f.o.l.length : Int) := by omega
        obtain ⟨bt, ot, hta, hcr⟩ := int_cells HOA.out HB1.out hmR
        have y1 : W1.cell? ⟨w.heap.size, 2, none⟩ = some (.slice (some ⟨bt, ot, none⟩) S.f.o.l.length S.f.o.c) := by rw [← hta]; exact (HBX.out.on HB1.out).c2
        obtain ⟨y, hy⟩ : ∃ y, y = S.f.o.l.getD m 0 := ⟨_, rfl⟩
        obtain ⟨s, hs⟩ : ∃ s, s = (P.take k).sum := ⟨_, rfl⟩
        obtain ⟨q1, q2⟩ := HPT.out k
        rw [← hy] at hcr p1 p2 p3
        rw [← hs] at p3 q1 q2 ⊢
        have e1 : -9223372036854775808 ≤ s + y := by omega
        have e2 : s + y ≤ 9223372036854775807 := by omega
        have HST := Lib.hid p3
        rw [ha]
        clear hm ha hta hy hs p3
        go_wp2
        go_roundw
        case rel => exact ⟨k + 1, by omega, by go_num, by rw [HST.out]; first | done | go_num, by first | rfl | trivial⟩
        case measure => simp [intOf]; omega
      · obtain rfl : k = n := by omega
        have HE := Lib.hid (HPE.out k rfl)
        go_wp2
        go_ret2
        exact ⟨by rw [HE.out, ← HL.out]; rfl, hbw⟩

end Go.Proofs.Ytbngmjmcmdfphaa
