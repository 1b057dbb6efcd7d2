/- The contract of the program's test whether a price is right for a set. Condition: row and set read as such, the set is valid with at least one site. -/
import Derived.Test.YtahbjhbdgiojeaaMeets
namespace Go.Proofs.Ytahbjhbdgiojeaa
open Go.RowKit

def passV (g1 g2 g3 : Nat) : Value := .func (.func 88) #[] #[.pointer (some ⟨g1, 0, none⟩), .pointer (some ⟨g2, 0, none⟩), .pointer (some ⟨g3, 0, none⟩)]

set_option maxHeartbeats 1000000 in
theorem pass_any (r : Row) (x : Int) (q m g1 g2 g3 : Nat) (w : World) (hr : r.At w) (hm : m < r.l.length) (h1 : w.cell? ⟨g1, 0, none⟩ = some (.int .i64 (q : Int))) (h2 : w.cell? ⟨g2, 0, none⟩ = some (.int .i64 x)) (h3 : w.cell? ⟨g3, 0, none⟩ = some (.slice r.a r.l.length r.c)) :
    Calls Try.prog 88 #[.int .i64 (m : Int), .pointer (some ⟨g1, 0, none⟩), .pointer (some ⟨g2, 0, none⟩), .pointer (some ⟨g3, 0, none⟩)] w fun e w' => e = .returned (.bool (passB r.l x q m)) ∧ DrewTo w w' := by
  obtain ⟨a, c, l⟩ := r
  obtain ⟨k1, k2, k3⟩ := hr
  simp only at k1 k2 k3 hm h3 ⊢
  rw [iv_length] at k1
  have hli : (l.length : Int) ≤ 9223372036854775807 := by unfold maxLen at k2; omega
  have hmi : (m : Int) < (l.length : Int) := by omega
  rcases k3 with k3 | ⟨b, o, rfl, hb, hcell⟩
  · have k3' := congrArg List.length (iv_nil k3); rw [List.length_nil] at k3'; omega
  obtain ⟨u, hu⟩ : ∃ u, u = l.getD m 0 := ⟨_, rfl⟩
  have hcu : w.cell? ⟨b, o + m, none⟩ = some (.int .i64 u) := by rw [hu, getD_at hm]; exact hcell m _ (iv_at hm)
  have HP : Hid (passB l x q m = (decide (m ≠ q) && decide (u < x))) := Lib.hid (by unfold passB; rw [hu])
  rw [HP.out]
  clear hcell hu HP
  by_cases hmq : m = q
  · have hne : ((m : Int) != (q : Int)) = false := by rw [nat_neB, hmq]; simp
    rw [show (decide (m ≠ q) && decide (u < x)) = false by simp [hmq]]
    clear hmq
    go_enter Try.func88, Try.ntmps88
    go_wp2
    go_quiet (fail)
    go_wp2
    go_ret
    exact ⟨rfl, (DrewTo.refl _).more _⟩
  · have hne : ((m : Int) != (q : Int)) = true := by rw [nat_neB]; simp [hmq]
    by_cases hux : u < x
    · rw [show (decide (m ≠ q) && decide (u < x)) = true by simp [hmq, hux]]
      clear hmq
      go_enter Try.func88, Try.ntmps88
      go_wp2
      go_quiet (fail)
      go_wp2
      go_ret
      exact ⟨by simp, (DrewTo.refl _).more _⟩
    · rw [show (decide (m ≠ q) && decide (u < x)) = false by simp [hux]]
      have hux' : decide (u < x) = false := decide_eq_false hux
      clear hmq
      go_enter Try.func88, Try.ntmps88
      go_wp2
      go_quiet (fail)
      go_wp2
      go_ret
      exact ⟨by simp, (DrewTo.refl _).more _⟩

set_option maxHeartbeats 1000000 in
theorem indexPass_any (r s : Row) (T : List Nat) (x : Int) (q g1 g2 g3 : Nat) (w : World) (hr : r.At w) (hs : s.At w) (hT : s.l = up T) (hb : ∀ m ∈ T, m < r.l.length) (h1 : w.cell? ⟨g1, 0, none⟩ = some (.int .i64 (q : Int))) (h2 : w.cell? ⟨g2, 0, none⟩ = some (.int .i64 x)) (h3 : w.cell? ⟨g3, 0, none⟩ = some (.slice r.a r.l.length r.c)) :
    Calls Try.prog 105 #[.slice s.a s.l.length s.c, passV g1 g2 g3] w fun e w' => (∃ i : Int, e = .returned (.int .i64 i) ∧ decide (0 ≤ i) = T.any (passB r.l x q)) ∧ DrewTo w w' := by
  have CO := Lib.hid fun m (hm : m ∈ T) u (hu : DrewTo w u) => pass_any r x q m g1 g2 g3 u (hr.on hu.below) (hb m hm) (by rw [hu.cell]; exact h1) (by rw [hu.cell]; exact h2) (by rw [hu.cell]; exact h3)
  obtain ⟨a, c, l⟩ := s
  obtain ⟨k1, k2, k3⟩ := hs
  simp only at k1 k2 k3 hT ⊢
  subst hT
  rw [iv_length, up_length] at k1
  rw [up_length]
  have hni : (T.length : Int) ≤ 9223372036854775807 := by unfold maxLen at k2; omega
  have HR := Lib.hid k3
  obtain ⟨P, hP⟩ : ∃ P, P = passB r.l x q := ⟨_, rfl⟩
  rw [← hP]
  have CO1 := Lib.hid (fun m hm u hu => by have := CO.out m hm u hu; rw [← hP] at this; exact this : ∀ m ∈ T, ∀ u, DrewTo w u → Calls Try.prog 88 #[.int .i64 (m : Int), .pointer (some ⟨g1, 0, none⟩), .pointer (some ⟨g2, 0, none⟩), .pointer (some ⟨g3, 0, none⟩)] u fun e w' => e = .returned (.bool (P m)) ∧ DrewTo u w')
  clear k3 hP CO h1 h2 h3 hr hb
  show Calls _ _ #[_, .func (.func 88) #[] #[.pointer (some ⟨g1, 0, none⟩), .pointer (some ⟨g2, 0, none⟩), .pointer (some ⟨g3, 0, none⟩)]] _ _
  go_enter Try.func105, Try.ntmps105
  go_wp2
  go_loopw [8] (fun i wr => ∃ k : Nat, k ≤ T.length ∧ i = .int .i64 k ∧ DrewTo w wr ∧ (T.take k).any P = false) (fun i _ => T.length - (intOf i).toNat)
  case atStart => exact ⟨0, Nat.zero_le _, rfl, DrewTo.refl _, by simp⟩
  case round =>
    obtain ⟨k, hk, rfl, hdw, hall⟩ := hrel
    have HALL := Lib.hid hall
    clear hall
    by_cases hlt : k < T.length
    · have hlti : (k : Int) < (T.length : Int) := by omega
      rcases HR.out with h3 | ⟨b, o, rfl, hbb, hcell⟩
      · have h3' := congrArg List.length (iv_nil h3); rw [up_length, List.length_nil] at h3'; omega
      obtain ⟨m, hm⟩ : ∃ m, m = T[k] := ⟨_, rfl⟩
      have hcm : wr.cell? ⟨b, o + k, none⟩ = some (.int .i64 (m : Int)) := by
        rw [hdw.cell, hm]; have := hcell k _ (iv_at (by rw [up_length]; exact hlt)); rw [up_at hlt] at this; exact this
      obtain ⟨v, hv⟩ : ∃ v, v = P m := ⟨_, rfl⟩
      have C1 := Lib.hid (by have := CO1.out m (by rw [hm]; exact List.getElem_mem hlt) wr hdw; rw [← hv] at this; exact this : Calls Try.prog 88 #[.int .i64 (m : Int), .pointer (some ⟨g1, 0, none⟩), .pointer (some ⟨g2, 0, none⟩), .pointer (some ⟨g3, 0, none⟩)] wr fun e w' => e = .returned (.bool v) ∧ DrewTo wr w')
      have HV : Hid (P T[k] = v) := Lib.hid (by rw [hv, hm])
      clear hm hcell hv
      cases v with
      | false =>
        have HS : Hid ((T.take (k + 1)).any P = false) := Lib.hid (any_take hlt HALL.out HV.out)
        go_wp2_with fail
        refine C1.out.mono ?_
        rintro e W ⟨rfl, d, rfl⟩
        go_wp2
        go_roundw
        case rel => exact ⟨k + 1, by omega, by go_num, hdw.more _, HS.out⟩
        case measure => simp [intOf]; omega
      | true =>
        have HS : Hid (T.any P = true) := Lib.hid (List.any_eq_true.2 ⟨_, List.getElem_mem hlt, HV.out⟩)
        go_wp2_with fail
        refine C1.out.mono ?_
        rintro e W ⟨rfl, d, rfl⟩
        go_wp2
        go_ret
        exact ⟨⟨(k : Int), rfl, by rw [HS.out]; simp⟩, hdw.more _⟩
    · obtain rfl : k = T.length := by omega
      have HS := Lib.hid (any_end HALL.out)
      go_wp2
      go_ret
      exact ⟨⟨-1, rfl, by rw [HS.out]; rfl⟩, hdw⟩

theorem containsPass_any (r s : Row) (T : List Nat) (x : Int) (q g1 g2 g3 : Nat) (w : World) (hr : r.At w) (hs : s.At w) (hT : s.l = up T) (hb : ∀ m ∈ T, m < r.l.length) (h1 : w.cell? ⟨g1, 0, none⟩ = some (.int .i64 (q : Int))) (h2 : w.cell? ⟨g2, 0, none⟩ = some (.int .i64 x)) (h3 : w.cell? ⟨g3, 0, none⟩ = some (.slice r.a r.l.length r.c)) :
    Calls Try.prog 89 #[.slice s.a s.l.length s.c, passV g1 g2 g3] w fun e w' => e = .returned (.bool (T.any (passB r.l x q))) ∧ DrewTo w w' := by
  have CI := Lib.hid (indexPass_any r s T x q g1 g2 g3 w hr hs hT hb h1 h2 h3)
  clear hr hs hT hb h1 h2 h3
  go_enter Try.func89, Try.ntmps89
  go_wp2_with fail
  refine CI.out.mono ?_
  rintro e W ⟨⟨i, rfl, hi⟩, hd⟩
  have HI := Lib.hid hi
  clear hi
  go_wp2
  go_ret
  exact ⟨by rw [← HI.out]; rfl, hd⟩

set_option maxRecDepth 8000 in
set_option maxHeartbeats 600000 in
theorem priceMeets_any (r s : Row) (T : List Nat) (x : Int) (w : World) (hr : r.At w) (hs : s.At w) (hT : s.l = up T) (h0 : 0 < T.length) (hb : ∀ m ∈ T, m < r.l.length) :
    Calls Try.prog 73 #[.slice r.a r.l.length r.c, .int .i64 x, .slice s.a s.l.length s.c] w fun e w' => e = .returned (.bool (meetB r.l x T)) ∧ Below w.heap.size w w' := by
  have hbA := below_alloc w (.cells #[.slice r.a r.l.length r.c] 22)
  obtain ⟨wA, hA⟩ : ∃ u, u = w.alloc (.cells #[.slice r.a r.l.length r.c] 22) := ⟨_, rfl⟩
  rw [← hA] at hbA
  have hbB := below_alloc wA (.cells #[.int .i64 x] 3)
  obtain ⟨wB, hB⟩ : ∃ u, u = wA.alloc (.cells #[.int .i64 x] 3) := ⟨_, rfl⟩
  rw [← hB] at hbB
  have hszA : wA.heap.size = w.heap.size + 1 := by rw [hA]; exact size_alloc _ _
  have hszB : wB.heap.size = w.heap.size + 2 := by rw [hB, size_alloc, hszA]
  have hc3 : wB.cell? ⟨w.heap.size, 0, none⟩ = some (.slice r.a r.l.length r.c) := (hbB.cell (p := ⟨w.heap.size, 0, none⟩) (by show w.heap.size < _; omega)).trans (by rw [hA]; simp)
  have hc2 : wB.cell? ⟨w.heap.size + 1, 0, none⟩ = some (.int .i64 x) := by rw [hB, ← hszA]; simp
  have hbw := hbA.trans (hbB.mono hbA.size)
  have hrB := hr.on hbw
  have hsB := hs.on hbw
  obtain ⟨q, hq⟩ : ∃ q, q = near r.l T := ⟨_, rfl⟩
  have hqm : q ∈ T := by rw [hq]; exact near_mem h0 _ (Nat.le_refl _)
  have hqb := hb q hqm
  have CN := Lib.hid (by have := nearest_any r s T wB hrB hsB hT h0 hb; rw [← hq] at this; exact this : Calls Try.prog 47 #[.slice r.a r.l.length r.c, .slice s.a s.l.length s.c] wB fun e w' => e = .returned (.int .i64 (q : Int)) ∧ DrewTo wB w')
  have HQ := Lib.hid hq
  have HW : Hid (wB = (w.alloc (.cells #[.slice r.a r.l.length r.c] 22)).alloc (.cells #[.int .i64 x] 3)) := Lib.hid (by rw [hB, hA])
  have C2 := Lib.hid hc2
  have C3 := Lib.hid hc3
  rw [HW.out] at hc3
  have HRB := Lib.hid hrB
  have HSB := Lib.hid hsB
  have HBW := Lib.hid hbw
  obtain ⟨k1, k2, _⟩ := hrB
  rw [iv_length] at k1
  have hli : (r.l.length : Int) ≤ 9223372036854775807 := by unfold maxLen at k2; omega
  have hqi : (q : Int) < (r.l.length : Int) := by omega
  have HT := Lib.hid hT
  clear hr hs hA hB hbA hbB hc2 hq hqm hsB hbw k1 k2 hT
  go_enter Try.func73, Try.ntmps73
  go_wp2_with fail
  rw [← HW.out]
  refine CN.out.mono ?_
  rintro e W ⟨rfl, hd⟩
  clear hc3
  have hszW : W.heap.size = w.heap.size + 2 := by obtain ⟨d, rfl⟩ := hd; exact hszB
  have hbC := below_alloc W (.cells #[.int .i64 (q : Int)] 3)
  obtain ⟨wC, hC⟩ : ∃ u, u = W.alloc (.cells #[.int .i64 (q : Int)] 3) := ⟨_, rfl⟩
  have HC := Lib.hid hC
  rw [← hC] at hbC
  have hbBC : Below wB.heap.size wB wC := hd.below.trans (hbC.mono hd.below.size)
  have HBC := Lib.hid hbBC
  have D1 := Lib.hid (show wC.cell? ⟨W.heap.size, 0, none⟩ = some (.int .i64 (q : Int)) by rw [hC]; simp)
  have D2 := Lib.hid ((hbBC.cell (p := ⟨w.heap.size + 1, 0, none⟩) (by show w.heap.size + 1 < _; omega)).trans C2.out)
  have D3 := Lib.hid ((hbBC.cell (p := ⟨w.heap.size, 0, none⟩) (by show w.heap.size < _; omega)).trans C3.out)
  have HRC := Lib.hid (HRB.out.on hbBC)
  obtain ⟨_, _, k3⟩ := HRC.out
  rcases k3 with k3 | ⟨b, o, hra, hbb, hcell⟩
  · have k3' := congrArg List.length (iv_nil k3); rw [List.length_nil] at k3'; omega
  obtain ⟨z, hz⟩ : ∃ z, z = r.l.getD q 0 := ⟨_, rfl⟩
  have E0 := Lib.hid (show wC.cell? ⟨b, o + q, none⟩ = some (.int .i64 z) by rw [hz, getD_at hqb]; exact hcell q _ (iv_at hqb))
  obtain ⟨v, hv⟩ : ∃ v, v = T.any (passB r.l x q) := ⟨_, rfl⟩
  have HM : Hid (meetB r.l x T = (decide (z ≤ x) && !v)) := Lib.hid (by unfold meetB; rw [← HQ.out, hz, hv])
  have CP := Lib.hid (fun n => by
    have hdn : DrewTo wC (wC.drewN n) := ⟨n, rfl⟩
    have := containsPass_any r s T x q W.heap.size (w.heap.size + 1) w.heap.size (wC.drewN n) (HRC.out.on hdn.below) ((HSB.out.on hbBC).on hdn.below) HT.out hb (by rw [hdn.cell]; exact D1.out) (by rw [hdn.cell]; exact D2.out) (by rw [hdn.cell]; exact D3.out)
    rw [← hv] at this; exact this : ∀ n, Calls Try.prog 89 #[.slice s.a s.l.length s.c, passV W.heap.size (w.heap.size + 1) w.heap.size] (wC.drewN n) fun e w' => e = .returned (.bool v) ∧ DrewTo (wC.drewN n) w')
  have D3' := Lib.hid (show wC.cell? ⟨w.heap.size, 0, none⟩ = some (.slice (some ⟨b, o, none⟩) r.l.length r.c) by rw [← hra]; exact D3.out)
  clear hd hC hbC hbBC hcell hra hz hv hszW
  go_wp2
  rw [show W.alloc (.cells #[.int .i64 (q : Int)] 3) = wC from HC.out.symm]
  have F1 := D1.out
  have F2 := D2.out
  have F3 := D3'.out
  have F0 := E0.out
  by_cases hzx : z ≤ x
  · have HMV : Hid (meetB r.l x T = !v) := Lib.hid (by rw [HM.out]; simp [hzx])
    go_quiet ((go_at_call 89; exact Calls.quiet_of (CP.out _)))
    go_wp2
    go_ret
    exact ⟨by rw [HMV.out]; simp, (HBW.out.trans (HBC.out.mono HBW.out.size)).trans (((below_draws _ _)).mono (HBW.out.trans (HBC.out.mono HBW.out.size)).size)⟩
  · have hzx' : decide (z ≤ x) = false := decide_eq_false hzx
    have HMV : Hid (meetB r.l x T = false) := Lib.hid (by rw [HM.out]; simp [hzx])
    go_quiet (fail)
    go_wp2
    go_ret
    exact ⟨by rw [HMV.out]; simp, (HBW.out.trans (HBC.out.mono HBW.out.size)).trans (((below_draws _ _)).mono (HBW.out.trans (HBC.out.mono HBW.out.size)).size)⟩

end Go.Proofs.Ytahbjhbdgiojeaa
