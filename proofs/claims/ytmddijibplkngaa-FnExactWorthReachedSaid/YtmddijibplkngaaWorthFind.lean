/- The least worth that reaches a part, found by halving and by going on: both sides of WorthReached. Condition: the arguments read as such. -/
import Derived.Test.YtmddijibplkngaaWorthAsk
import Derived.Test.YtmddijibplkngaaPairs
namespace Go.Proofs.Ytmddijibplkngaa
open Go.RowKit Go.Shelf

theorem least_ex (p : Nat → Bool) : ∀ n, ∃ r, r ≤ n ∧ (∀ k, k < r → p k = false) ∧ (r < n → p r = true)
  | 0 => ⟨0, Nat.le_refl _, fun k h => by omega, fun h => by omega⟩
  | n + 1 => by
    obtain ⟨r, h1, h2, h3⟩ := least_ex p n
    by_cases hr : r < n
    · exact ⟨r, by omega, h2, fun _ => h3 hr⟩
    · obtain rfl : r = n := by omega
      cases hp : p r with
      | true => exact ⟨r, by omega, h2, fun _ => hp⟩
      | false =>
        refine ⟨r + 1, Nat.le_refl _, fun k hk => ?_, fun h => by omega⟩
        by_cases e : k = r
        · rw [e]; exact hp
        · exact h2 k (by omega)
theorem sum_mono {a b : Int → Int} : ∀ (l : List Int), (∀ x ∈ l, a x ≤ b x) → (l.map a).sum ≤ (l.map b).sum
  | [], _ => Int.le_refl _
  | x :: l, h => by
    have h1 := h x (List.mem_cons_self ..)
    have h2 := sum_mono l fun y hy => h y (List.mem_cons_of_mem _ hy)
    rw [List.map_cons, List.map_cons, List.sum_cons, List.sum_cons]
    omega
theorem gainT_mono (F : Fld) {u v : Int} (h : u ≤ v) (T : List Nat) : gainT F u T ≤ gainT F v T := by
  unfold gainT gainsL
  split
  · exact Int.le_refl _
  · exact sum_mono _ fun x _ => by omega
/-- Whether a worth reaches the part. -/
def reachW (F : Fld) (T : List Nat) (part : Int) (k : Nat) : Bool := decide (gainT F (k : Int) T ≥ part)
theorem reachW_mono {F : Fld} {T : List Nat} {part : Int} {j k : Nat} (h : j ≤ k) (hj : reachW F T part j = true) : reachW F T part k = true := by
  unfold reachW at *
  rw [decide_eq_true_eq] at *
  have := gainT_mono F (show (j : Int) ≤ (k : Int) by omega) T
  omega

set_option maxRecDepth 16000 in
set_option maxHeartbeats 1500000 in
theorem reach1_any (F : Fld) (s : Row) (T : List Nat) (part : Int) (g h : Nat) (w : World) (hF : F.At w) (hs : s.At w) (hf : Fine F s T) (hT : T.length ≤ 1048576) (hh : h < 1000)
    (x0 : w.cell? ⟨g, 0, none⟩ = some (.slice F.o.a F.o.l.length F.o.c)) (x1 : w.cell? ⟨g, 1, none⟩ = some (.slice F.t.a F.t.R.length F.t.c)) (x2 : w.cell? ⟨g + 1, 0, none⟩ = some (.slice s.a s.l.length s.c)) (x3 : w.cell? ⟨g + 1 + 1, 0, none⟩ = some (.int .i64 part)) :
    Calls Try.prog 67 #[.int .i64 (h : Int), .pointer (some ⟨g, 0, none⟩), .pointer (some ⟨g + 1, 0, none⟩), .pointer (some ⟨g + 1 + 1, 0, none⟩)] w fun e w' => e = .returned (.bool (reachW F T part h)) ∧ Below w.heap.size w w' := by
  obtain ⟨x, hx⟩ : ∃ x, x = gainT F (h : Int) T := ⟨_, rfl⟩
  have C1 := Lib.hid (fun U (hU : Below w.heap.size w U) => (by
    have := gain_any F (h : Int) s T U (hF.on hU) (hs.on hU) ⟨worthB_iff.2 ⟨hf.good, by omega, by omega⟩, hf.set, hf.lt, hT⟩
    rw [← hx] at this
    exact this : Calls Try.prog 42 #[.agg #[.slice F.o.a F.o.l.length F.o.c, .slice F.t.a F.t.R.length F.t.c, .int .i64 (h : Int)], .slice s.a s.l.length s.c] U fun e w' => e = .returned (.int .i64 x) ∧ Below U.heap.size U w'))
  have HE : Hid (reachW F T part h = decide (x ≥ part)) := Lib.hid (by rw [hx]; rfl)
  have HS : Hid (∀ U, Below w.heap.size w U → ((U.cell? ⟨g, 0, none⟩ = some (.slice F.o.a F.o.l.length F.o.c) ∧ U.cell? ⟨g, 1, none⟩ = some (.slice F.t.a F.t.R.length F.t.c) ∧ U.cell? ⟨g + 1, 0, none⟩ = some (.slice s.a s.l.length s.c) ∧ U.cell? ⟨g + 1 + 1, 0, none⟩ = some (.int .i64 part)) ∧ Below w.heap.size w U)) := Lib.hid fun U hU => ⟨⟨(hU.cell (World.block_lt_of_cell? w _ x0)).trans x0, (hU.cell (World.block_lt_of_cell? w _ x1)).trans x1, (hU.cell (World.block_lt_of_cell? w _ x2)).trans x2, (hU.cell (World.block_lt_of_cell? w _ x3)).trans x3⟩, hU⟩
  have s0 := HS.out w.drew (Below.refl _ _).drew
  clear hF hs hf hT hx x0 x1 x2 x3
  go_enter Try.func67, Try.ntmps67
  go_wp2_with fail
  go_region_held3 (fun U => ((U.cell? ⟨g, 0, none⟩ = some (.slice F.o.a F.o.l.length F.o.c) ∧ U.cell? ⟨g, 1, none⟩ = some (.slice F.t.a F.t.R.length F.t.c) ∧ U.cell? ⟨g + 1, 0, none⟩ = some (.slice s.a s.l.length s.c) ∧ U.cell? ⟨g + 1 + 1, 0, none⟩ = some (.int .i64 part)) ∧ Below w.heap.size w U)) (first | exact s0 | exact keep_reg HS.out (by first | assumption | exact And.right (by assumption)) hb1) ((go_at_call 42; refine (show Calls _ _ _ _ _ from C1.out _ (by first | assumption | exact And.right (by assumption))).mono ?_; rintro e u1 ⟨rfl, hb1⟩))
  all_goals
    refine at_exit (W := w) (by first | assumption | exact And.right (by assumption)) ?_
    intro W8 hb8
    go_wp2
    go_ret
    exact ⟨by rw [HE.out]; rfl, hb8⟩

set_option maxRecDepth 16000 in
set_option maxHeartbeats 1500000 in
theorem searchW_any (p : Nat → Bool) (r g : Nat) (w : World) (h1 : r ≤ 1000) (h2 : ∀ k, k < r → p k = false) (h3 : r < 1000 → p r = true) (hm : ∀ j k, j ≤ k → p j = true → p k = true)
    (hf : ∀ h : Nat, h < 1000 → ∀ W, Below w.heap.size w W → Calls Try.prog 67 #[.int .i64 (h : Int), .pointer (some ⟨g, 0, none⟩), .pointer (some ⟨g + 1, 0, none⟩), .pointer (some ⟨g + 1 + 1, 0, none⟩)] W fun e w' => e = .returned (.bool (p h)) ∧ Below W.heap.size W w') :
    Calls Try.prog 66 #[.int .i64 1000, .func (.func 67) #[] #[.pointer (some ⟨g, 0, none⟩), .pointer (some ⟨g + 1, 0, none⟩), .pointer (some ⟨g + 1 + 1, 0, none⟩)]] w fun e w' => e = .returned (.int .i64 (r : Int)) ∧ Below w.heap.size w w' := by
  have HF := Lib.hid hf
  have H2 : Hid (∀ k, p k = false → k < 1000 → k < r) := Lib.hid fun k hk hk2 => by
    by_cases hkr : k < r
    · exact hkr
    · exfalso
      have := hm r k (by omega) (h3 (by omega))
      rw [hk] at this; cases this
  have H3 : Hid (∀ k, p k = true → r ≤ k) := Lib.hid fun k hk => by
    by_cases hkr : k < r
    · exfalso; rw [h2 k hkr] at hk; cases hk
    · omega
  clear hf h2 h3 hm
  go_enter Try.func66, Try.ntmps66
  go_wp2
  go_loopw [5, 6, 7] (fun iv' jv _ wr => ∃ i j : Nat, i ≤ r ∧ r ≤ j ∧ j ≤ 1000 ∧ iv' = .int .i64 i ∧ jv = .int .i64 j ∧ Below w.heap.size w wr) (fun iv' jv _ _ => (intOf jv).toNat - (intOf iv').toNat)
  case atStart => exact ⟨0, 1000, Nat.zero_le _, h1, Nat.le_refl _, rfl, rfl, Below.refl _ _⟩
  case round =>
    obtain ⟨i, j, hi, hj, hj2, rfl, rfl, hnx⟩ := hrel
    by_cases hlt : i < j
    · have hlti : (i : Int) < (j : Int) := by omega
      obtain ⟨h, hh⟩ : ∃ h, h = (i + j) / 2 := ⟨_, rfl⟩
      have hhi : ((i : Int) + (j : Int)) / 2 = (h : Int) := by rw [hh]; push_cast; rfl
      have hih : i ≤ h := by omega
      have hhj : h < j := by omega
      have e1 : (0 : Int) ≤ (i : Int) + (j : Int) := by omega
      have e2 : (i : Int) + (j : Int) ≤ 2000 := by omega
      have w1 : IntKind.u64.wrap ((i : Int) + (j : Int)) = (i : Int) + (j : Int) := by rw [IntKind.wrap_u64]; omega
      have w2 : IntKind.i64.wrap (h : Int) = (h : Int) := IntWalk.i64_in _ (by omega)
      obtain ⟨v, hv⟩ : ∃ v, v = p h := ⟨_, rfl⟩
      have CF := Lib.hid (by have := HF.out h (by omega) wr hnx; rw [← hv] at this; exact this)
      have HV := Lib.hid hv
      have HNX := Lib.hid hnx
      clear hh hv hnx
      go_wp2_with fail
      refine (show Calls _ _ _ _ _ from CF.out).mono ?_
      rintro e W1 ⟨rfl, hb1⟩
      have R2 := Lib.hid (HNX.out.trans (hb1.mono HNX.out.size))
      clear hb1
      cases v with
      | true =>
        have hr := H3.out h HV.out.symm
        go_wp2
        go_roundw
        case rel => exact ⟨i, h, hi, hr, by omega, rfl, rfl, R2.out⟩
        case measure => simp [intOf]; omega
      | false =>
        have hr := H2.out h HV.out.symm (by omega)
        go_wp2
        go_roundw
        case rel => exact ⟨h + 1, j, by omega, hj, hj2, by go_num, rfl, R2.out⟩
        case measure => simp [intOf]; omega
    · obtain rfl : i = r := by omega
      go_wp2
      go_ret
      exact ⟨rfl, hnx⟩
end Go.Proofs.Ytmddijibplkngaa
