/- Marks of near sites. Condition: the row reads as such, at most seven numbers. -/
import Derived.Test.YtjeodblaekdpkaaPairIsMetric
import Derived.IntWalk
import Derived.ChangeKeysEq
namespace Go.Proofs.Ytjeodblaekdpkaa
open Go.RowKit

/-- The marks of a row's sites. -/
def arr7 (p : Nat → Bool) : Array Value := #[.bool (p 0), .bool (p 1), .bool (p 2), .bool (p 3), .bool (p 4), .bool (p 5), .bool (p 6)]
def nearV (p : Nat → Bool) : Value := .agg (arr7 p)
def nearAt (l : List Int) (r : Int) (k : Nat) (a : Nat) : Bool := decide (a < k) && decide (l.getD a 0 ≤ r)
theorem lt7 {k : Nat} (h : k < 7) : k = 0 ∨ k = 1 ∨ k = 2 ∨ k = 3 ∨ k = 4 ∨ k = 5 ∨ k = 6 := by omega
theorem arr7_at {p : Nat → Bool} {k : Nat} (h : k < 7) : (arr7 p)[k]? = some (.bool (p k)) := by
  rcases lt7 h with rfl | rfl | rfl | rfl | rfl | rfl | rfl <;> rfl
theorem arr7_eq {p q : Nat → Bool} (h : ∀ k, k < 7 → p k = q k) : arr7 p = arr7 q := by
  unfold arr7; rw [h 0 (by omega), h 1 (by omega), h 2 (by omega), h 3 (by omega), h 4 (by omega), h 5 (by omega), h 6 (by omega)]
/-- A block of seven marks. -/
def Near7 (w : World) (B : Nat) (p : Nat → Bool) : Prop := w.heap[B]? = some (.cells (arr7 p) 93 (0, 0))
theorem Near7.lt {w : World} {B : Nat} {p : Nat → Bool} (h : Near7 w B p) : B < w.heap.size := (Array.getElem?_eq_some_iff.1 h).1
theorem Near7.cell {w : World} {B : Nat} {p : Nat → Bool} (h : Near7 w B p) {k : Nat} (hk : k < 7) : w.cell? ⟨B, k, none⟩ = some (.bool (p k)) := by
  simp only [World.cell?, show w.heap[B]? = _ from h]
  exact arr7_at hk
theorem Near7.frozen {w : World} {B : Nat} {p : Nat → Bool} (h : Near7 w B p) (k : Nat) : w.frozen? ⟨B, k, none⟩ = false := by simp [World.frozen?, show w.heap[B]? = _ from h]
theorem Near7.on {w w' : World} {B : Nat} {p : Nat → Bool} (h : Near7 w B p) (t : Below w.heap.size w w') : Near7 w' B p := (t.block B h.lt).trans h
theorem Near7.set {w : World} {B : Nat} {p : Nat → Bool} (h : Near7 w B p) {k : Nat} (hk : k < 7) (b : Bool) : Near7 (w.setCell ⟨B, k, none⟩ (.bool b)) B (fun a => if a = k then b else p a) := by
  obtain ⟨hlt, hh⟩ := Array.getElem?_eq_some_iff.1 h
  show (w.heap.modify B _)[B]? = _
  rw [Array.getElem?_eq_getElem (by rw [Array.size_modify]; exact hlt), Array.getElem_modify_self, hh]
  rcases lt7 hk with rfl | rfl | rfl | rfl | rfl | rfl | rfl <;> rfl
theorem Near7.cells {w : World} {B : Nat} {p : Nat → Bool} (h : Near7 w B p) : (w.cell? ⟨B, 0, none⟩ = some (.bool (p 0)) ∧ w.cell? ⟨B, 1, none⟩ = some (.bool (p 1)) ∧ w.cell? ⟨B, 2, none⟩ = some (.bool (p 2)) ∧ w.cell? ⟨B, 3, none⟩ = some (.bool (p 3))) ∧ w.cell? ⟨B, 4, none⟩ = some (.bool (p 4)) ∧ w.cell? ⟨B, 5, none⟩ = some (.bool (p 5)) ∧ w.cell? ⟨B, 6, none⟩ = some (.bool (p 6)) :=
  ⟨⟨h.cell (by omega), h.cell (by omega), h.cell (by omega), h.cell (by omega)⟩, h.cell (by omega), h.cell (by omega), h.cell (by omega)⟩
/-- Seven marks that are stored. -/
theorem Near7.all {w : World} {B : Nat} {p : Nat → Bool} (h : Near7 w B p) (q : Nat → Bool) :
    Near7 (((((((w.setCell ⟨B, 0, none⟩ (.bool (q 0))).setCell ⟨B, 1, none⟩ (.bool (q 1))).setCell ⟨B, 2, none⟩ (.bool (q 2))).setCell ⟨B, 3, none⟩ (.bool (q 3))).setCell ⟨B, 4, none⟩ (.bool (q 4))).setCell ⟨B, 5, none⟩ (.bool (q 5))).setCell ⟨B, 6, none⟩ (.bool (q 6))) B q := by
  have h7 := ((((((h.set (k := 0) (by omega) (q 0)).set (k := 1) (by omega) (q 1)).set (k := 2) (by omega) (q 2)).set (k := 3) (by omega) (q 3)).set (k := 4) (by omega) (q 4)).set (k := 5) (by omega) (q 5)).set (k := 6) (by omega) (q 6)
  exact h7
theorem below_all {w w' : World} {A B : Nat} (h : Below A w w') (hB : A ≤ B) (q : Nat → Bool) :
    Below A w (((((((w'.setCell ⟨B, 0, none⟩ (.bool (q 0))).setCell ⟨B, 1, none⟩ (.bool (q 1))).setCell ⟨B, 2, none⟩ (.bool (q 2))).setCell ⟨B, 3, none⟩ (.bool (q 3))).setCell ⟨B, 4, none⟩ (.bool (q 4))).setCell ⟨B, 5, none⟩ (.bool (q 5))).setCell ⟨B, 6, none⟩ (.bool (q 6))) :=
  ((((((h.setCell (p := ⟨B, 0, none⟩) hB _).setCell (p := ⟨B, 1, none⟩) hB _).setCell (p := ⟨B, 2, none⟩) hB _).setCell (p := ⟨B, 3, none⟩) hB _).setCell (p := ⟨B, 4, none⟩) hB _).setCell (p := ⟨B, 5, none⟩) hB _).setCell (p := ⟨B, 6, none⟩) hB _
theorem Near7.far {w : World} {B g : Nat} {p : Nat → Bool} (h : Near7 w B p) (k : Nat) (v : Value) (hne : B ≠ g) : Near7 (w.setCell ⟨g, k, none⟩ v) B p :=
  (Below.heap_setCell w ⟨g, k, none⟩ v B (fun e => hne (by simpa using e))).trans h

set_option maxHeartbeats 2000000 in
theorem sitesWithin_any (s : Row) (r : Int) (w : World) (hs : s.At w) (h7 : s.l.length ≤ 7) :
    Calls Try.prog 96 #[.slice s.a s.l.length s.c, .int .i64 r] w fun e w' => e = .returned (nearV (nearAt s.l r s.l.length)) ∧ Below w.heap.size w w' := by
  obtain ⟨a, c, l⟩ := s
  obtain ⟨h1, h2, h3⟩ := hs
  simp only at h1 h2 h3 h7 ⊢
  have hni : (l.length : Int) ≤ 7 := by omega
  have HR := Lib.hid h3
  obtain ⟨V, hV⟩ : ∃ V, V = (w.alloc (Obj.cells #[.bool false, .bool false, .bool false, .bool false, .bool false, .bool false, .bool false] 93)).alloc (Obj.cells #[.bool false, .bool false, .bool false, .bool false, .bool false, .bool false, .bool false] 93) := ⟨_, rfl⟩
  have HB0 : Hid (Below w.heap.size w V) := Lib.hid (by rw [hV]; exact (below_alloc _ _).alloc (by rw [size_alloc]; omega) _)
  have N4 : Hid (Near7 V w.heap.size (fun _ => false)) := Lib.hid (by
    rw [hV]
    exact (Below.heap_alloc _ _ _ (by rw [size_alloc]; omega)).trans (heap_alloc_new w _))
  have N5 : Hid (Near7 V (w.heap.size + 1) (nearAt l r 0)) := Lib.hid (by
    rw [hV]
    have := heap_alloc_new (w.alloc (Obj.cells #[.bool false, .bool false, .bool false, .bool false, .bool false, .bool false, .bool false] 93)) (Obj.cells #[.bool false, .bool false, .bool false, .bool false, .bool false, .bool false, .bool false] 93)
    rw [size_alloc] at this; exact this)
  have HVV := Lib.hid hV
  clear h3 hV
  go_enter Try.func96, Try.ntmps96
  go_wp2
  rw [show (w.alloc (Obj.cells #[.bool false, .bool false, .bool false, .bool false, .bool false, .bool false, .bool false] 93)).alloc (Obj.cells #[.bool false, .bool false, .bool false, .bool false, .bool false, .bool false, .bool false] 93) = V from HVV.out.symm]
  go_loopw [6, 7, 11] (fun _ _ i wr => ∃ k : Nat, k ≤ l.length ∧ i = .int .i64 k ∧ Near7 wr (w.heap.size + 1) (nearAt l r k) ∧ Near7 wr w.heap.size (fun _ => false) ∧ Below w.heap.size w wr) (fun _ _ i _ => l.length - (intOf i).toNat)
  case atStart => exact ⟨0, Nat.zero_le _, rfl, N5.out, N4.out, HB0.out⟩
  case round =>
    obtain ⟨k, hk, rfl, hn5, hn4, hnx⟩ := hrel
    have H5 := Lib.hid hn5
    have H4 := Lib.hid hn4
    have HN := Lib.hid hnx
    clear hn5 hn4
    by_cases hlt : k < l.length
    · have hlti : (k : Int) < (l.length : Int) := by omega
      have hk7 : (k : Int) < 7 := by omega
      rcases HR.out with h3 | ⟨b, o, rfl, hbb, hcell⟩
      · have h3' := congrArg List.length (iv_nil h3); rw [List.length_nil] at h3'; omega
      obtain ⟨x, hx⟩ : ∃ x, x = l[k] := ⟨_, rfl⟩
      have hcl : wr.cell? ⟨b, o + k, none⟩ = some (.int .i64 x) := (hnx.cell (p := ⟨b, o + k, none⟩) hbb).trans (by rw [hx]; exact hcell k _ (iv_at hlt))
      have hck := H5.out.cell (k := k) (by omega)
      have hfk := H5.out.frozen k
      have HX : Hid (l.getD k 0 = x) := Lib.hid (by rw [getD_at hlt, hx])
      have HST : Hid (∀ b : Bool, decide (x ≤ r) = b → Near7 (wr.setCell ⟨w.heap.size + 1, k, none⟩ (.bool b)) (w.heap.size + 1) (nearAt l r (k + 1)) ∧ Near7 (wr.setCell ⟨w.heap.size + 1, k, none⟩ (.bool b)) w.heap.size (fun _ => false) ∧ Below w.heap.size w (wr.setCell ⟨w.heap.size + 1, k, none⟩ (.bool b))) := Lib.hid fun b hb => by
        refine ⟨?_, H4.out.far _ _ (by omega), HN.out.setCell (p := ⟨w.heap.size + 1, k, none⟩) (by simp only; omega) _⟩
        have := H5.out.set (k := k) (by omega) b
        unfold Near7 at this ⊢
        rw [this]
        congr 2
        refine arr7_eq fun a ha => ?_
        unfold nearAt
        by_cases e : a = k
        · subst e; rw [if_pos rfl, HX.out, hb]; simp
        · rw [if_neg e]
          by_cases e2 : a < k
          · rw [decide_eq_true e2, decide_eq_true (by omega : a < k + 1)]
          · rw [decide_eq_false e2, decide_eq_false (by omega : ¬ a < k + 1)]
      clear hx hcell hnx
      by_cases hxr : x ≤ r
      · have HS := Lib.hid (HST.out true (by simpa using hxr))
        go_wp2
        go_roundw
        case rel => exact ⟨k + 1, by omega, by go_num, HS.out⟩
        case measure => simp [intOf]; omega
      · have HS := Lib.hid (HST.out false (by simpa using hxr))
        go_wp2
        go_roundw
        case rel => exact ⟨k + 1, by omega, by go_num, HS.out⟩
        case measure => simp [intOf]; omega
    · obtain rfl : k = l.length := by omega
      obtain ⟨q, hq⟩ : ∃ q, q = nearAt l r l.length := ⟨_, rfl⟩
      have hn5 := H5.out
      rw [← hq] at hn5
      have HQ := Lib.hid hq
      obtain ⟨⟨c0, c1, c2, c3⟩, c4, c5, c6⟩ := hn5.cells
      obtain ⟨⟨d0, d1, d2, d3⟩, d4, d5, d6⟩ := H4.out.cells
      have e0 := H4.out.frozen 0
      have e1 := H4.out.frozen 1
      have e2 := H4.out.frozen 2
      have e3 := H4.out.frozen 3
      have e4 := H4.out.frozen 4
      have e5 := H4.out.frozen 5
      have e6 := H4.out.frozen 6
      obtain ⟨W9, hW9⟩ : ∃ W9, W9 = (((((((wr.setCell ⟨w.heap.size, 0, none⟩ (.bool (q 0))).setCell ⟨w.heap.size, 1, none⟩ (.bool (q 1))).setCell ⟨w.heap.size, 2, none⟩ (.bool (q 2))).setCell ⟨w.heap.size, 3, none⟩ (.bool (q 3))).setCell ⟨w.heap.size, 4, none⟩ (.bool (q 4))).setCell ⟨w.heap.size, 5, none⟩ (.bool (q 5))).setCell ⟨w.heap.size, 6, none⟩ (.bool (q 6))) := ⟨_, rfl⟩
      have HN9 : Hid (Near7 W9 w.heap.size q) := Lib.hid (by rw [hW9]; exact H4.out.all q)
      have HB9 : Hid (Below w.heap.size w W9) := Lib.hid (by rw [hW9]; exact below_all HN.out (Nat.le_refl _) q)
      have HW9 := Lib.hid hW9
      clear hW9 hn5 hq
      go_wp2
      rw [show (((((((wr.setCell ⟨w.heap.size, 0, none⟩ (.bool (q 0))).setCell ⟨w.heap.size, 1, none⟩ (.bool (q 1))).setCell ⟨w.heap.size, 2, none⟩ (.bool (q 2))).setCell ⟨w.heap.size, 3, none⟩ (.bool (q 3))).setCell ⟨w.heap.size, 4, none⟩ (.bool (q 4))).setCell ⟨w.heap.size, 5, none⟩ (.bool (q 5))).setCell ⟨w.heap.size, 6, none⟩ (.bool (q 6))) = W9 from HW9.out.symm]
      obtain ⟨⟨r0, r1, r2, r3⟩, r4, r5, r6⟩ := HN9.out.cells
      refine bodyPost_ret (v := nearV q) (by simp [results, Try.results96, go_sem, r0, r1, r2, r3, r4, r5, r6, nearV, arr7]) rfl ?_
      exact ⟨by rw [HQ.out], HB9.out⟩

set_option maxRecDepth 16000 in
/-- Seven marks compared with none. -/
theorem eq7 (b0 b1 b2 b3 b4 b5 b6 : Bool) (W : World) :
    (Op.equalIn 10000 93 (.agg #[.bool b0, .bool b1, .bool b2, .bool b3, .bool b4, .bool b5, .bool b6]) (.agg #[.bool false, .bool false, .bool false, .bool false, .bool false, .bool false, .bool false])).run Try.prog W = .ok (!b0 && !b1 && !b2 && !b3 && !b4 && !b5 && !b6) W := by
  obtain ⟨i, hi⟩ : ∃ i, Try.prog.info? 4 = some i := Option.isSome_iff_exists.1 (by kernel_rfl)
  rw [run_equalIn_array (w := W) 9999 _ _ Try.underlying93 hi]
  obtain ⟨r, hr, hiff⟩ := run_eqItems_plain (P := Try.prog) (w := W) 9998 (e := 4) (by kernel_rfl) #[.bool b0, .bool b1, .bool b2, .bool b3, .bool b4, .bool b5, .bool b6] #[.bool false, .bool false, .bool false, .bool false, .bool false, .bool false, .bool false] (D := 1) (D' := 1) (List.range 7)
    [[.bool b0], [.bool b1], [.bool b2], [.bool b3], [.bool b4], [.bool b5], [.bool b6]] [[.bool false], [.bool false], [.bool false], [.bool false], [.bool false], [.bool false], [.bool false]] (by kernel_rfl) (by kernel_rfl)
  rw [hr]
  congr 1
  rw [Bool.eq_iff_iff, hiff]
  simp [and_assoc]

set_option maxRecDepth 16000 in
set_option maxHeartbeats 2000000 in
theorem isEmpty_any (p : Nat → Bool) (w : World) :
    Calls Try.prog 97 #[nearV p] w fun e w' => e = .returned (.bool (!p 0 && !p 1 && !p 2 && !p 3 && !p 4 && !p 5 && !p 6)) ∧ Below w.heap.size w w' := by
  unfold nearV arr7
  generalize p 0 = b0
  generalize p 1 = b1
  generalize p 2 = b2
  generalize p 3 = b3
  generalize p 4 = b4
  generalize p 5 = b5
  generalize p 6 = b6
  have HB := Lib.hid (below_alloc w (Obj.cells #[.bool b0, .bool b1, .bool b2, .bool b3, .bool b4, .bool b5, .bool b6] 93))
  have E := eq7 b0 b1 b2 b3 b4 b5 b6
  go_enter Try.func97, Try.ntmps97
  go_wp2
  go_ret
  exact ⟨rfl, HB.out⟩

set_option maxRecDepth 16000 in
theorem index7 (q : Nat → Bool) {k : Nat} (hk : k < 7) (W : World) :
    (Instr.index 93 (.agg #[.bool (q 0), .bool (q 1), .bool (q 2), .bool (q 3), .bool (q 4), .bool (q 5), .bool (q 6)]) (.int .i64 (k : Int))).run Try.prog W = .ok (.bool (q k)) W := by
  rcases lt7 hk with rfl | rfl | rfl | rfl | rfl | rfl | rfl
  all_goals kernel_rfl

set_option maxRecDepth 16000 in
set_option maxHeartbeats 4000000 in
theorem shared_any (p q : Nat → Bool) (w : World) :
    Calls Try.prog 114 #[nearV p, nearV q] w fun e w' => e = .returned (nearV (fun a => p a && q a)) ∧ Below w.heap.size w w' := by
  obtain ⟨V, hV⟩ : ∃ V, V = ((w.alloc (Obj.cells (arr7 p) 93)).alloc (Obj.cells (arr7 q) 93)).alloc (Obj.cells #[.bool false, .bool false, .bool false, .bool false, .bool false, .bool false, .bool false] 93) := ⟨_, rfl⟩
  have HB0 : Hid (Below w.heap.size w V) := Lib.hid (by rw [hV]; exact ((below_alloc _ _).alloc (by rw [size_alloc]; omega) _).alloc (by rw [size_alloc, size_alloc]; omega) _)
  have N2 : Hid (Near7 V w.heap.size p) := Lib.hid (by
    rw [hV]
    exact (Below.heap_alloc _ _ _ (by rw [size_alloc, size_alloc]; omega)).trans ((Below.heap_alloc _ _ _ (by rw [size_alloc]; omega)).trans (heap_alloc_new w _)))
  have N3 : Hid (Near7 V (w.heap.size + 1) q) := Lib.hid (by
    rw [hV]
    have h := heap_alloc_new (w.alloc (Obj.cells (arr7 p) 93)) (Obj.cells (arr7 q) 93)
    rw [size_alloc] at h
    exact (Below.heap_alloc _ _ _ (by rw [size_alloc, size_alloc]; omega)).trans h)
  have N4 : Hid (Near7 V (w.heap.size + 2) (fun _ => false)) := Lib.hid (by
    rw [hV]
    have h := heap_alloc_new ((w.alloc (Obj.cells (arr7 p) 93)).alloc (Obj.cells (arr7 q) 93)) (Obj.cells #[.bool false, .bool false, .bool false, .bool false, .bool false, .bool false, .bool false] 93)
    rw [size_alloc, size_alloc] at h
    exact h)
  have HVV : Hid (V = ((w.alloc (Obj.cells #[.bool (p 0), .bool (p 1), .bool (p 2), .bool (p 3), .bool (p 4), .bool (p 5), .bool (p 6)] 93)).alloc (Obj.cells #[.bool (q 0), .bool (q 1), .bool (q 2), .bool (q 3), .bool (q 4), .bool (q 5), .bool (q 6)] 93)).alloc (Obj.cells #[.bool false, .bool false, .bool false, .bool false, .bool false, .bool false, .bool false] 93)) := Lib.hid hV
  obtain ⟨⟨x0, x1, x2, x3⟩, x4, x5, x6⟩ := N3.out.cells
  rw [HVV.out] at x0 x1 x2 x3 x4 x5 x6
  clear hV
  show Calls _ _ #[.agg #[.bool (p 0), .bool (p 1), .bool (p 2), .bool (p 3), .bool (p 4), .bool (p 5), .bool (p 6)], .agg #[.bool (q 0), .bool (q 1), .bool (q 2), .bool (q 3), .bool (q 4), .bool (q 5), .bool (q 6)]] _ _
  go_enter Try.func114, Try.ntmps114
  go_wp2
  rw [show ((w.alloc (Obj.cells #[.bool (p 0), .bool (p 1), .bool (p 2), .bool (p 3), .bool (p 4), .bool (p 5), .bool (p 6)] 93)).alloc (Obj.cells #[.bool (q 0), .bool (q 1), .bool (q 2), .bool (q 3), .bool (q 4), .bool (q 5), .bool (q 6)] 93)).alloc (Obj.cells #[.bool false, .bool false, .bool false, .bool false, .bool false, .bool false, .bool false] 93) = V from HVV.out.symm]
  clear x0 x1 x2 x3 x4 x5 x6
  go_loopw [5, 6, 8] (fun _ _ i wr => ∃ k : Nat, k ≤ 7 ∧ i = .int .i64 k ∧ Near7 wr w.heap.size (fun a => p a && (q a || decide (k ≤ a))) ∧ Near7 wr (w.heap.size + 2) (fun _ => false) ∧ Below w.heap.size w wr) (fun _ _ i _ => 7 - (intOf i).toNat)
  case atStart => exact ⟨0, Nat.zero_le _, rfl, by have := N2.out; unfold Near7 at this ⊢; rw [this]; congr 2; exact arr7_eq fun a _ => by simp, N4.out, HB0.out⟩
  case round =>
    obtain ⟨k, hk, rfl, hn2, hn4, hnx⟩ := hrel
    have H2 := Lib.hid hn2
    have H4 := Lib.hid hn4
    have HN := Lib.hid hnx
    clear hn2 hn4 hnx
    by_cases hlt : k < 7
    · have HST : ∀ b : Bool, b = (p k && q k) → Near7 (wr.setCell ⟨w.heap.size, k, none⟩ (.bool b)) w.heap.size (fun a => p a && (q a || decide (k + 1 ≤ a))) ∧ Near7 (wr.setCell ⟨w.heap.size, k, none⟩ (.bool b)) (w.heap.size + 2) (fun _ => false) ∧ Below w.heap.size w (wr.setCell ⟨w.heap.size, k, none⟩ (.bool b)) := fun b hb => by
        refine ⟨?_, H4.out.far _ _ (by omega), HN.out.setCell (p := ⟨w.heap.size, k, none⟩) (Nat.le_refl _) _⟩
        have := H2.out.set (k := k) hlt b
        unfold Near7 at this ⊢
        rw [this]
        congr 2
        refine arr7_eq fun a ha => ?_
        by_cases e : a = k
        · subst e; rw [if_pos rfl, hb, decide_eq_false (by omega : ¬ a + 1 ≤ a)]; simp
        · rw [if_neg e]
          by_cases e2 : k ≤ a
          · rw [decide_eq_true e2, decide_eq_true (by omega : k + 1 ≤ a)]
          · rw [decide_eq_false e2, decide_eq_false (by omega : ¬ k + 1 ≤ a)]
      have hki : (k : Int) < 7 := by omega
      have hidx := index7 q hlt
      have hck : wr.cell? ⟨w.heap.size, k, none⟩ = some (.bool (p k)) := by have := H2.out.cell (k := k) (by omega); simpa using this
      have hfk := H2.out.frozen k
      have HS := Lib.hid HST
      obtain ⟨b, hb⟩ : ∃ b, b = p k := ⟨_, rfl⟩
      rw [← hb] at hck
      have HBB := Lib.hid hb
      clear hb HST
      cases b with
      | true =>
        have HS1 := Lib.hid (HS.out (q k) (by rw [← HBB.out]; rfl))
        go_wp2
        go_roundw
        case rel => exact ⟨k + 1, by omega, by go_num, HS1.out⟩
        case measure => simp [intOf]; omega
      | false =>
        have HS1 := Lib.hid (HS.out false (by rw [← HBB.out]; rfl))
        go_wp2
        go_roundw
        case rel => exact ⟨k + 1, by omega, by go_num, HS1.out⟩
        case measure => simp [intOf]; omega
    · obtain rfl : k = 7 := by omega
      have hn2 : Near7 wr w.heap.size (fun a => p a && q a) := by
        have := H2.out
        unfold Near7 at this ⊢
        rw [this]; congr 2
        exact arr7_eq fun a ha => by rw [decide_eq_false (by omega : ¬ 7 ≤ a)]; simp
      obtain ⟨u, hu⟩ : ∃ u : Nat → Bool, u = fun a => p a && q a := ⟨_, rfl⟩
      rw [← hu] at hn2
      obtain ⟨⟨c0, c1, c2, c3⟩, c4, c5, c6⟩ := hn2.cells
      obtain ⟨⟨d0, d1, d2, d3⟩, d4, d5, d6⟩ := H4.out.cells
      have e0 := H4.out.frozen 0
      have e1 := H4.out.frozen 1
      have e2 := H4.out.frozen 2
      have e3 := H4.out.frozen 3
      have e4 := H4.out.frozen 4
      have e5 := H4.out.frozen 5
      have e6 := H4.out.frozen 6
      obtain ⟨W9, hW9⟩ : ∃ W9, W9 = (((((((wr.setCell ⟨w.heap.size + 2, 0, none⟩ (.bool (u 0))).setCell ⟨w.heap.size + 2, 1, none⟩ (.bool (u 1))).setCell ⟨w.heap.size + 2, 2, none⟩ (.bool (u 2))).setCell ⟨w.heap.size + 2, 3, none⟩ (.bool (u 3))).setCell ⟨w.heap.size + 2, 4, none⟩ (.bool (u 4))).setCell ⟨w.heap.size + 2, 5, none⟩ (.bool (u 5))).setCell ⟨w.heap.size + 2, 6, none⟩ (.bool (u 6))) := ⟨_, rfl⟩
      have HN9 : Hid (Near7 W9 (w.heap.size + 2) u) := Lib.hid (by rw [hW9]; exact H4.out.all u)
      have HB9 : Hid (Below w.heap.size w W9) := Lib.hid (by rw [hW9]; exact below_all HN.out (by omega) u)
      have HW9 := Lib.hid hW9
      have HU := Lib.hid hu
      clear hW9 hn2 hu
      go_wp2
      rw [show (((((((wr.setCell ⟨w.heap.size + 2, 0, none⟩ (.bool (u 0))).setCell ⟨w.heap.size + 2, 1, none⟩ (.bool (u 1))).setCell ⟨w.heap.size + 2, 2, none⟩ (.bool (u 2))).setCell ⟨w.heap.size + 2, 3, none⟩ (.bool (u 3))).setCell ⟨w.heap.size + 2, 4, none⟩ (.bool (u 4))).setCell ⟨w.heap.size + 2, 5, none⟩ (.bool (u 5))).setCell ⟨w.heap.size + 2, 6, none⟩ (.bool (u 6))) = W9 from HW9.out.symm]
      obtain ⟨⟨r0, r1, r2, r3⟩, r4, r5, r6⟩ := HN9.out.cells
      refine bodyPost_ret (v := nearV u) (by simp [results, Try.results114, go_sem, r0, r1, r2, r3, r4, r5, r6, nearV, arr7]) rfl ?_
      exact ⟨by rw [HU.out], HB9.out⟩
end Go.Proofs.Ytjeodblaekdpkaa
