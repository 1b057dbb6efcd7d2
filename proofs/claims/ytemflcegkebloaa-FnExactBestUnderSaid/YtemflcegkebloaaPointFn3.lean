/- The point of a set, for each two objectives: the program's side. Condition: a valid Field and a set of its sites. -/
import Derived.Test.YtemflcegkebloaaPointsI
namespace Go.Proofs.Ytemflcegkebloaa
open Go.RowKit

set_option maxRecDepth 16000 in
set_option maxHeartbeats 1500000 in
theorem pt31_any (F : Fld) (s : Row) (T : List Nat) (b1 b2 g1 g2 : Nat) (w : World) (hF : F.At w) (hs : s.At w) (hf : Fine F s T) (ha : Able F s T) (bx1 : Box2 w g1 F.o.val F.t.val 29) (bx2 : Box2 w g2 F.o.val F.t.val 29)
    (c1 : w.cell? ⟨b1, 0, none⟩ = some (.func (.func 69) #[] #[.pointer (some ⟨g1, 0, none⟩)])) (c2 : w.cell? ⟨b2, 0, none⟩ = some (.func (.func 65) #[] #[.pointer (some ⟨g2, 0, none⟩)])) :
    Calls Try.prog 54 #[.slice s.a s.l.length s.c, .pointer (some ⟨b1, 0, none⟩), .pointer (some ⟨b2, 0, none⟩)] w fun e w' => e = .returned (.agg #[.int .i64 (objV F T 3), .int .i64 (objV F T 1)]) ∧ Below w.heap.size w w' := by
  obtain ⟨wA, hA⟩ : ∃ u, u = w.alloc (.cells #[.int .i64 0, .int .i64 0] 58) := ⟨_, rfl⟩
  have hbA : Below w.heap.size w wA := by rw [hA]; exact below_alloc w _
  have hsA : wA.heap.size = w.heap.size + 1 := by rw [hA]; simp
  have hn : wA.heap[w.heap.size]? = some (.cells #[.int .i64 0, .int .i64 0] 58) := by rw [hA]; exact heap_alloc_new w _
  obtain ⟨x, hx⟩ : ∃ x, x = objV F T 3 := ⟨_, rfl⟩
  obtain ⟨y, hy⟩ : ∃ y, y = objV F T 1 := ⟨_, rfl⟩
  have C1 := Lib.hid (fun u (hu : Below wA.heap.size wA u) => (by rw [hx]; exact objFn3_any F s T g1 u (hF.on (hbA.trans (hu.mono hbA.size))) (hs.on (hbA.trans (hu.mono hbA.size))) hf ha (bx1.on (hbA.trans (hu.mono hbA.size))) : Calls Try.prog 69 #[.slice s.a s.l.length s.c, .pointer (some ⟨g1, 0, none⟩)] u fun e w' => e = .returned (.int .i64 x) ∧ Below u.heap.size u w'))
  have C2 := Lib.hid (fun u (hu : Below wA.heap.size wA u) => (by rw [hy]; exact objFn1_any F s T g2 u (hF.on (hbA.trans (hu.mono hbA.size))) (hs.on (hbA.trans (hu.mono hbA.size))) hf ha (bx2.on (hbA.trans (hu.mono hbA.size))) : Calls Try.prog 65 #[.slice s.a s.l.length s.c, .pointer (some ⟨g2, 0, none⟩)] u fun e w' => e = .returned (.int .i64 y) ∧ Below u.heap.size u w'))
  have FC : Hid (∀ u, Below wA.heap.size wA u → u.cell? ⟨w.heap.size, 0, none⟩ = some (.int .i64 0) ∧ u.cell? ⟨w.heap.size, 1, none⟩ = some (.int .i64 0) ∧ u.frozen? ⟨w.heap.size, 0, none⟩ = false ∧ u.frozen? ⟨w.heap.size, 1, none⟩ = false) := Lib.hid fun u hu => by
    have h := (hu.block w.heap.size (by omega)).trans hn
    refine ⟨?_, ?_, ?_, ?_⟩ <;> simp [World.cell?, World.frozen?, h]
  have HW : Hid (∀ u, Below w.heap.size w u → ((u.cell? ⟨b1, 0, none⟩ = some (.func (.func 69) #[] #[.pointer (some ⟨g1, 0, none⟩)]) ∧ u.cell? ⟨b2, 0, none⟩ = some (.func (.func 65) #[] #[.pointer (some ⟨g2, 0, none⟩)])) ∧ Below w.heap.size w u)) := Lib.hid fun u hu => ⟨⟨(hu.cell (p := ⟨b1, 0, none⟩) (World.block_lt_of_cell? _ _ c1)).trans c1, (hu.cell (p := ⟨b2, 0, none⟩) (World.block_lt_of_cell? _ _ c2)).trans c2⟩, hu⟩
  have HK : Hid (∀ u, Below wA.heap.size wA u → ((u.cell? ⟨b1, 0, none⟩ = some (.func (.func 69) #[] #[.pointer (some ⟨g1, 0, none⟩)]) ∧ u.cell? ⟨b2, 0, none⟩ = some (.func (.func 65) #[] #[.pointer (some ⟨g2, 0, none⟩)])) ∧ Below w.heap.size w u)) := Lib.hid fun u hu => HW.out u (hbA.trans (hu.mono hbA.size))
  have hd0 : Below wA.heap.size wA wA.drew := (Below.refl _ _).drew
  have s0 := HK.out wA.drew hd0
  have HFIN : Hid (∀ u (v1 v2 : Value), Below wA.heap.size wA u → Below w.heap.size w ((u.setCell ⟨w.heap.size, 0, none⟩ v1).setCell ⟨w.heap.size, 1, none⟩ v2)) := Lib.hid fun u v1 v2 hu => by
    have t : Touch w.heap.size (w.heap.size + 1) u ((u.setCell ⟨w.heap.size, 0, none⟩ v1).setCell ⟨w.heap.size, 1, none⟩ v2) := ((Touch.refl _ _ u).set (Nat.le_refl _) (by omega) 0 v1).set (Nat.le_refl _) (by omega) 1 v2
    have h := hbA.trans (hu.mono hbA.size)
    exact h.trans (t.below (Nat.le_refl _) h.size)
  have HT : Hid (∀ u (v1 v2 : Value), Below wA.heap.size wA u → ((((u.setCell ⟨w.heap.size, 0, none⟩ v1).setCell ⟨w.heap.size, 1, none⟩ v2).cell? ⟨b1, 0, none⟩ = some (.func (.func 69) #[] #[.pointer (some ⟨g1, 0, none⟩)]) ∧ ((u.setCell ⟨w.heap.size, 0, none⟩ v1).setCell ⟨w.heap.size, 1, none⟩ v2).cell? ⟨b2, 0, none⟩ = some (.func (.func 65) #[] #[.pointer (some ⟨g2, 0, none⟩)])) ∧ Below w.heap.size w ((u.setCell ⟨w.heap.size, 0, none⟩ v1).setCell ⟨w.heap.size, 1, none⟩ v2))) := Lib.hid fun u v1 v2 hu => HW.out _ (HFIN.out u v1 v2 hu)
  have HH : Hid (∀ u (v1 v2 : Value), Below wA.heap.size wA u → ((u.setCell ⟨w.heap.size, 0, none⟩ v1).setCell ⟨w.heap.size, 1, none⟩ v2).heap[w.heap.size]? = some (.cells #[v1, v2] 58)) := Lib.hid fun u v1 v2 hu => by
    have h := (hu.block w.heap.size (by omega)).trans hn
    exact heap_setCell_same _ _ 1 _ _ v2 (heap_setCell_same _ _ 0 _ _ v1 h)
  have HX := Lib.hid hx
  have HY := Lib.hid hy
  have HA := Lib.hid hA
  rw [← hx]
  try rw [← hy]
  clear hF hs hf ha bx1 bx2 c1 c2 hn hx hy hA
  go_enter Try.func54, Try.ntmps54
  go_wp2_with fail
  rw [← HA.out]
  go_region_held3 (fun u => ((u.cell? ⟨b1, 0, none⟩ = some (.func (.func 69) #[] #[.pointer (some ⟨g1, 0, none⟩)]) ∧ u.cell? ⟨b2, 0, none⟩ = some (.func (.func 65) #[] #[.pointer (some ⟨g2, 0, none⟩)])) ∧ Below w.heap.size w u)) (first | exact s0 | exact HK.out _ (by assumption) | exact HT.out _ _ _ (by assumption)) (first | (go_at_call 69; refine (show Calls _ _ _ _ _ from C1.out _ (by assumption)).mono ?_; rintro e u1 ⟨rfl, hb1⟩; have hB1 : Below wA.heap.size wA u1 := keep_reg (S := fun u => Below wA.heap.size wA u) (fun _ h => h) (by assumption) hb1; obtain ⟨e0, e1, e2, e3⟩ := FC.out u1 hB1) | (go_at_call 65; refine (show Calls _ _ _ _ _ from C2.out _ (by assumption)).mono ?_; rintro e u1 ⟨rfl, hb1⟩; have hB1 : Below wA.heap.size wA u1 := keep_reg (S := fun u => Below wA.heap.size wA u) (fun _ h => h) (by assumption) hb1; obtain ⟨e0, e1, e2, e3⟩ := FC.out u1 hB1))
  all_goals
    go_wp2
    refine bodyPost_ret (results_cell_row rfl _ _ w.heap.size 58 _ (0, 0) _ rfl (HH.out _ _ _ (by assumption)) Try.underlying58 rfl (by kernel_rfl)) rfl ?_
    exact ⟨by first | rfl | (rw [HX.out, HY.out]), HFIN.out _ _ _ (by assumption)⟩

set_option maxRecDepth 16000 in
set_option maxHeartbeats 1500000 in
theorem pt32_any (F : Fld) (s : Row) (T : List Nat) (b1 b2 g1 g2 : Nat) (w : World) (hF : F.At w) (hs : s.At w) (hf : Fine F s T) (ha : Able F s T) (bx1 : Box2 w g1 F.o.val F.t.val 29) (bx2 : Box2 w g2 F.o.val F.t.val 29)
    (c1 : w.cell? ⟨b1, 0, none⟩ = some (.func (.func 69) #[] #[.pointer (some ⟨g1, 0, none⟩)])) (c2 : w.cell? ⟨b2, 0, none⟩ = some (.func (.func 67) #[] #[.pointer (some ⟨g2, 0, none⟩)])) :
    Calls Try.prog 54 #[.slice s.a s.l.length s.c, .pointer (some ⟨b1, 0, none⟩), .pointer (some ⟨b2, 0, none⟩)] w fun e w' => e = .returned (.agg #[.int .i64 (objV F T 3), .int .i64 (objV F T 2)]) ∧ Below w.heap.size w w' := by
  obtain ⟨wA, hA⟩ : ∃ u, u = w.alloc (.cells #[.int .i64 0, .int .i64 0] 58) := ⟨_, rfl⟩
  have hbA : Below w.heap.size w wA := by rw [hA]; exact below_alloc w _
  have hsA : wA.heap.size = w.heap.size + 1 := by rw [hA]; simp
  have hn : wA.heap[w.heap.size]? = some (.cells #[.int .i64 0, .int .i64 0] 58) := by rw [hA]; exact heap_alloc_new w _
  obtain ⟨x, hx⟩ : ∃ x, x = objV F T 3 := ⟨_, rfl⟩
  obtain ⟨y, hy⟩ : ∃ y, y = objV F T 2 := ⟨_, rfl⟩
  have C1 := Lib.hid (fun u (hu : Below wA.heap.size wA u) => (by rw [hx]; exact objFn3_any F s T g1 u (hF.on (hbA.trans (hu.mono hbA.size))) (hs.on (hbA.trans (hu.mono hbA.size))) hf ha (bx1.on (hbA.trans (hu.mono hbA.size))) : Calls Try.prog 69 #[.slice s.a s.l.length s.c, .pointer (some ⟨g1, 0, none⟩)] u fun e w' => e = .returned (.int .i64 x) ∧ Below u.heap.size u w'))
  have C2 := Lib.hid (fun u (hu : Below wA.heap.size wA u) => (by rw [hy]; exact objFn2_any F s T g2 u (hF.on (hbA.trans (hu.mono hbA.size))) (hs.on (hbA.trans (hu.mono hbA.size))) hf ha (bx2.on (hbA.trans (hu.mono hbA.size))) : Calls Try.prog 67 #[.slice s.a s.l.length s.c, .pointer (some ⟨g2, 0, none⟩)] u fun e w' => e = .returned (.int .i64 y) ∧ Below u.heap.size u w'))
  have FC : Hid (∀ u, Below wA.heap.size wA u → u.cell? ⟨w.heap.size, 0, none⟩ = some (.int .i64 0) ∧ u.cell? ⟨w.heap.size, 1, none⟩ = some (.int .i64 0) ∧ u.frozen? ⟨w.heap.size, 0, none⟩ = false ∧ u.frozen? ⟨w.heap.size, 1, none⟩ = false) := Lib.hid fun u hu => by
    have h := (hu.block w.heap.size (by omega)).trans hn
    refine ⟨?_, ?_, ?_, ?_⟩ <;> simp [World.cell?, World.frozen?, h]
  have HW : Hid (∀ u, Below w.heap.size w u → ((u.cell? ⟨b1, 0, none⟩ = some (.func (.func 69) #[] #[.pointer (some ⟨g1, 0, none⟩)]) ∧ u.cell? ⟨b2, 0, none⟩ = some (.func (.func 67) #[] #[.pointer (some ⟨g2, 0, none⟩)])) ∧ Below w.heap.size w u)) := Lib.hid fun u hu => ⟨⟨(hu.cell (p := ⟨b1, 0, none⟩) (World.block_lt_of_cell? _ _ c1)).trans c1, (hu.cell (p := ⟨b2, 0, none⟩) (World.block_lt_of_cell? _ _ c2)).trans c2⟩, hu⟩
  have HK : Hid (∀ u, Below wA.heap.size wA u → ((u.cell? ⟨b1, 0, none⟩ = some (.func (.func 69) #[] #[.pointer (some ⟨g1, 0, none⟩)]) ∧ u.cell? ⟨b2, 0, none⟩ = some (.func (.func 67) #[] #[.pointer (some ⟨g2, 0, none⟩)])) ∧ Below w.heap.size w u)) := Lib.hid fun u hu => HW.out u (hbA.trans (hu.mono hbA.size))
  have hd0 : Below wA.heap.size wA wA.drew := (Below.refl _ _).drew
  have s0 := HK.out wA.drew hd0
  have HFIN : Hid (∀ u (v1 v2 : Value), Below wA.heap.size wA u → Below w.heap.size w ((u.setCell ⟨w.heap.size, 0, none⟩ v1).setCell ⟨w.heap.size, 1, none⟩ v2)) := Lib.hid fun u v1 v2 hu => by
    have t : Touch w.heap.size (w.heap.size + 1) u ((u.setCell ⟨w.heap.size, 0, none⟩ v1).setCell ⟨w.heap.size, 1, none⟩ v2) := ((Touch.refl _ _ u).set (Nat.le_refl _) (by omega) 0 v1).set (Nat.le_refl _) (by omega) 1 v2
    have h := hbA.trans (hu.mono hbA.size)
    exact h.trans (t.below (Nat.le_refl _) h.size)
  have HT : Hid (∀ u (v1 v2 : Value), Below wA.heap.size wA u → ((((u.setCell ⟨w.heap.size, 0, none⟩ v1).setCell ⟨w.heap.size, 1, none⟩ v2).cell? ⟨b1, 0, none⟩ = some (.func (.func 69) #[] #[.pointer (some ⟨g1, 0, none⟩)]) ∧ ((u.setCell ⟨w.heap.size, 0, none⟩ v1).setCell ⟨w.heap.size, 1, none⟩ v2).cell? ⟨b2, 0, none⟩ = some (.func (.func 67) #[] #[.pointer (some ⟨g2, 0, none⟩)])) ∧ Below w.heap.size w ((u.setCell ⟨w.heap.size, 0, none⟩ v1).setCell ⟨w.heap.size, 1, none⟩ v2))) := Lib.hid fun u v1 v2 hu => HW.out _ (HFIN.out u v1 v2 hu)
  have HH : Hid (∀ u (v1 v2 : Value), Below wA.heap.size wA u → ((u.setCell ⟨w.heap.size, 0, none⟩ v1).setCell ⟨w.heap.size, 1, none⟩ v2).heap[w.heap.size]? = some (.cells #[v1, v2] 58)) := Lib.hid fun u v1 v2 hu => by
    have h := (hu.block w.heap.size (by omega)).trans hn
    exact heap_setCell_same _ _ 1 _ _ v2 (heap_setCell_same _ _ 0 _ _ v1 h)
  have HX := Lib.hid hx
  have HY := Lib.hid hy
  have HA := Lib.hid hA
  rw [← hx]
  try rw [← hy]
  clear hF hs hf ha bx1 bx2 c1 c2 hn hx hy hA
  go_enter Try.func54, Try.ntmps54
  go_wp2_with fail
  rw [← HA.out]
  go_region_held3 (fun u => ((u.cell? ⟨b1, 0, none⟩ = some (.func (.func 69) #[] #[.pointer (some ⟨g1, 0, none⟩)]) ∧ u.cell? ⟨b2, 0, none⟩ = some (.func (.func 67) #[] #[.pointer (some ⟨g2, 0, none⟩)])) ∧ Below w.heap.size w u)) (first | exact s0 | exact HK.out _ (by assumption) | exact HT.out _ _ _ (by assumption)) (first | (go_at_call 69; refine (show Calls _ _ _ _ _ from C1.out _ (by assumption)).mono ?_; rintro e u1 ⟨rfl, hb1⟩; have hB1 : Below wA.heap.size wA u1 := keep_reg (S := fun u => Below wA.heap.size wA u) (fun _ h => h) (by assumption) hb1; obtain ⟨e0, e1, e2, e3⟩ := FC.out u1 hB1) | (go_at_call 67; refine (show Calls _ _ _ _ _ from C2.out _ (by assumption)).mono ?_; rintro e u1 ⟨rfl, hb1⟩; have hB1 : Below wA.heap.size wA u1 := keep_reg (S := fun u => Below wA.heap.size wA u) (fun _ h => h) (by assumption) hb1; obtain ⟨e0, e1, e2, e3⟩ := FC.out u1 hB1))
  all_goals
    go_wp2
    refine bodyPost_ret (results_cell_row rfl _ _ w.heap.size 58 _ (0, 0) _ rfl (HH.out _ _ _ (by assumption)) Try.underlying58 rfl (by kernel_rfl)) rfl ?_
    exact ⟨by first | rfl | (rw [HX.out, HY.out]), HFIN.out _ _ _ (by assumption)⟩

set_option maxRecDepth 16000 in
set_option maxHeartbeats 1500000 in
theorem pt33_any (F : Fld) (s : Row) (T : List Nat) (b1 b2 g1 g2 : Nat) (w : World) (hF : F.At w) (hs : s.At w) (hf : Fine F s T) (ha : Able F s T) (bx1 : Box2 w g1 F.o.val F.t.val 29) (bx2 : Box2 w g2 F.o.val F.t.val 29)
    (c1 : w.cell? ⟨b1, 0, none⟩ = some (.func (.func 69) #[] #[.pointer (some ⟨g1, 0, none⟩)])) (c2 : w.cell? ⟨b2, 0, none⟩ = some (.func (.func 69) #[] #[.pointer (some ⟨g2, 0, none⟩)])) :
    Calls Try.prog 54 #[.slice s.a s.l.length s.c, .pointer (some ⟨b1, 0, none⟩), .pointer (some ⟨b2, 0, none⟩)] w fun e w' => e = .returned (.agg #[.int .i64 (objV F T 3), .int .i64 (objV F T 3)]) ∧ Below w.heap.size w w' := by
  obtain ⟨wA, hA⟩ : ∃ u, u = w.alloc (.cells #[.int .i64 0, .int .i64 0] 58) := ⟨_, rfl⟩
  have hbA : Below w.heap.size w wA := by rw [hA]; exact below_alloc w _
  have hsA : wA.heap.size = w.heap.size + 1 := by rw [hA]; simp
  have hn : wA.heap[w.heap.size]? = some (.cells #[.int .i64 0, .int .i64 0] 58) := by rw [hA]; exact heap_alloc_new w _
  obtain ⟨x, hx⟩ : ∃ x, x = objV F T 3 := ⟨_, rfl⟩
  obtain ⟨y, hy⟩ : ∃ y, y = objV F T 3 := ⟨_, rfl⟩
  have C1 := Lib.hid (fun u (hu : Below wA.heap.size wA u) => (by rw [hx]; exact objFn3_any F s T g1 u (hF.on (hbA.trans (hu.mono hbA.size))) (hs.on (hbA.trans (hu.mono hbA.size))) hf ha (bx1.on (hbA.trans (hu.mono hbA.size))) : Calls Try.prog 69 #[.slice s.a s.l.length s.c, .pointer (some ⟨g1, 0, none⟩)] u fun e w' => e = .returned (.int .i64 x) ∧ Below u.heap.size u w'))
  have C2 := Lib.hid (fun u (hu : Below wA.heap.size wA u) => (by rw [hy]; exact objFn3_any F s T g2 u (hF.on (hbA.trans (hu.mono hbA.size))) (hs.on (hbA.trans (hu.mono hbA.size))) hf ha (bx2.on (hbA.trans (hu.mono hbA.size))) : Calls Try.prog 69 #[.slice s.a s.l.length s.c, .pointer (some ⟨g2, 0, none⟩)] u fun e w' => e = .returned (.int .i64 y) ∧ Below u.heap.size u w'))
  have FC : Hid (∀ u, Below wA.heap.size wA u → u.cell? ⟨w.heap.size, 0, none⟩ = some (.int .i64 0) ∧ u.cell? ⟨w.heap.size, 1, none⟩ = some (.int .i64 0) ∧ u.frozen? ⟨w.heap.size, 0, none⟩ = false ∧ u.frozen? ⟨w.heap.size, 1, none⟩ = false) := Lib.hid fun u hu => by
    have h := (hu.block w.heap.size (by omega)).trans hn
    refine ⟨?_, ?_, ?_, ?_⟩ <;> simp [World.cell?, World.frozen?, h]
  have HW : Hid (∀ u, Below w.heap.size w u → ((u.cell? ⟨b1, 0, none⟩ = some (.func (.func 69) #[] #[.pointer (some ⟨g1, 0, none⟩)]) ∧ u.cell? ⟨b2, 0, none⟩ = some (.func (.func 69) #[] #[.pointer (some ⟨g2, 0, none⟩)])) ∧ Below w.heap.size w u)) := Lib.hid fun u hu => ⟨⟨(hu.cell (p := ⟨b1, 0, none⟩) (World.block_lt_of_cell? _ _ c1)).trans c1, (hu.cell (p := ⟨b2, 0, none⟩) (World.block_lt_of_cell? _ _ c2)).trans c2⟩, hu⟩
  have HK : Hid (∀ u, Below wA.heap.size wA u → ((u.cell? ⟨b1, 0, none⟩ = some (.func (.func 69) #[] #[.pointer (some ⟨g1, 0, none⟩)]) ∧ u.cell? ⟨b2, 0, none⟩ = some (.func (.func 69) #[] #[.pointer (some ⟨g2, 0, none⟩)])) ∧ Below w.heap.size w u)) := Lib.hid fun u hu => HW.out u (hbA.trans (hu.mono hbA.size))
  have hd0 : Below wA.heap.size wA wA.drew := (Below.refl _ _).drew
  have s0 := HK.out wA.drew hd0
  have HFIN : Hid (∀ u (v1 v2 : Value), Below wA.heap.size wA u → Below w.heap.size w ((u.setCell ⟨w.heap.size, 0, none⟩ v1).setCell ⟨w.heap.size, 1, none⟩ v2)) := Lib.hid fun u v1 v2 hu => by
    have t : Touch w.heap.size (w.heap.size + 1) u ((u.setCell ⟨w.heap.size, 0, none⟩ v1).setCell ⟨w.heap.size, 1, none⟩ v2) := ((Touch.refl _ _ u).set (Nat.le_refl _) (by omega) 0 v1).set (Nat.le_refl _) (by omega) 1 v2
    have h := hbA.trans (hu.mono hbA.size)
    exact h.trans (t.below (Nat.le_refl _) h.size)
  have HT : Hid (∀ u (v1 v2 : Value), Below wA.heap.size wA u → ((((u.setCell ⟨w.heap.size, 0, none⟩ v1).setCell ⟨w.heap.size, 1, none⟩ v2).cell? ⟨b1, 0, none⟩ = some (.func (.func 69) #[] #[.pointer (some ⟨g1, 0, none⟩)]) ∧ ((u.setCell ⟨w.heap.size, 0, none⟩ v1).setCell ⟨w.heap.size, 1, none⟩ v2).cell? ⟨b2, 0, none⟩ = some (.func (.func 69) #[] #[.pointer (some ⟨g2, 0, none⟩)])) ∧ Below w.heap.size w ((u.setCell ⟨w.heap.size, 0, none⟩ v1).setCell ⟨w.heap.size, 1, none⟩ v2))) := Lib.hid fun u v1 v2 hu => HW.out _ (HFIN.out u v1 v2 hu)
  have HH : Hid (∀ u (v1 v2 : Value), Below wA.heap.size wA u → ((u.setCell ⟨w.heap.size, 0, none⟩ v1).setCell ⟨w.heap.size, 1, none⟩ v2).heap[w.heap.size]? = some (.cells #[v1, v2] 58)) := Lib.hid fun u v1 v2 hu => by
    have h := (hu.block w.heap.size (by omega)).trans hn
    exact heap_setCell_same _ _ 1 _ _ v2 (heap_setCell_same _ _ 0 _ _ v1 h)
  have HX := Lib.hid hx
  have HY := Lib.hid hy
  have HA := Lib.hid hA
  rw [← hx]
  try rw [← hy]
  clear hF hs hf ha bx1 bx2 c1 c2 hn hx hy hA
  go_enter Try.func54, Try.ntmps54
  go_wp2_with fail
  rw [← HA.out]
  go_region_held3 (fun u => ((u.cell? ⟨b1, 0, none⟩ = some (.func (.func 69) #[] #[.pointer (some ⟨g1, 0, none⟩)]) ∧ u.cell? ⟨b2, 0, none⟩ = some (.func (.func 69) #[] #[.pointer (some ⟨g2, 0, none⟩)])) ∧ Below w.heap.size w u)) (first | exact s0 | exact HK.out _ (by assumption) | exact HT.out _ _ _ (by assumption)) (first | (go_at_call 69; with_reducible change Calls _ _ #[_, .pointer (some ⟨g1, 0, none⟩)] _ _; refine (show Calls _ _ _ _ _ from C1.out _ (by assumption)).mono ?_; rintro e u1 ⟨rfl, hb1⟩; have hB1 : Below wA.heap.size wA u1 := keep_reg (S := fun u => Below wA.heap.size wA u) (fun _ h => h) (by assumption) hb1; obtain ⟨e0, e1, e2, e3⟩ := FC.out u1 hB1) | (go_at_call 69; with_reducible change Calls _ _ #[_, .pointer (some ⟨g2, 0, none⟩)] _ _; refine (show Calls _ _ _ _ _ from C2.out _ (by assumption)).mono ?_; rintro e u1 ⟨rfl, hb1⟩; have hB1 : Below wA.heap.size wA u1 := keep_reg (S := fun u => Below wA.heap.size wA u) (fun _ h => h) (by assumption) hb1; obtain ⟨e0, e1, e2, e3⟩ := FC.out u1 hB1))
  all_goals
    go_wp2
    refine bodyPost_ret (results_cell_row rfl _ _ w.heap.size 58 _ (0, 0) _ rfl (HH.out _ _ _ (by assumption)) Try.underlying58 rfl (by kernel_rfl)) rfl ?_
    exact ⟨by first | rfl | (rw [HX.out, HY.out]), HFIN.out _ _ _ (by assumption)⟩

set_option maxRecDepth 16000 in
set_option maxHeartbeats 1500000 in
theorem pt34_any (F : Fld) (s : Row) (T : List Nat) (b1 b2 g1 g2 : Nat) (w : World) (hF : F.At w) (hs : s.At w) (hf : Fine F s T) (ha : Able F s T) (bx1 : Box2 w g1 F.o.val F.t.val 29) (bx2 : Box2 w g2 F.o.val F.t.val 29)
    (c1 : w.cell? ⟨b1, 0, none⟩ = some (.func (.func 69) #[] #[.pointer (some ⟨g1, 0, none⟩)])) (c2 : w.cell? ⟨b2, 0, none⟩ = some (.func (.func 70) #[] #[.pointer (some ⟨g2, 0, none⟩)])) :
    Calls Try.prog 54 #[.slice s.a s.l.length s.c, .pointer (some ⟨b1, 0, none⟩), .pointer (some ⟨b2, 0, none⟩)] w fun e w' => e = .returned (.agg #[.int .i64 (objV F T 3), .int .i64 (objV F T 4)]) ∧ Below w.heap.size w w' := by
  obtain ⟨wA, hA⟩ : ∃ u, u = w.alloc (.cells #[.int .i64 0, .int .i64 0] 58) := ⟨_, rfl⟩
  have hbA : Below w.heap.size w wA := by rw [hA]; exact below_alloc w _
  have hsA : wA.heap.size = w.heap.size + 1 := by rw [hA]; simp
  have hn : wA.heap[w.heap.size]? = some (.cells #[.int .i64 0, .int .i64 0] 58) := by rw [hA]; exact heap_alloc_new w _
  obtain ⟨x, hx⟩ : ∃ x, x = objV F T 3 := ⟨_, rfl⟩
  obtain ⟨y, hy⟩ : ∃ y, y = objV F T 4 := ⟨_, rfl⟩
  have C1 := Lib.hid (fun u (hu : Below wA.heap.size wA u) => (by rw [hx]; exact objFn3_any F s T g1 u (hF.on (hbA.trans (hu.mono hbA.size))) (hs.on (hbA.trans (hu.mono hbA.size))) hf ha (bx1.on (hbA.trans (hu.mono hbA.size))) : Calls Try.prog 69 #[.slice s.a s.l.length s.c, .pointer (some ⟨g1, 0, none⟩)] u fun e w' => e = .returned (.int .i64 x) ∧ Below u.heap.size u w'))
  have C2 := Lib.hid (fun u (hu : Below wA.heap.size wA u) => (by rw [hy]; exact objFn4_any F s T g2 u (hF.on (hbA.trans (hu.mono hbA.size))) (hs.on (hbA.trans (hu.mono hbA.size))) hf ha (bx2.on (hbA.trans (hu.mono hbA.size))) : Calls Try.prog 70 #[.slice s.a s.l.length s.c, .pointer (some ⟨g2, 0, none⟩)] u fun e w' => e = .returned (.int .i64 y) ∧ Below u.heap.size u w'))
  have FC : Hid (∀ u, Below wA.heap.size wA u → u.cell? ⟨w.heap.size, 0, none⟩ = some (.int .i64 0) ∧ u.cell? ⟨w.heap.size, 1, none⟩ = some (.int .i64 0) ∧ u.frozen? ⟨w.heap.size, 0, none⟩ = false ∧ u.frozen? ⟨w.heap.size, 1, none⟩ = false) := Lib.hid fun u hu => by
    have h := (hu.block w.heap.size (by omega)).trans hn
    refine ⟨?_, ?_, ?_, ?_⟩ <;> simp [World.cell?, World.frozen?, h]
  have HW : Hid (∀ u, Below w.heap.size w u → ((u.cell? ⟨b1, 0, none⟩ = some (.func (.func 69) #[] #[.pointer (some ⟨g1, 0, none⟩)]) ∧ u.cell? ⟨b2, 0, none⟩ = some (.func (.func 70) #[] #[.pointer (some ⟨g2, 0, none⟩)])) ∧ Below w.heap.size w u)) := Lib.hid fun u hu => ⟨⟨(hu.cell (p := ⟨b1, 0, none⟩) (World.block_lt_of_cell? _ _ c1)).trans c1, (hu.cell (p := ⟨b2, 0, none⟩) (World.block_lt_of_cell? _ _ c2)).trans c2⟩, hu⟩
  have HK : Hid (∀ u, Below wA.heap.size wA u → ((u.cell? ⟨b1, 0, none⟩ = some (.func (.func 69) #[] #[.pointer (some ⟨g1, 0, none⟩)]) ∧ u.cell? ⟨b2, 0, none⟩ = some (.func (.func 70) #[] #[.pointer (some ⟨g2, 0, none⟩)])) ∧ Below w.heap.size w u)) := Lib.hid fun u hu => HW.out u (hbA.trans (hu.mono hbA.size))
  have hd0 : Below wA.heap.size wA wA.drew := (Below.refl _ _).drew
  have s0 := HK.out wA.drew hd0
  have HFIN : Hid (∀ u (v1 v2 : Value), Below wA.heap.size wA u → Below w.heap.size w ((u.setCell ⟨w.heap.size, 0, none⟩ v1).setCell ⟨w.heap.size, 1, none⟩ v2)) := Lib.hid fun u v1 v2 hu => by
    have t : Touch w.heap.size (w.heap.size + 1) u ((u.setCell ⟨w.heap.size, 0, none⟩ v1).setCell ⟨w.heap.size, 1, none⟩ v2) := ((Touch.refl _ _ u).set (Nat.le_refl _) (by omega) 0 v1).set (Nat.le_refl _) (by omega) 1 v2
    have h := hbA.trans (hu.mono hbA.size)
    exact h.trans (t.below (Nat.le_refl _) h.size)
  have HT : Hid (∀ u (v1 v2 : Value), Below wA.heap.size wA u → ((((u.setCell ⟨w.heap.size, 0, none⟩ v1).setCell ⟨w.heap.size, 1, none⟩ v2).cell? ⟨b1, 0, none⟩ = some (.func (.func 69) #[] #[.pointer (some ⟨g1, 0, none⟩)]) ∧ ((u.setCell ⟨w.heap.size, 0, none⟩ v1).setCell ⟨w.heap.size, 1, none⟩ v2).cell? ⟨b2, 0, none⟩ = some (.func (.func 70) #[] #[.pointer (some ⟨g2, 0, none⟩)])) ∧ Below w.heap.size w ((u.setCell ⟨w.heap.size, 0, none⟩ v1).setCell ⟨w.heap.size, 1, none⟩ v2))) := Lib.hid fun u v1 v2 hu => HW.out _ (HFIN.out u v1 v2 hu)
  have HH : Hid (∀ u (v1 v2 : Value), Below wA.heap.size wA u → ((u.setCell ⟨w.heap.size, 0, none⟩ v1).setCell ⟨w.heap.size, 1, none⟩ v2).heap[w.heap.size]? = some (.cells #[v1, v2] 58)) := Lib.hid fun u v1 v2 hu => by
    have h := (hu.block w.heap.size (by omega)).trans hn
    exact heap_setCell_same _ _ 1 _ _ v2 (heap_setCell_same _ _ 0 _ _ v1 h)
  have HX := Lib.hid hx
  have HY := Lib.hid hy
  have HA := Lib.hid hA
  rw [← hx]
  try rw [← hy]
  clear hF hs hf ha bx1 bx2 c1 c2 hn hx hy hA
  go_enter Try.func54, Try.ntmps54
  go_wp2_with fail
  rw [← HA.out]
  go_region_held3 (fun u => ((u.cell? ⟨b1, 0, none⟩ = some (.func (.func 69) #[] #[.pointer (some ⟨g1, 0, none⟩)]) ∧ u.cell? ⟨b2, 0, none⟩ = some (.func (.func 70) #[] #[.pointer (some ⟨g2, 0, none⟩)])) ∧ Below w.heap.size w u)) (first | exact s0 | exact HK.out _ (by assumption) | exact HT.out _ _ _ (by assumption)) (first | (go_at_call 69; refine (show Calls _ _ _ _ _ from C1.out _ (by assumption)).mono ?_; rintro e u1 ⟨rfl, hb1⟩; have hB1 : Below wA.heap.size wA u1 := keep_reg (S := fun u => Below wA.heap.size wA u) (fun _ h => h) (by assumption) hb1; obtain ⟨e0, e1, e2, e3⟩ := FC.out u1 hB1) | (go_at_call 70; refine (show Calls _ _ _ _ _ from C2.out _ (by assumption)).mono ?_; rintro e u1 ⟨rfl, hb1⟩; have hB1 : Below wA.heap.size wA u1 := keep_reg (S := fun u => Below wA.heap.size wA u) (fun _ h => h) (by assumption) hb1; obtain ⟨e0, e1, e2, e3⟩ := FC.out u1 hB1))
  all_goals
    go_wp2
    refine bodyPost_ret (results_cell_row rfl _ _ w.heap.size 58 _ (0, 0) _ rfl (HH.out _ _ _ (by assumption)) Try.underlying58 rfl (by kernel_rfl)) rfl ?_
    exact ⟨by first | rfl | (rw [HX.out, HY.out]), HFIN.out _ _ _ (by assumption)⟩

set_option maxRecDepth 16000 in
set_option maxHeartbeats 1500000 in
theorem pt35_any (F : Fld) (s : Row) (T : List Nat) (b1 b2 g1 g2 : Nat) (w : World) (hF : F.At w) (hs : s.At w) (hf : Fine F s T) (ha : Able F s T) (bx1 : Box2 w g1 F.o.val F.t.val 29) (_ : Box2 w g2 F.o.val F.t.val 29)
    (c1 : w.cell? ⟨b1, 0, none⟩ = some (.func (.func 69) #[] #[.pointer (some ⟨g1, 0, none⟩)])) (c2 : w.cell? ⟨b2, 0, none⟩ = some (.func (.func 72) #[] #[])) :
    Calls Try.prog 54 #[.slice s.a s.l.length s.c, .pointer (some ⟨b1, 0, none⟩), .pointer (some ⟨b2, 0, none⟩)] w fun e w' => e = .returned (.agg #[.int .i64 (objV F T 3), .int .i64 (objV F T 5)]) ∧ Below w.heap.size w w' := by
  obtain ⟨wA, hA⟩ : ∃ u, u = w.alloc (.cells #[.int .i64 0, .int .i64 0] 58) := ⟨_, rfl⟩
  have hbA : Below w.heap.size w wA := by rw [hA]; exact below_alloc w _
  have hsA : wA.heap.size = w.heap.size + 1 := by rw [hA]; simp
  have hn : wA.heap[w.heap.size]? = some (.cells #[.int .i64 0, .int .i64 0] 58) := by rw [hA]; exact heap_alloc_new w _
  obtain ⟨x, hx⟩ : ∃ x, x = objV F T 3 := ⟨_, rfl⟩
  obtain ⟨y, hy⟩ : ∃ y, y = objV F T 5 := ⟨_, rfl⟩
  have C1 := Lib.hid (fun u (hu : Below wA.heap.size wA u) => (by rw [hx]; exact objFn3_any F s T g1 u (hF.on (hbA.trans (hu.mono hbA.size))) (hs.on (hbA.trans (hu.mono hbA.size))) hf ha (bx1.on (hbA.trans (hu.mono hbA.size))) : Calls Try.prog 69 #[.slice s.a s.l.length s.c, .pointer (some ⟨g1, 0, none⟩)] u fun e w' => e = .returned (.int .i64 x) ∧ Below u.heap.size u w'))
  have C2 := Lib.hid (fun u (hu : Below wA.heap.size wA u) => (by rw [hy]; exact objFn5_any F s T u (hs.on (hbA.trans (hu.mono hbA.size))) hf : Calls Try.prog 72 #[.slice s.a s.l.length s.c] u fun e w' => e = .returned (.int .i64 y) ∧ Below u.heap.size u w'))
  have FC : Hid (∀ u, Below wA.heap.size wA u → u.cell? ⟨w.heap.size, 0, none⟩ = some (.int .i64 0) ∧ u.cell? ⟨w.heap.size, 1, none⟩ = some (.int .i64 0) ∧ u.frozen? ⟨w.heap.size, 0, none⟩ = false ∧ u.frozen? ⟨w.heap.size, 1, none⟩ = false) := Lib.hid fun u hu => by
    have h := (hu.block w.heap.size (by omega)).trans hn
    refine ⟨?_, ?_, ?_, ?_⟩ <;> simp [World.cell?, World.frozen?, h]
  have HW : Hid (∀ u, Below w.heap.size w u → ((u.cell? ⟨b1, 0, none⟩ = some (.func (.func 69) #[] #[.pointer (some ⟨g1, 0, none⟩)]) ∧ u.cell? ⟨b2, 0, none⟩ = some (.func (.func 72) #[] #[])) ∧ Below w.heap.size w u)) := Lib.hid fun u hu => ⟨⟨(hu.cell (p := ⟨b1, 0, none⟩) (World.block_lt_of_cell? _ _ c1)).trans c1, (hu.cell (p := ⟨b2, 0, none⟩) (World.block_lt_of_cell? _ _ c2)).trans c2⟩, hu⟩
  have HK : Hid (∀ u, Below wA.heap.size wA u → ((u.cell? ⟨b1, 0, none⟩ = some (.func (.func 69) #[] #[.pointer (some ⟨g1, 0, none⟩)]) ∧ u.cell? ⟨b2, 0, none⟩ = some (.func (.func 72) #[] #[])) ∧ Below w.heap.size w u)) := Lib.hid fun u hu => HW.out u (hbA.trans (hu.mono hbA.size))
  have hd0 : Below wA.heap.size wA wA.drew := (Below.refl _ _).drew
  have s0 := HK.out wA.drew hd0
  have HFIN : Hid (∀ u (v1 v2 : Value), Below wA.heap.size wA u → Below w.heap.size w ((u.setCell ⟨w.heap.size, 0, none⟩ v1).setCell ⟨w.heap.size, 1, none⟩ v2)) := Lib.hid fun u v1 v2 hu => by
    have t : Touch w.heap.size (w.heap.size + 1) u ((u.setCell ⟨w.heap.size, 0, none⟩ v1).setCell ⟨w.heap.size, 1, none⟩ v2) := ((Touch.refl _ _ u).set (Nat.le_refl _) (by omega) 0 v1).set (Nat.le_refl _) (by omega) 1 v2
    have h := hbA.trans (hu.mono hbA.size)
    exact h.trans (t.below (Nat.le_refl _) h.size)
  have HT : Hid (∀ u (v1 v2 : Value), Below wA.heap.size wA u → ((((u.setCell ⟨w.heap.size, 0, none⟩ v1).setCell ⟨w.heap.size, 1, none⟩ v2).cell? ⟨b1, 0, none⟩ = some (.func (.func 69) #[] #[.pointer (some ⟨g1, 0, none⟩)]) ∧ ((u.setCell ⟨w.heap.size, 0, none⟩ v1).setCell ⟨w.heap.size, 1, none⟩ v2).cell? ⟨b2, 0, none⟩ = some (.func (.func 72) #[] #[])) ∧ Below w.heap.size w ((u.setCell ⟨w.heap.size, 0, none⟩ v1).setCell ⟨w.heap.size, 1, none⟩ v2))) := Lib.hid fun u v1 v2 hu => HW.out _ (HFIN.out u v1 v2 hu)
  have HH : Hid (∀ u (v1 v2 : Value), Below wA.heap.size wA u → ((u.setCell ⟨w.heap.size, 0, none⟩ v1).setCell ⟨w.heap.size, 1, none⟩ v2).heap[w.heap.size]? = some (.cells #[v1, v2] 58)) := Lib.hid fun u v1 v2 hu => by
    have h := (hu.block w.heap.size (by omega)).trans hn
    exact heap_setCell_same _ _ 1 _ _ v2 (heap_setCell_same _ _ 0 _ _ v1 h)
  have HX := Lib.hid hx
  have HY := Lib.hid hy
  have HA := Lib.hid hA
  rw [← hx]
  try rw [← hy]
  clear hF hs hf ha bx1 c1 c2 hn hx hy hA
  go_enter Try.func54, Try.ntmps54
  go_wp2_with fail
  rw [← HA.out]
  go_region_held3 (fun u => ((u.cell? ⟨b1, 0, none⟩ = some (.func (.func 69) #[] #[.pointer (some ⟨g1, 0, none⟩)]) ∧ u.cell? ⟨b2, 0, none⟩ = some (.func (.func 72) #[] #[])) ∧ Below w.heap.size w u)) (first | exact s0 | exact HK.out _ (by assumption) | exact HT.out _ _ _ (by assumption)) (first | (go_at_call 69; refine (show Calls _ _ _ _ _ from C1.out _ (by assumption)).mono ?_; rintro e u1 ⟨rfl, hb1⟩; have hB1 : Below wA.heap.size wA u1 := keep_reg (S := fun u => Below wA.heap.size wA u) (fun _ h => h) (by assumption) hb1; obtain ⟨e0, e1, e2, e3⟩ := FC.out u1 hB1) | (go_at_call 72; refine (show Calls _ _ _ _ _ from C2.out _ (by assumption)).mono ?_; rintro e u1 ⟨rfl, hb1⟩; have hB1 : Below wA.heap.size wA u1 := keep_reg (S := fun u => Below wA.heap.size wA u) (fun _ h => h) (by assumption) hb1; obtain ⟨e0, e1, e2, e3⟩ := FC.out u1 hB1))
  all_goals
    go_wp2
    refine bodyPost_ret (results_cell_row rfl _ _ w.heap.size 58 _ (0, 0) _ rfl (HH.out _ _ _ (by assumption)) Try.underlying58 rfl (by kernel_rfl)) rfl ?_
    exact ⟨by first | rfl | (rw [HX.out, HY.out]), HFIN.out _ _ _ (by assumption)⟩
end Go.Proofs.Ytemflcegkebloaa
