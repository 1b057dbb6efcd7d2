/- The contracts of the model's cursor over choices: the next choice, a number below n, one in n, one of some texts. Condition: the cursor is the call's own, and the bytes it reads lie below it. -/
import Derived.Test.YtfjnfgeielgihaaDoorRows
import Derived.Test.YtfjnfgeielgihaaDoorPlainRow
import Derived.Lib.Hide
import Derived.BigQuiet
import Derived.RangeFuncBox
namespace Go.Proofs.YtfjnfgeielgihaaDoor
open Go.RowKit

/-- Only block g may have been written; new blocks may have come. -/
def Only (g : Nat) (w w' : World) : Prop := w.grownBy w' (some g)
theorem Only.refl (g : Nat) (w : World) : Only g w w := ⟨rfl, rfl, rfl, Nat.le_refl _, fun _ _ _ => rfl⟩
theorem Only.trans {g : Nat} {a b c : World} (h : Only g a b) (k : Only g b c) : Only g a c :=
  ⟨k.os.trans h.os, k.tape.trans h.tape, k.output.trans h.output, Nat.le_trans h.size k.size, fun i hi hne => (k.block i (Nat.lt_of_lt_of_le hi h.size) hne).trans (h.block i hi hne)⟩
theorem Only.draws {g : Nat} {a w : World} (h : Only g a w) (n : Nat) : Only g a (w.drewN n) := ⟨h.os, h.tape, h.output, h.size, h.block⟩
theorem Only.alloc {g : Nat} {a w : World} (h : Only g a w) (o : Obj) : Only g a (w.alloc o) := h.trans (World.grownBy_alloc w o _)
theorem Only.set {g : Nat} {a w : World} (h : Only g a w) (o : Nat) (v : Value) : Only g a (w.setCell ⟨g, o, none⟩ v) :=
  h.trans ⟨rfl, rfl, rfl, by simp [World.setCell], fun k _ hk => Below.heap_setCell _ _ _ k (fun e => hk (by simp at e; rw [e]))⟩
theorem Only.below {g B : Nat} {w w' : World} (h : Only g w w') (hg : B ≤ g) (hB : B ≤ w.heap.size) : Below B w w' := (Below.refl B w).grown h hB (fun k e => by cases e; exact hg)
theorem Only.cell {g : Nat} {w w' : World} (h : Only g w w') {a : Addr} {v : Value} (hc : w.cell? a = some v) (hne : a.block ≠ g) : w'.cell? a = some v := World.grownBy.cell h hc (fun e => hne (by injection e))

/-- Block g is a cursor of the call's own (from block B on): it has read at most m choices of some bytes that lie below B. -/
def Cur (w : World) (B g m : Nat) : Prop :=
  B ≤ g ∧ ∃ (a : Option Addr) (n c p : Nat) (seed : Int) (xs : List Int), w.heap[g]? = some (.cells #[.slice a n c, .int .i64 (p : Int), .int .u64 seed] 37 (0, 0)) ∧ p ≤ m ∧ n ≤ 65536 ∧ xs.length = n ∧ (∀ x ∈ xs, 0 ≤ x ∧ x ≤ 255) ∧
    (n = 0 ∨ ∃ b o, a = some ⟨b, o, none⟩ ∧ b < B ∧ ∀ i x, xs[i]? = some x → w.cell? ⟨b, o + i, none⟩ = some (.int .u8 x))

theorem Cur.mono {w : World} {B g m m' : Nat} (h : Cur w B g m) (hm : m ≤ m') : Cur w B g m' := by
  obtain ⟨h1, a, n, c, p, seed, xs, h2, h3, r⟩ := h
  exact ⟨h1, a, n, c, p, seed, xs, h2, by omega, r⟩

/-- The cursor is kept where neither it nor what lies below B is written. -/
theorem Cur.kept {w w' : World} {B g m : Nat} (h : Cur w B g m) (hg : w'.heap[g]? = w.heap[g]?) (hb : ∀ k, k < B → w'.heap[k]? = w.heap[k]?) : Cur w' B g m := by
  obtain ⟨h1, a, n, c, p, seed, xs, h2, h3, h4, h5, h6, h7⟩ := h
  refine ⟨h1, a, n, c, p, seed, xs, hg.trans h2, h3, h4, h5, h6, ?_⟩
  rcases h7 with h7 | ⟨b, o, ha, hlt, hc⟩
  · exact .inl h7
  · exact .inr ⟨b, o, ha, hlt, fun i x hi => (World.cell?_of_block (a := ⟨b, o + i, none⟩) (hb b hlt)).trans (hc i x hi)⟩
theorem Cur.lt {w : World} {B g m : Nat} (h : Cur w B g m) : g < w.heap.size := by
  obtain ⟨_, _, _, _, _, _, _, h2, _⟩ := h
  exact (Array.getElem?_eq_some_iff.1 h2).1
theorem Cur.alloc {w : World} {B g m : Nat} (h : Cur w B g m) (o : Obj) : Cur (w.alloc o) B g m :=
  h.kept (Below.heap_alloc _ _ _ h.lt) (fun k hk => Below.heap_alloc _ _ _ (by have := h.lt; have := h.1; omega))
theorem Cur.draws {w : World} {B g m : Nat} (h : Cur w B g m) (n : Nat) : Cur (w.drewN n) B g m := h.kept rfl (fun _ _ => rfl)

/-- What next leaves: a choice in 0..255. -/
def Next (B g m : Nat) (w : World) (e : Ending) (w' : World) : Prop := ∃ r : Nat, r ≤ 255 ∧ e = .returned (.int .i64 (r : Int)) ∧ Cur w' B g (m + 1) ∧ Only g w w'

theorem heap_two (w : World) (g : Nat) (v0 v1 v2 u1 u2 : Value) (t : TypeId) (h : w.heap[g]? = some (.cells #[v0, v1, v2] t (0, 0))) : ((w.setCell ⟨g, 1, none⟩ u1).setCell ⟨g, 2, none⟩ u2).heap[g]? = some (.cells #[v0, u1, u2] t (0, 0)) := by
  have h1 := heap_setCell_same w g 1 _ t u1 h
  have h2 := heap_setCell_same _ g 2 _ t u2 h1
  simpa using h2

theorem cur_stepped {w : World} {B g m d d2 : Nat} {a : Option Addr} {n c p : Nat} {seed : Int} {xs : List Int} (s' : Int) (hBg : B ≤ g) (h : w.heap[g]? = some (.cells #[.slice a n c, .int .i64 (p : Int), .int .u64 seed] 37 (0, 0))) (hp : p ≤ m) (hn : n ≤ 65536) (hl : xs.length = n) (hx : ∀ x ∈ xs, 0 ≤ x ∧ x ≤ 255)
    (hc : n = 0 ∨ ∃ b o, a = some ⟨b, o, none⟩ ∧ b < B ∧ ∀ i x, xs[i]? = some x → w.cell? ⟨b, o + i, none⟩ = some (.int .u8 x)) :
    Cur ((((w.drewN d).setCell ⟨g, 1, none⟩ (.int .i64 ((p : Int) + 1))).setCell ⟨g, 2, none⟩ (.int .u64 s')).drewN d2) B g (m + 1) ∧ Only g w ((((w.drewN d).setCell ⟨g, 1, none⟩ (.int .i64 ((p : Int) + 1))).setCell ⟨g, 2, none⟩ (.int .u64 s')).drewN d2) := by
  have hO : Only g w ((((w.drewN d).setCell ⟨g, 1, none⟩ (.int .i64 ((p : Int) + 1))).setCell ⟨g, 2, none⟩ (.int .u64 s')).drewN d2) := ((((Only.refl g w).draws d).set 1 _).set 2 _).draws d2
  refine ⟨⟨hBg, a, n, c, p + 1, s', xs, ?_, by omega, hn, hl, hx, ?_⟩, hO⟩
  · have := heap_two (w.drewN d) g _ _ _ (.int .i64 ((p : Int) + 1)) (.int .u64 s') _ h
    simpa using this
  · rcases hc with hc | ⟨b, o, ha, hlt, hc⟩
    · exact .inl hc
    · exact .inr ⟨b, o, ha, hlt, fun i x hi => hO.cell (hc i x hi) (show b ≠ g by omega)⟩

set_option maxRecDepth 100000 in
set_option maxHeartbeats 1000000 in
theorem next_any (B g m : Nat) (w : World) (h : Cur w B g m) (hm : m ≤ 1000000) : Calls Tryd.prog 37 #[.pointer (some ⟨g, 0, none⟩)] w (Next B g m w) := by
  obtain ⟨hBg, a, n, c, p, seed, xs, hg, hp, hn, hl, hx, hc⟩ := h
  have h0 : w.cell? ⟨g, 0, none⟩ = some (.slice a n c) := by simp [World.cell?, hg]
  have h1 : w.cell? ⟨g, 1, none⟩ = some (.int .i64 (p : Int)) := by simp [World.cell?, hg]
  have h2 : w.cell? ⟨g, 2, none⟩ = some (.int .u64 seed) := by simp [World.cell?, hg]
  have f1 : w.frozen? ⟨g, 1, none⟩ = false := by simp [World.frozen?, hg]
  have f2 : w.frozen? ⟨g, 2, none⟩ = false := by simp [World.frozen?, hg]
  have hat : (p : Int) ≤ 1000000 := by omega
  have hni : (n : Int) ≤ 65536 := by omega
  have HS : Hid (∀ (d d2 : Nat) (s' : Int), Cur ((((w.drewN d).setCell ⟨g, 1, none⟩ (.int .i64 ((p : Int) + 1))).setCell ⟨g, 2, none⟩ (.int .u64 s')).drewN d2) B g (m + 1) ∧ Only g w ((((w.drewN d).setCell ⟨g, 1, none⟩ (.int .i64 ((p : Int) + 1))).setCell ⟨g, 2, none⟩ (.int .u64 s')).drewN d2)) :=
    Lib.hid fun d d2 s' => cur_stepped s' hBg hg hp hn hl hx hc
  by_cases hlt : p < n
  · obtain ⟨b, o, rfl, hb, hcell⟩ := hc.resolve_left (by omega)
    obtain ⟨x, hxe⟩ : ∃ x, x = xs[p]'(by omega) := ⟨_, rfl⟩
    have hcl : w.cell? ⟨b, o + p, none⟩ = some (.int .u8 x) := hcell p x (by rw [hxe]; exact List.getElem?_eq_getElem _)
    obtain ⟨hx0, hx1⟩ := hx x (by rw [hxe]; exact List.getElem_mem _)
    have hlti : (p : Int) < (n : Int) := by omega
    have hlt2 : (p : Int) + 1 ≤ (n : Int) := by omega
    clear hc hcell hxe hg hx hl
    go_enter Tryd.func37, Tryd.ntmps37
    go_wp2
    go_quiet (fail)
    go_wp2
    go_quiet (fail)
    go_wp2
    go_quiet (fail)
    go_wp2
    go_ret
    refine ⟨x.toNat, by omega, ?_, HS.out _ _ _⟩
    rw [Int.toNat_of_nonneg hx0]; rfl
  · have hlti : ¬ (p : Int) < (n : Int) := by omega
    have hlt2 : ¬ (p : Int) + 1 ≤ (n : Int) := by omega
    clear hc hg hx hl
    go_enter Tryd.func37, Tryd.ntmps37
    go_wp2
    go_quiet (fail)
    go_wp2
    go_quiet (fail)
    go_wp2
    go_ret
    obtain ⟨E, hE⟩ : ∃ E : Int, E = IntKind.u64.wrap (IntKind.u64.wrap (IntKind.u64.wrap (seed * 6364136223846793005)) + 462197) / 1099511627776 := ⟨_, rfl⟩
    have hE0 : 0 ≤ E ∧ E < 18446744073709551616 := by
      have := IntKind.wrap_u64 (IntKind.u64.wrap (IntKind.u64.wrap (seed * 6364136223846793005)) + 462197)
      omega
    have hb := bits_and_u64_nat E.toNat 255 (by omega) (by omega)
    rw [Int.toNat_of_nonneg hE0.1] at hb
    have hle : E.toNat &&& 255 ≤ 255 := Nat.and_le_right
    refine ⟨E.toNat &&& 255, hle, ?_, HS.out _ _ _⟩
    rw [← hb]
    have hw : wrap64 (bits BinOp.and IntKind.u64 E ((255 : Nat) : Int)) = bits BinOp.and IntKind.u64 E ((255 : Nat) : Int) := by rw [hb]; exact IntWalk.wrap64_in _ ⟨by omega, by omega⟩
    rw [← hw, hE]; rfl

/-- What pick leaves: a number below n. -/
def Picked (n B g m : Nat) (w : World) (e : Ending) (w' : World) : Prop := ∃ r : Nat, (r < n ∨ r = 0) ∧ r ≤ 65535 ∧ e = .returned (.int .i64 (r : Int)) ∧ Cur w' B g (m + 2) ∧ Only g w w'

set_option maxHeartbeats 1000000 in
theorem pick_any (n B g m : Nat) (w : World) (h : Cur w B g m) (hm : m ≤ 900000) (hn : n ≤ 1000000) : Calls Tryd.prog 22 #[.pointer (some ⟨g, 0, none⟩), .int .i64 (n : Int)] w (Picked n B g m w) := by
  have hni : (n : Int) ≤ 1000000 := by omega
  have cn : ∀ W m, Cur W B g m → m ≤ 1000000 → Calls Tryd.prog 37 #[.pointer (some ⟨g, 0, none⟩)] W (fun e w' => ∃ r : Nat, r ≤ 255 ∧ e = .returned (.int .i64 (r : Int)) ∧ Cur w' B g (m + 1) ∧ Only g W w') := fun W m h h' => next_any B g m W h h'
  by_cases h1 : n ≤ 1
  · have h1i : (n : Int) ≤ 1 := by omega
    go_enter Tryd.func22, Tryd.ntmps22
    go_wp2
    go_ret
    exact ⟨0, .inr rfl, by omega, rfl, h.mono (by omega), Only.refl _ _⟩
  have h1i : ¬ (n : Int) ≤ 1 := by omega
  have hpos : (1 : Int) ≤ (n : Int) := by omega
  have HC := Lib.hid h
  clear h
  by_cases h2 : 200 < n
  · have h2i : (200 : Int) < (n : Int) := by omega
    go_enter Tryd.func22, Tryd.ntmps22
    go_wp2_with fail
    refine (cn _ m HC.out (by omega)).mono ?_
    rintro e w1 ⟨r1, hr1, rfl, hc1, ho1⟩
    have hr1i : (r1 : Int) ≤ 255 := by omega
    have HC1 := Lib.hid hc1
    clear hc1
    go_wp2_with fail
    refine (cn _ (m + 1) HC1.out (by omega)).mono ?_
    rintro e w2 ⟨r2, hr2, rfl, hc2, ho2⟩
    have hr2i : (r2 : Int) ≤ 255 := by omega
    have HC2 := Lib.hid hc2
    have HO := Lib.hid (ho1.trans ho2)
    clear hc2 ho1 ho2
    go_wp2_with fail
    go_ret
    have hmod : (r1 * 256 + r2) % n < n := Nat.mod_lt _ (by omega)
    refine ⟨(r1 * 256 + r2) % n, .inl hmod, ?_, ?_, HC2.out, HO.out⟩
    · have := Nat.mod_le (r1 * 256 + r2) n; omega
    · show Ending.returned (.int .i64 (((r1 : Int) * 256 + (r2 : Int)) % (n : Int))) = _
      rw [show ((r1 : Int) * 256 + (r2 : Int)) % (n : Int) = (((r1 * 256 + r2) % n : Nat) : Int) by rw [Int.natCast_emod]; simp]
  · have h2i : ¬ (200 : Int) < (n : Int) := by omega
    go_enter Tryd.func22, Tryd.ntmps22
    go_wp2_with fail
    refine (cn _ m HC.out (by omega)).mono ?_
    rintro e w1 ⟨r1, hr1, rfl, hc1, ho1⟩
    have hr1i : (r1 : Int) ≤ 255 := by omega
    have HC1 := Lib.hid hc1
    have HO := Lib.hid ho1
    clear hc1 ho1
    go_wp2_with fail
    go_ret
    have hmod : r1 % n < n := Nat.mod_lt _ (by omega)
    refine ⟨r1 % n, .inl hmod, ?_, ?_, HC1.out.mono (by omega), HO.out⟩
    · have := Nat.mod_le r1 n; omega
    · show Ending.returned (.int .i64 ((r1 : Int) % (n : Int))) = _
      rw [show (r1 : Int) % (n : Int) = ((r1 % n : Nat) : Int) by rw [Int.natCast_emod]]

/-- One in n. -/
theorem one_any (n B g m : Nat) (w : World) (h : Cur w B g m) (hm : m ≤ 900000) (hn : n ≤ 1000000) :
    Calls Tryd.prog 26 #[.pointer (some ⟨g, 0, none⟩), .int .i64 (n : Int)] w fun e w' => ∃ b : Bool, e = .returned (.bool b) ∧ Cur w' B g (m + 2) ∧ Only g w w' := by
  have cp : ∀ W, Cur W B g m → Calls Tryd.prog 22 #[.pointer (some ⟨g, 0, none⟩), .int .i64 (n : Int)] W (fun e w' => ∃ r : Nat, (r < n ∨ r = 0) ∧ r ≤ 65535 ∧ e = .returned (.int .i64 (r : Int)) ∧ Cur w' B g (m + 2) ∧ Only g W w') := fun W h => pick_any n B g m W h hm hn
  have HC := Lib.hid h
  clear h
  go_enter Tryd.func26, Tryd.ntmps26
  go_wp2_with fail
  refine (cp _ HC.out).mono ?_
  rintro e w1 ⟨r, _, hr, rfl, hc1, ho1⟩
  have HC1 := Lib.hid hc1
  have HO := Lib.hid ho1
  clear hc1 ho1
  go_wp2_with fail
  go_ret
  exact ⟨_, rfl, HC1.out, HO.out⟩

/-- One of some texts. -/
theorem of_any (b o c B g m : Nat) (l : List ByteArray) (w : World) (h : Cur w B g m) (hm : m ≤ 900000) (hbg : b ≠ g) (hcell : ∀ j x, (l.map Value.string)[j]? = some x → w.cell? ⟨b, o + j, none⟩ = some x) (hl0 : 0 < l.length) (hl : l.length ≤ 1000000) :
    Calls Tryd.prog 27 #[.pointer (some ⟨g, 0, none⟩), .slice (some ⟨b, o, none⟩) l.length c] w fun e w' => ∃ s ∈ l, e = .returned (.string s) ∧ Cur w' B g (m + 2) ∧ Only g w w' := by
  have cp : ∀ W, Cur W B g m → Calls Tryd.prog 22 #[.pointer (some ⟨g, 0, none⟩), .int .i64 (l.length : Int)] W (fun e w' => ∃ r : Nat, (r < l.length ∨ r = 0) ∧ r ≤ 65535 ∧ e = .returned (.int .i64 (r : Int)) ∧ Cur w' B g (m + 2) ∧ Only g W w') := fun W h => pick_any l.length B g m W h hm hl
  have HC := Lib.hid h
  have HL := Lib.hid hcell
  have hli : (l.length : Int) ≤ 1000000 := by omega
  clear h hcell
  go_enter Tryd.func27, Tryd.ntmps27
  go_wp2_with fail
  refine (cp _ HC.out).mono ?_
  rintro e w1 ⟨r, hrl, hr, rfl, hc1, ho1⟩
  have hrlt : r < l.length := by omega
  have hrli : (r : Int) < (l.length : Int) := by omega
  obtain ⟨x, hx⟩ : ∃ x, x = l[r] := ⟨_, rfl⟩
  have hcl : w1.cell? ⟨b, o + r, none⟩ = some (.string x) := ho1.cell (HL.out r _ (by rw [hx, List.getElem?_map, List.getElem?_eq_getElem hrlt]; rfl)) hbg
  have hmem : Hid (x ∈ l) := Lib.hid (by rw [hx]; exact List.getElem_mem _)
  have HC1 := Lib.hid hc1
  have HO := Lib.hid ho1
  clear hc1 ho1 hx hrl
  go_wp2_with fail
  go_ret
  exact ⟨x, hmem.out, rfl, HC1.out, HO.out⟩

end Go.Proofs.YtfjnfgeielgihaaDoor
