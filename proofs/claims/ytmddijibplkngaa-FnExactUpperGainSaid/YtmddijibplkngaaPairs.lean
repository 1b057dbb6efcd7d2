/- IsMonotone and IsSubmodular: the contracts of both sides. Condition: the list reads as such. -/
import Derived.Test.YtmddijibplkngaaTable
namespace Go.Proofs.Ytmddijibplkngaa
open Go.RowKit Go.Shelf

theorem drewTrans {a b c : World} (h : DrewTo a b) (k : DrewTo b c) : DrewTo a c := by
  obtain ⟨d, rfl⟩ := h; obtain ⟨f, rfl⟩ := k; exact ⟨d + f, by rw [World.drewN_drewN]⟩
theorem cellNew (w : World) (v : Value) (e : TypeId) : (w.alloc (.cells #[v] e)).cell? ⟨w.heap.size, 0, none⟩ = some v := by
  have h : (w.alloc (.cells #[v] e)).heap[w.heap.size]? = some (.cells #[v] e) := by show (w.heap.push _)[w.heap.size]? = _; simp
  unfold World.cell?; simp only [h]; rfl
/-- What a box that holds a list of 2^m numbers reads. -/
structure Held1 (w : World) (g : Nat) (r : Row) (b o q : Nat) : Prop where
  box : w.cell? ⟨g, 0, none⟩ = some (.slice (some ⟨b, o, none⟩) q r.c)
  at' : ∀ m, m < q → w.cell? ⟨b, o + m, none⟩ = some (.int .i64 (r.l.getD m 0))

set_option maxRecDepth 16000 in
set_option maxHeartbeats 1000000 in
theorem mono1_any (r : Row) (g b o m q a c : Nat) (w : World) (h : Held1 w g r b o q) (hq : q = 2 ^ m) (hm : m ≤ 7) (ha : a < q) (hc : c < q) :
    Calls Try.prog 55 #[.int .i64 a, .int .i64 c, .pointer (some ⟨g, 0, none⟩)] w fun e w' => e = .returned (.bool (mono1 r.l a c)) ∧ DrewTo w w' := by
  obtain ⟨_, hp2⟩ := pow7 hm
  obtain ⟨d, hd⟩ : ∃ d, d = a &&& c := ⟨_, rfl⟩
  have hdq : d < q := by rw [hd, hq]; exact and_in (by rw [← hq]; exact ha)
  have hand : bits BinOp.and IntKind.i64 (a : Int) (c : Int) = (d : Int) := by rw [hd]; exact and_place (by omega) (by omega)
  obtain ⟨x, hx⟩ : ∃ x, x = r.l.getD a 0 := ⟨_, rfl⟩
  obtain ⟨y, hy⟩ : ∃ y, y = r.l.getD d 0 := ⟨_, rfl⟩
  have c0 := h.box
  have c1 := h.at' a ha
  have c2 := h.at' d hdq
  rw [← hx] at c1
  rw [← hy] at c2
  have i1 : (a : Int) < (q : Int) := by omega
  have i2 : (d : Int) < (q : Int) := by omega
  have i3 : (q : Int) ≤ 128 := by omega
  have HE : Hid (mono1 r.l a c = decide (y ≤ x)) := Lib.hid (by rw [hx, hy, hd]; rfl)
  clear hd hx hy h hq hm hp2 ha hc hdq
  go_enter Try.func55, Try.ntmps55
  go_wp2
  go_quiet (fail)
  go_wp2
  go_ret
  exact ⟨by rw [HE.out]; rfl, (DrewTo.refl _).more _⟩

set_option maxRecDepth 16000 in
set_option maxHeartbeats 1000000 in
theorem sub1_any (r : Row) (g b o m q a c : Nat) (w : World) (h : Held1 w g r b o q) (hq : q = 2 ^ m) (hm : m ≤ 7) (ha : a < q) (hc : c < q) (hb : ∀ k, -1000000 ≤ r.l.getD k 0 ∧ r.l.getD k 0 ≤ 1000000) :
    Calls Try.prog 56 #[.int .i64 a, .int .i64 c, .pointer (some ⟨g, 0, none⟩)] w fun e w' => e = .returned (.bool (sub1 r.l a c)) ∧ DrewTo w w' := by
  obtain ⟨_, hp2⟩ := pow7 hm
  obtain ⟨d, hd⟩ : ∃ d, d = a &&& c := ⟨_, rfl⟩
  obtain ⟨f, hf⟩ : ∃ f, f = a ||| c := ⟨_, rfl⟩
  have hdq : d < q := by rw [hd, hq]; exact and_in (by rw [← hq]; exact ha)
  have hfq : f < q := by rw [hf, hq]; exact or_in (by rw [← hq]; exact ha) (by rw [← hq]; exact hc)
  have hand : bits BinOp.and IntKind.i64 (a : Int) (c : Int) = (d : Int) := by rw [hd]; exact and_place (by omega) (by omega)
  have hor : bits BinOp.or IntKind.i64 (a : Int) (c : Int) = (f : Int) := by rw [hf]; exact or_place (by omega) (by omega)
  obtain ⟨x, hx⟩ : ∃ x, x = r.l.getD a 0 := ⟨_, rfl⟩
  obtain ⟨z, hz⟩ : ∃ z, z = r.l.getD c 0 := ⟨_, rfl⟩
  obtain ⟨y, hy⟩ : ∃ y, y = r.l.getD d 0 := ⟨_, rfl⟩
  obtain ⟨u, hu⟩ : ∃ u, u = r.l.getD f 0 := ⟨_, rfl⟩
  have c0 := h.box
  have c1 := h.at' a ha
  have c2 := h.at' d hdq
  have c3 := h.at' c hc
  have c4 := h.at' f hfq
  have b1 := hb a
  have b2 := hb d
  have b3 := hb c
  have b4 := hb f
  rw [← hx] at c1 b1
  rw [← hy] at c2 b2
  rw [← hz] at c3 b3
  rw [← hu] at c4 b4
  have i1 : (a : Int) < (q : Int) := by omega
  have i2 : (d : Int) < (q : Int) := by omega
  have i4 : (c : Int) < (q : Int) := by omega
  have i5 : (f : Int) < (q : Int) := by omega
  have i3 : (q : Int) ≤ 128 := by omega
  have w1 : IntKind.i64.wrap (x + z) = x + z := IntWalk.i64_in _ (by omega)
  have w2 : IntKind.i64.wrap (y + u) = y + u := IntWalk.i64_in _ (by omega)
  have HE : Hid (sub1 r.l a c = decide (x + z ≥ y + u)) := Lib.hid (by rw [hx, hy, hd, hz, hu, hf]; rfl)
  clear hd hf hx hy hz hu h hq hm hp2 ha hc hdq hfq hb b1 b2 b3 b4
  go_enter Try.func56, Try.ntmps56
  go_wp2
  go_quiet (fail)
  go_wp2
  go_ret
  exact ⟨by rw [HE.out]; rfl, (DrewTo.refl _).more _⟩
end Go.Proofs.Ytmddijibplkngaa
