/- What the drawing of chapter 1's arguments rests on: a code that reads as bytes, a new cursor, one of some texts, a text of zero bytes. Condition: the code has at most 65536 bytes. -/
import Derived.Test.YtfjnfgeielgihaaDoorRows
import Derived.Test.YtfjnfgeielgihaaDoorCur
import Derived.Maps.AppendAt
namespace Go.Proofs.YtfjnfgeielgihaaDoor
open Go.RowKit

/-- The code reads as n bytes in blocks below B. -/
def CodeAt (w : World) (B : Nat) (a : Option Addr) (n : Nat) : Prop :=
  ∃ xs : List Int, xs.length = n ∧ (∀ x ∈ xs, 0 ≤ x ∧ x ≤ 255) ∧ (n = 0 ∨ ∃ b o, a = some ⟨b, o, none⟩ ∧ b < B ∧ ∀ i x, xs[i]? = some x → w.cell? ⟨b, o + i, none⟩ = some (.int .u8 x))
theorem CodeAt.on {w w' : World} {B : Nat} {a : Option Addr} {n : Nat} (h : CodeAt w B a n) (hb : Below B w w') : CodeAt w' B a n := by
  obtain ⟨xs, h1, h2, h3⟩ := h
  refine ⟨xs, h1, h2, ?_⟩
  rcases h3 with h3 | ⟨b, o, ha, hlt, hc⟩
  · exact .inl h3
  · exact .inr ⟨b, o, ha, hlt, fun i x hi => (hb.cell (p := ⟨b, o + i, none⟩) hlt).trans (hc i x hi)⟩
theorem CodeAt.up {w : World} {B B' : Nat} {a : Option Addr} {n : Nat} (h : CodeAt w B a n) (hB : B ≤ B') : CodeAt w B' a n := by
  obtain ⟨xs, h1, h2, h3⟩ := h
  refine ⟨xs, h1, h2, ?_⟩
  rcases h3 with h3 | ⟨b, o, ha, hlt, hc⟩
  · exact .inl h3
  · exact .inr ⟨b, o, ha, by omega, hc⟩
/-- A new cursor. -/
theorem cur_new {w : World} {B : Nat} {a : Option Addr} {n : Nat} (c : Nat) (h : CodeAt w B a n) (hn : n ≤ 65536) (hB : B ≤ w.heap.size) : Cur (w.alloc (.cells #[.slice a n c, .int .i64 0, .int .u64 0] 37)) B w.heap.size 0 := by
  obtain ⟨xs, h1, h2, h3⟩ := h
  refine ⟨hB, a, n, c, 0, 0, xs, World.alloc_heap_new w _, Nat.le_refl _, hn, h1, h2, ?_⟩
  rcases h3 with h3 | ⟨b, o, ha, hlt, hc⟩
  · exact .inl h3
  · exact .inr ⟨b, o, ha, hlt, fun i x hi => (World.cell?_of_block (a := ⟨b, o + i, none⟩) (Below.heap_alloc w _ b (by omega))).trans (hc i x hi)⟩

/-- The cells of a list that has just been laid. -/
theorem laid_cells (w : World) (cs : Array Value) (t : TypeId) : ∀ j x, cs.toList[j]? = some x → (w.alloc (.cells cs t)).cell? ⟨w.heap.size, 0 + j, none⟩ = some x := by
  intro j x hj
  rw [cell_of_row _ w.heap.size (0 + j) cs t (0, 0) (World.alloc_heap_new w _), Nat.zero_add]
  simpa using hj

/-- The call of 'of' over a list that has just been laid. -/
theorem of_laid (cs : Array Value) (l : List ByteArray) (hcs : cs.toList = l.map Value.string) (B g m : Nat) (w : World) (h : Cur w B g m) (hm : m ≤ 900000) (hl0 : 0 < l.length) (hl : l.length ≤ 1000000) :
    Calls Tryd.prog 27 #[.pointer (some ⟨g, 0, none⟩), .slice (some ⟨w.heap.size, 0, none⟩) l.length l.length] (w.alloc (.cells cs 9)) fun e w' => ∃ s ∈ l, e = .returned (.string s) ∧ Cur w' B g (m + 2) ∧ Only g w w' :=
  (of_any w.heap.size 0 l.length B g m l _ (h.alloc _) hm (by have := h.lt; omega) (fun j x hj => laid_cells w cs _ j x (by rw [hcs]; exact hj)) hl0 hl).mono fun e w' ⟨s, h1, h2, h3, h4⟩ => ⟨s, h1, h2, h3, ((Only.refl g w).alloc _).trans h4⟩

def anys : List ByteArray := [⟨#[]⟩, ⟨#[97]⟩, ⟨#[97, 44, 98]⟩, ⟨#[115, 111, 109, 101, 32, 119, 111, 114, 100, 115]⟩, ⟨#[120, 35, 121]⟩, ⟨#[45, 49, 50]⟩, ⟨#[0, 255]⟩, ⟨#[44, 44]⟩, ⟨#[48]⟩]
theorem any1_any (B g m : Nat) (w : World) (h : Cur w B g m) (hm : m ≤ 900000) :
    Calls Tryd.prog 30 #[.pointer (some ⟨g, 0, none⟩)] w fun e w' => ∃ s : ByteArray, s.size ≤ 100 ∧ e = .returned (.string s) ∧ Cur w' B g (m + 2) ∧ Only g w w' := by
  have c := of_laid (anys.map Value.string).toArray anys (by simp) B g m w h hm (by decide) (by decide)
  have hz : Hid (∀ s ∈ anys, s.size ≤ 100) := Lib.hid (by decide)
  clear h
  go_enter Tryd.func30, Tryd.ntmps30
  go_wp2_with fail
  refine c.mono ?_
  rintro e w1 ⟨s, hs, rfl, hc1, ho1⟩
  have HC1 := Lib.hid hc1
  have HO := Lib.hid ho1
  have HS := Lib.hid (hz.out s hs)
  clear hc1 ho1 hs c
  go_wp2_with fail
  go_ret
  exact ⟨s, HS.out, rfl, HC1.out, HO.out⟩

theorem infoText : (Tryd.prog.info? 9).map (fun i => (i.zero, i.size, i.bytes)) = some (some (.string ByteArray.empty), 1, 16) := by kernel_rfl
theorem infoByte : (Tryd.prog.info? 5).map (fun i => (i.zero, i.size, i.bytes)) = some (some (.int .u8 0), 1, 1) := by kernel_rfl

/-- k zero bytes. -/
def zeros (k : Nat) : ByteArray := ⟨(List.replicate k (0 : UInt8)).toArray⟩
theorem zeros_size (k : Nat) : (zeros k).size = k := by show (List.replicate k (0 : UInt8)).toArray.size = k; simp
theorem zero_text (w : World) (B g k c : Nat) (h : w.ownsRow B 5 1 (.slice (some ⟨g, 0, none⟩) k c) k (madeCells (Value.int .u8 0).cells (k * 1)).toList) :
    (convert 22 9 (.slice (some ⟨g, 0, none⟩) k c)).run Tryd.prog w = .ok (.string (zeros k)) w := by
  have hl : (List.replicate k (0 : UInt8)).length = k := by simp
  have := run_convert_bytes_back (P := Tryd.prog) w 22 9 5 ⟨g, 0, none⟩ c (List.replicate k (0 : UInt8)) Tryd.underlying22 Tryd.underlying5 Tryd.underlying9 (by
    intro j hj
    rw [hl] at hj
    rw [Addr.add_lit, Nat.zero_add, h.cellAt j (by omega), Nat.mul_one]
    have e : (madeCells (Value.int .u8 0).cells k).toList = List.replicate k (Value.int .u8 0) := toList_madeCells_one _ _
    rw [e, List.getElem?_replicate, if_pos hj]
    simp)
  rw [hl] at this
  exact this

def seps2 : List ByteArray := [⟨#[44]⟩, ⟨#[59]⟩, ⟨#[59]⟩, ⟨#[]⟩, ⟨#[97, 98]⟩]
theorem owns_base {w : World} {B B' : Nat} {e : TypeId} {v : Value} {n : Nat} {xs : List Value} (h : w.ownsRow B e 1 v n xs) (hB : B' ≤ B) : w.ownsRow B' e 1 v n xs := by
  obtain ⟨h1, h2⟩ := h
  refine ⟨h1, ?_⟩
  rcases h2 with h2 | ⟨g, cap, cur, hv, hb, r⟩
  · exact .inl h2
  · exact .inr ⟨g, cap, cur, hv, by omega, r⟩
theorem owns_only {w w' : World} {g : Nat} {e : TypeId} {v : Value} {n : Nat} {xs : List Value} (h : w.ownsRow (g + 1) e 1 v n xs) (ho : Only g w w') : w'.ownsRow (g + 1) e 1 v n xs := by
  refine h.kept ho ?_
  cases hv : v.ownBlock with
  | none => exact .inl rfl
  | some k => exact .inr (by have := (h.lt k hv).1; intro e; injection e with e; omega)
theorem cur_appended {w w' : World} {B g m : Nat} {e : TypeId} {v : Value} {n : Nat} {xs : List Value} (h : Cur w B g m) (hr : w.ownsRow (g + 1) e 1 v n xs) (hg : w.grownBy w' v.ownBlock) : Cur w' B g m := by
  have hne : ∀ k, k ≤ g → some k ≠ v.ownBlock := fun k hk e => by have := (hr.lt k e.symm).1; omega
  have hgl := h.lt
  have hBg := h.1
  exact h.kept (hg.block g hgl (hne g (Nat.le_refl _))) (fun k hk => hg.block k (by omega) (hne k (by omega)))

/-- The texts of a drawn list: few and small. -/
def Small (l : List ByteArray) : Prop := l.length ≤ 4 ∧ (l.map (·.size)).sum ≤ 100 * l.length
theorem small_snoc {l : List ByteArray} {s : ByteArray} (h : (l.map (·.size)).sum ≤ 100 * l.length) (hs : s.size ≤ 100) : ((l ++ [s]).map (·.size)).sum ≤ 100 * (l ++ [s]).length := by
  rw [List.map_append, List.sum_append, List.length_append]; simp; omega

end Go.Proofs.YtfjnfgeielgihaaDoor
