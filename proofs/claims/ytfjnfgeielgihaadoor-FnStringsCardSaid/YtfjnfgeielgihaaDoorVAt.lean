/- The contracts of the laws' vBig and vAt, and of a text's turning into bytes. Condition: the code reads as bytes and has at most 65536 of them, where vAt is asked. -/
import Derived.Test.YtfjnfgeielgihaaDoorDrawBase
import Derived.Lib.ConvBytes
import Derived.Lib.AtoiErrMem
namespace Go.Proofs.YtfjnfgeielgihaaDoor
open Go.RowKit

theorem vBig_any (a : Option Addr) (n c : Nat) (w : World) (b : Bool) (hn : n ≤ maxLen) (hb : decide ((65536 : Int) < (n : Int)) = b) :
    Calls Tryd.prog 8 #[.slice a n c] w fun e w' => e = .returned (.bool b) ∧ w' = w := by
  unfold maxLen at hn
  have mi : (n : Int) ≤ 9223372036854775807 := by omega
  subst hb
  go_enter Tryd.func8, Tryd.ntmps8
  go_wp2
  go_ret
  exact ⟨rfl, rfl⟩

theorem vAt_val (a : Option Addr) (n c i B : Nat) (w : World) (hcode : CodeAt w B a n) (hn : n ≤ 65536) (hi : i ≤ 1000) :
    ∃ r : Nat, r ≤ 255 ∧ Calls Tryd.prog 19 #[.slice a n c, .int .i64 (i : Int)] w fun e w' => e = .returned (.int .i64 (r : Int)) ∧ w' = w := by
  obtain ⟨xs, hl, hx, hc⟩ := hcode
  have hni : (n : Int) ≤ 65536 := by omega
  have hii : (i : Int) ≤ 1000 := by omega
  by_cases hlt : i < n
  · obtain ⟨b, o, rfl, _, hcell⟩ := hc.resolve_left (by omega)
    obtain ⟨hx0, hx1⟩ := hx (xs[i]'(by omega)) (List.getElem_mem _)
    obtain ⟨x, hxe⟩ : ∃ x : Nat, (x : Int) = xs[i]'(by omega) := ⟨(xs[i]'(by omega)).toNat, Int.toNat_of_nonneg hx0⟩
    have hcl : w.cell? ⟨b, o + i, none⟩ = some (.int .u8 (x : Int)) := hcell i x (by rw [hxe]; exact List.getElem?_eq_getElem _)
    have hx2 : x ≤ 255 := by omega
    have hx2i : (x : Int) ≤ 255 := by omega
    have hlti : (i : Int) < (n : Int) := by omega
    clear hc hcell hxe hx hl hx0 hx1
    refine ⟨x, hx2, ?_⟩
    go_enter Tryd.func19, Tryd.ntmps19
    go_wp2
    go_ret
    exact ⟨rfl, rfl⟩
  · have hlti : ¬ (i : Int) < (n : Int) := by omega
    clear hc hx hl
    have hm : (i * 7 + n) % 256 < 256 := Nat.mod_lt _ (by decide)
    refine ⟨(i * 7 + n) % 256, by omega, ?_⟩
    go_enter Tryd.func19, Tryd.ntmps19
    go_wp2
    go_ret
    refine ⟨?_, rfl⟩
    show Ending.returned (.int .i64 (((i : Int) * 7 + (n : Int)) % 256)) = _
    rw [show ((i : Int) * 7 + (n : Int)) % 256 = (((i * 7 + n) % 256 : Nat) : Int) by omega]
theorem vAt_any (a : Option Addr) (n c i B : Nat) (w : World) (hcode : CodeAt w B a n) (hn : n ≤ 65536) (hi : i ≤ 1000) :
    Calls Tryd.prog 19 #[.slice a n c, .int .i64 (i : Int)] w fun e w' => (∃ r : Nat, r ≤ 255 ∧ e = .returned (.int .i64 (r : Int))) ∧ w' = w := by
  obtain ⟨r, hr, h⟩ := vAt_val a n c i B w hcode hn hi
  exact h.mono fun e w' ⟨h1, h2⟩ => ⟨⟨r, hr, h1⟩, h2⟩

theorem bits_xor_byte (a b : Nat) (ha : a < 256) (hb : b < 256) : bits .xor .u8 (a : Int) (b : Int) = ((a ^^^ b : Nat) : Int) := by
  have hx : a ^^^ b < 2 ^ 8 := Nat.xor_lt_two_pow (by omega) (by omega)
  have h1 : (BitVec.ofInt 8 (a : Int)).toNat = a := by rw [BitVec.ofInt_natCast, BitVec.toNat_ofNat]; exact Nat.mod_eq_of_lt (by omega)
  have h2 : (BitVec.ofInt 8 (b : Int)).toNat = b := by rw [BitVec.ofInt_natCast, BitVec.toNat_ofNat]; exact Nat.mod_eq_of_lt (by omega)
  show IntKind.u8.wrap ((BitVec.ofInt 8 (a : Int) ^^^ BitVec.ofInt 8 (b : Int)).toNat : Int) = _
  rw [BitVec.toNat_xor, h1, h2, IntKind.wrap_u8]
  omega
theorem xor_ne (a b : Nat) (hb : 0 < b) : a ^^^ b ≠ a := by
  intro h
  have : b = 0 := by
    have h2 : a ^^^ (a ^^^ b) = a ^^^ a := by rw [h]
    rw [← Nat.xor_assoc, Nat.xor_self, Nat.zero_xor] at h2
    exact h2
  omega

/-- '[]byte(s)': a new row that holds the bytes of s, none of them frozen. -/
theorem bytes_made (w : World) (s : ByteArray) : ∃ (wb : World) (cap : Nat), (convert 9 22 (.string s)).run Tryd.prog w = .ok (.slice (some ⟨w.heap.size, 0, none⟩) s.size cap) wb ∧
    (∀ j (h : j < s.size), wb.cell? ⟨w.heap.size, j, none⟩ = some (.int .u8 (s[j].toNat : Int))) ∧ (∀ j, j < s.size → wb.frozen? ⟨w.heap.size, j, none⟩ = false) ∧ Below w.heap.size w wb ∧ wb.heap.size = w.heap.size + 1 := by
  refine ⟨_, _, Lib.run_convert_string_bytes (P := Tryd.prog) w 9 22 5 s Tryd.underlying9 Tryd.underlying22 Tryd.underlying5, fun j h => ?_, fun j h => ?_, Lib.bytesWorld_below _ _ _, Lib.bytesWorld_size _ _ _⟩
  · rw [Lib.bytesWorld_cell w 5 s j h]
    have : s.data.toList.getD j 0 = s[j] := by rw [List.getD_eq_getElem?_getD, List.getElem?_eq_getElem (by simpa using h)]; rfl
    rw [this]
  · have hn := Lib.bytesWorld_at_new w 5 s
    have hsz : s.size ≤ (Lib.bytesCells w 5 s).size := by
      show s.data.size ≤ _
      unfold Lib.bytesCells; simp
    simp [World.frozen?, hn]
    omega

/-- 'string(b)' where b's cells are those of a text but for one that has been written over. -/
theorem bytes_changed (w : World) (g q cap x : Nat) (Y : ByteArray) (hx : x < 256) (hq : q < Y.size) (hbc : ∀ j (h : j < Y.size), w.cell? ⟨g, j, none⟩ = some (.int .u8 (Y[j].toNat : Int))) :
    (convert 22 9 (.slice (some ⟨g, 0, none⟩) Y.size cap)).run Tryd.prog (w.setCell ⟨g, q, none⟩ (.int .u8 (x : Int))).drew = .ok (.string ⟨(Y.data.toList.take q ++ UInt8.ofNat x :: Y.data.toList.drop (q + 1)).toArray⟩) (w.setCell ⟨g, q, none⟩ (.int .u8 (x : Int))).drew := by
  have hl : (Y.data.toList.take q ++ UInt8.ofNat x :: Y.data.toList.drop (q + 1)).length = Y.size := by
    simp only [List.length_append, List.length_take, List.length_cons, List.length_drop, Array.length_toList]
    show min q Y.size + (Y.size - (q + 1) + 1) = Y.size
    omega
  have := run_convert_bytes_back (P := Tryd.prog) (w.setCell ⟨g, q, none⟩ (.int .u8 (x : Int))).drew 22 9 5 ⟨g, 0, none⟩ cap (Y.data.toList.take q ++ UInt8.ofNat x :: Y.data.toList.drop (q + 1)) Tryd.underlying22 Tryd.underlying5 Tryd.underlying9 (by
    intro j hj
    have hj' : j < Y.size := by rw [hl] at hj; exact hj
    rw [Addr.add_lit, Nat.zero_add]
    show (w.setCell ⟨g, q, none⟩ (.int .u8 (x : Int))).cell? ⟨g, j, none⟩ = _
    by_cases hjq : j = q
    · subst hjq
      rw [World.cell?_setCell_same _ _ _ (hbc j hj')]
      have : (Y.data.toList.take j ++ UInt8.ofNat x :: Y.data.toList.drop (j + 1))[j]'(by rw [hl]; exact hj') = UInt8.ofNat x := by
        have e : (Y.data.toList.take j ++ UInt8.ofNat x :: Y.data.toList.drop (j + 1)) = Y.data.toList.set j (UInt8.ofNat x) := by
          rw [List.set_eq_take_append_cons_drop, if_pos (by simpa using hq)]
        simp only [e]
        rw [List.getElem_set_self]
      rw [this, UInt8.toNat_ofNat']
      congr 2; omega
    · rw [World.cell?_setCell_other _ _ _ _ (by intro e; injection e with _ e _; exact hjq e.symm), hbc j hj']
      have : (Y.data.toList.take q ++ UInt8.ofNat x :: Y.data.toList.drop (q + 1))[j]'(by rw [hl]; exact hj') = Y[j] := by
        have e : (Y.data.toList.take q ++ UInt8.ofNat x :: Y.data.toList.drop (q + 1)) = Y.data.toList.set q (UInt8.ofNat x) := by
          rw [List.set_eq_take_append_cons_drop, if_pos (by simpa using hq)]
        simp only [e]
        rw [List.getElem_set_ne (fun e => hjq e.symm)]; rfl
      rw [this])
  rw [hl] at this
  exact this

theorem list_at (Y : ByteArray) (q : Nat) (hq : q < Y.size) : Y.data.toList = Y.data.toList.take q ++ Y[q] :: Y.data.toList.drop (q + 1) := by
  have h : q < Y.data.toList.length := by simpa using hq
  have h2 : Y.data.toList.drop q = Y[q] :: Y.data.toList.drop (q + 1) := List.drop_eq_getElem_cons h
  rw [← h2, List.take_append_drop]
theorem byte_ofNat_ne (c : UInt8) (m : Nat) (hm : 0 < m) (hm2 : m < 256) : c ≠ UInt8.ofNat (c.toNat ^^^ m) := by
  intro e
  have h := congrArg UInt8.toNat e
  rw [UInt8.toNat_ofNat'] at h
  have hx : c.toNat ^^^ m < 2 ^ 8 := Nat.xor_lt_two_pow (by have := c.toNat_lt; omega) (by omega)
  rw [Nat.mod_eq_of_lt (by omega)] at h
  exact xor_ne c.toNat m hm h.symm

end Go.Proofs.YtfjnfgeielgihaaDoor
