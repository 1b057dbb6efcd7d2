/- The contract of the drawing of JoinStrings' arguments: a fresh small list and a small separator, and nothing that lay is changed. Condition: the code has at most 65536 bytes. -/
import Derived.Test.YtfjnfgeielgihaaDraw
namespace Go.Proofs.Ytfjnfgeielgihaa
open Go.RowKit

/-- Where the drawing stands: the cursor, and the list that has been gathered. -/
def Gath (B g m : Nat) (w0 : World) (v : Value) (l : List ByteArray) (w : World) : Prop :=
  Cur w B g m ∧ w.ownsRow (g + 1) 9 1 v l.length (l.map Value.string) ∧ (l.map (·.size)).sum ≤ 100 * l.length ∧ l.length ≤ 4 ∧ Below B w0 w ∧ g + 1 ≤ w.heap.size
theorem Gath.only {B g m m' : Nat} {w0 w w' : World} {v : Value} {l : List ByteArray} (h : Gath B g m w0 v l w) (hc : Cur w' B g m') (ho : Only g w w') : Gath B g m' w0 v l w' := by
  obtain ⟨h1, h2, h3, h4, h5, h6⟩ := h
  exact ⟨hc, owns_only h2 ho, h3, h4, h5.trans (ho.below h1.1 (by have := h1.lt; have := h1.1; omega)), Nat.le_trans h6 ho.size⟩
theorem Gath.grown {B g m : Nat} {w0 w w1 : World} {v v' : Value} {l : List ByteArray} {s : ByteArray} {tmp : Obj} (h : Gath B g m w0 v l w)
    (hown : w1.ownsRow (g + 1) 9 1 v' (l.length + 1) (l.map Value.string ++ [Value.string s])) (hgrow : (w.alloc tmp).grownBy w1 v.ownBlock) :
    Cur w1 B g m ∧ w1.ownsRow (g + 1) 9 1 v' (l ++ [s]).length ((l ++ [s]).map Value.string) ∧ Below B w0 w1 ∧ g + 1 ≤ w1.heap.size := by
  obtain ⟨h1, h2, h3, h4, h5, h6⟩ := h
  have hgB := h1.1
  refine ⟨cur_appended (h1.alloc tmp) (h2.alloc tmp) hgrow, by simpa using hown, ?_, ?_⟩
  · exact (h5.alloc (by omega) tmp).grown hgrow (by simp; omega) (fun j hj => by have := (h2.lt j hj).1; omega)
  · have := hgrow.size; simp at this; omega
theorem Gath.snoc {B g m : Nat} {w0 w w1 : World} {v v' : Value} {l : List ByteArray} {s : ByteArray} {tmp : Obj} (h : Gath B g m w0 v l w) (hs : s.size ≤ 100) (hl : l.length ≤ 3)
    (hown : w1.ownsRow (g + 1) 9 1 v' (l.length + 1) (l.map Value.string ++ [Value.string s])) (hgrow : (w.alloc tmp).grownBy w1 v.ownBlock) : Gath B g m w0 v' (l ++ [s]) w1 := by
  obtain ⟨h1, h2, h3, h4⟩ := h.grown hown hgrow
  exact ⟨h1, h2, small_snoc h.2.2.1 hs, by simp; omega, h3, h4⟩
theorem only_of_none {g : Nat} {w w' : World} (h : w.grownBy w' none) : Only g w w' := ⟨h.os, h.tape, h.output, h.size, fun k hk _ => h.block k hk (by simp)⟩

set_option maxHeartbeats 2000000 in
theorem drawJoin_any (a : Option Addr) (n c : Nat) (w : World) (hcode : CodeAt w w.heap.size a n) (hn : n ≤ 65536) :
    Calls Try.prog 11 #[.slice a n c] w fun e w' => ∃ (v : Value) (l : List ByteArray) (sep : ByteArray), l.length ≤ 10 ∧ (l.map (·.size)).sum ≤ 10000 ∧ sep.size ≤ 100 ∧ e = .returned (.tuple #[v, .string sep]) ∧ w'.ownsRow w.heap.size 9 1 v l.length (l.map Value.string) ∧ Below w.heap.size w w' := by
  obtain ⟨i0, hi, hz0, hz1, hz2⟩ := info_parts infoText
  obtain ⟨i1, hi', hy0, hy1, hy2⟩ := info_parts infoByte
  have hc0 := (cur_new c hcode hn (Nat.le_refl _)).alloc (.cells #[] 9)
  have hg0 : Gath w.heap.size w.heap.size 0 w (.slice (some ⟨w.heap.size + 1, 0, none⟩) 0 0) [] ((w.alloc (.cells #[.slice a n c, .int .i64 0, .int .u64 0] 44)).alloc (.cells #[] 9)) := by
    refine ⟨hc0, ?_, by simp, by simp, ((Below.refl _ _).alloc (Nat.le_refl _) _).alloc (by simp) _, by simp⟩
    have := World.ownsRow_made (base := w.heap.size + 1) (e := 9) (size := 1) (w.alloc (.cells #[.slice a n c, .int .i64 0, .int .u64 0] 44)) #[] 0 (by simp) (by decide) rfl
    simpa using this
  have HZ : Hid (∀ s ∈ seps2, s.size ≤ 100) := Lib.hid (by decide)
  have HCOf := Lib.hid (fun W g m h hm => of_laid (seps2.map Value.string).toArray seps2 (by simp) w.heap.size g m W h hm (by decide) (by decide))
  have HP : Hid (∀ (k m : Nat) (W : World), Cur W w.heap.size w.heap.size m → m ≤ 900000 → k ≤ 1000000 → Calls Try.prog 28 #[.pointer (some ⟨w.heap.size, 0, none⟩), .int .i64 (k : Int)] W (fun e w' => ∃ r : Nat, (r < k ∨ r = 0) ∧ r ≤ 65535 ∧ e = .returned (.int .i64 (r : Int)) ∧ Cur w' w.heap.size w.heap.size (m + 2) ∧ Only w.heap.size W w')) := Lib.hid fun k m W h hm hk => pick_any k _ _ m W h hm hk
  have HG0 := Lib.hid hg0
  clear hc0 hg0 hcode
  go_enter Try.func11, Try.ntmps11
  go_wp2_with fail
  refine (HP.out 4 _ _ HG0.out.1 (by omega) (by omega)).mono ?_
  rintro e w1 ⟨r, hr4, _, rfl, hc1, ho1⟩
  have hr3 : r ≤ 3 := by omega
  have HG1 := Lib.hid (HG0.out.only hc1 ho1)
  clear hc1 ho1 hr4 HG0
  go_wp2_with fail
  go_loopw [5, 7] (fun v i wr => ∃ (k : Nat) (l : List ByteArray), k ≤ r ∧ i = .int .i64 k ∧ l.length = k ∧ Gath w.heap.size w.heap.size (2 + 2 * k) w v l wr) (fun _ i _ => r - (intOf i).toNat)
  case atStart => exact ⟨0, [], Nat.zero_le _, rfl, rfl, HG1.out⟩
  case round =>
    obtain ⟨k, l, hk, rfl, hlk, hgat⟩ := hrel
    clear HG1
    have HG := Lib.hid hgat
    have HLK := Lib.hid hlk
    clear hgat hlk
    by_cases hlt : k < r
    · have hlti : (k : Int) < (r : Int) := by omega
      go_wp2_with fail
      refine (any1_any _ _ _ _ HG.out.1 (by omega)).mono ?_
      rintro e w2 ⟨s, hs, rfl, hc2, ho2⟩
      have HG2 := Lib.hid (HG.out.only hc2 ho2)
      clear hc2 ho2 HG
      have hown := HG2.out.2.1
      have hl3 : l.length ≤ 3 := by have := HLK.out; omega
      have hsz : w.heap.size + 1 ≤ w2.heap.size := HG2.out.2.2.2.2.2
      go_wp2_with (at_builtin; refine wpList_append_own _ rfl _ _ 26 rfl (w.heap.size + 1) 9 i0 (.string ByteArray.empty) 1 16 Try.underlying26 hi hz0 hz1 hz2 rfl (by decide) _ _ _ rfl (hown.alloc _) ⟨w2.heap.size, 0, none⟩ 1 1 [.string s] rfl rfl (cell_one_new _ _ _) (by simp [Value.oneCell']) (by unfold maxLen; omega) (by omega) (by simp; omega) ?_; intro v' w3 hown' hgrow _)
      have HG3 := Lib.hid (HG2.out.snoc hs hl3 hown' hgrow)
      clear hown' hgrow hown HG2
      go_wp2
      go_roundw
      case rel => exact ⟨k + 1, l ++ [s], by omega, by go_num, by rw [List.length_append, HLK.out]; rfl, HG3.out⟩
      case measure => simp [intOf]; omega
    · have hlti : ¬ (k : Int) < (r : Int) := by omega
      have HO1 : Hid (∀ (m : Nat) (W : World), Cur W w.heap.size w.heap.size m → m ≤ 900000 → Calls Try.prog 29 #[.pointer (some ⟨w.heap.size, 0, none⟩), .int .i64 20] W (fun e w' => ∃ b : Bool, e = .returned (.bool b) ∧ Cur w' w.heap.size w.heap.size (m + 2) ∧ Only w.heap.size W w')) := Lib.hid fun m W h hm => one_any 20 _ _ m W h hm (by omega)
      go_wp2_with fail
      refine (HO1.out _ _ HG.out.1 (by omega)).mono ?_
      rintro e w2 ⟨b, rfl, hc2, ho2⟩
      have HG2 := Lib.hid (HG.out.only hc2 ho2)
      clear hc2 ho2 HG HO1
      cases b
      · go_wp2_with fail
        refine (HCOf.out _ _ _ HG2.out.1 (by omega)).mono ?_
        rintro e w3 ⟨sep, hsep, rfl, hc3, ho3⟩
        have HG3 := Lib.hid (HG2.out.only hc3 ho3)
        have HS := Lib.hid (HZ.out sep hsep)
        clear hc3 ho3 hsep HG2
        go_wp2_with fail
        go_ret2
        obtain ⟨_, h2, h3, h4, h5, _⟩ := HG3.out
        exact ⟨_, l, sep, by omega, by omega, HS.out, rfl, owns_base h2 (by omega), h5⟩
      · go_wp2_with fail
        refine (HP.out 20 _ _ HG2.out.1 (by omega) (by omega)).mono ?_
        rintro e w3 ⟨q, hq, _, rfl, hc3, ho3⟩
        have HG3 := Lib.hid (HG2.out.only hc3 ho3)
        have hq19 : q ≤ 19 := by omega
        have hqi : (q : Int) ≤ 19 := by omega
        clear hc3 ho3 HG2 hq
        have hown := HG3.out.2.1
        have hl3 : l.length ≤ 3 := by have := HLK.out; omega
        have hsz : w.heap.size + 1 ≤ w3.heap.size := HG3.out.2.2.2.2.2
        have hq0 : (0 : Int) ≤ 3990 + (q : Int) := by omega
        go_wp2_with (first | (at_make; refine wpList_make_full _ rfl _ _ 22 rfl w3.heap.size 5 i1 (.int .u8 0) 1 Try.underlying22 hi' hy0 hy1 .i64 .i64 _ _ (3990 + q) rfl rfl (by omega) (by omega) (by rw [hy2]; omega) (by unfold maxLen; omega) (Nat.le_refl _) ?_; intro w4 hown4 hgrow4; have hcv := zero_text w4 _ _ _ _ hown4; have HG4 := Lib.hid (HG3.out.only (HG3.out.1.kept (hgrow4.block _ HG3.out.1.lt (by simp)) (fun k hk => hgrow4.block k (by omega) (by simp))) (only_of_none hgrow4)); have hownB := HG4.out.2.1; have hsz4 := HG4.out.2.2.2.2.2; clear hown4 hgrow4) | (at_builtin; refine wpList_append_own _ rfl _ _ 26 rfl (w.heap.size + 1) 9 i0 (.string ByteArray.empty) 1 16 Try.underlying26 hi hz0 hz1 hz2 rfl (by decide) _ _ _ rfl (hownB.alloc _) ⟨w4.heap.size, 0, none⟩ 1 1 [.string (zeros (3990 + q))] rfl rfl (cell_one_new _ _ _) (by simp [Value.oneCell']) (by unfold maxLen; omega) (by omega) (by simp; omega) ?_; intro v' w5 hown' hgrow _))
        have HG5 := Lib.hid (HG4.out.grown hown' hgrow)
        have HSUM : Hid ((l.map (·.size)).sum ≤ 100 * l.length) := Lib.hid HG4.out.2.2.1
        clear hown' hgrow hownB HG4 hcv
        go_wp2_with fail
        refine (HCOf.out _ _ _ HG5.out.1 (by omega)).mono ?_
        rintro e w6 ⟨sep, hsep, rfl, hc6, ho6⟩
        have HO6 := Lib.hid ho6
        have HS := Lib.hid (HZ.out sep hsep)
        clear hc6 ho6 hsep
        go_wp2_with fail
        go_ret2
        obtain ⟨h1, h2, h3, h4⟩ := HG5.out
        have hsum : ((l ++ [zeros (3990 + q)]).map (·.size)).sum ≤ 10000 := by
          have := HSUM.out
          rw [List.map_append, List.sum_append]; simp [zeros_size]; omega
        exact ⟨_, l ++ [zeros (3990 + q)], sep, by simp; omega, hsum, HS.out, rfl, owns_base (owns_only h2 HO6.out) (by omega), h3.trans (HO6.out.below (Nat.le_refl _) (by omega))⟩

end Go.Proofs.Ytfjnfgeielgihaa
