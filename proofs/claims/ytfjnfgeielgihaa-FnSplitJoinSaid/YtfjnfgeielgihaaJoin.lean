/- The contracts of JoinStrings, of the program and of the model: the joined text and true, or the empty text and false. Condition: the list reads as such and holds, with its texts, at most 1048576 values and bytes; the separator has at most 1048576 bytes. -/
import Derived.Test.YtfjnfgeielgihaaRows
import Derived.Test.YtfjnfgeielgihaaStrs
import Derived.Test.YtfjnfgeielgihaaStands
import Derived.Test.YtfjnfgeielgihaaShelf
namespace Go.Proofs.Ytfjnfgeielgihaa
open Go.RowKit

theorem join_exit {l : List ByteArray} {sep : ByteArray} (h : joinF l sep = (⟨#[]⟩, false)) : Ending.returned (.tuple #[.string { data := #[] }, .bool false]) = .returned (.tuple #[.string (joinF l sep).1, .bool (joinF l sep).2]) := by rw [h]
theorem join_found {l : List ByteArray} {sep x : ByteArray} (h : joinF l sep = (x, true)) : Ending.returned (.tuple #[.string x, .bool true]) = .returned (.tuple #[.string (joinF l sep).1, .bool (joinF l sep).2]) := by rw [h]

theorem concat_run (a b c : ByteArray) (hc : a ++ b = c) (h : a.size + b.size ≤ 100000000) (W : World) : (Op.stringOp .add a b).run Try.prog W = .ok (.string c) W := by
  rw [run_string_add_sum W _ _ (by omega), hc]

theorem size_at {l : List ByteArray} {k : Nat} (h : k < l.length) : l[k].size ≤ sumSz l := by
  have h1 := sumSz_step h
  have h2 := sumSz_mono l (k + 1)
  omega

/-- The tests that fail before the loop. -/
theorem specJoin_early (a : Option Addr) (c : Nat) (l : List ByteArray) (sep : ByteArray) (w : World) (h : sep.size ≠ 1 ∨ l = []) :
    Calls Try.prog 13 #[.slice a l.length c, .string sep] w fun e w' => e = .returned (.tuple #[.string (joinF l sep).1, .bool (joinF l sep).2]) ∧ ∃ k, w' = w.drewN k := by
  have HB : Hid (joinF l sep = (⟨#[]⟩, false)) := Lib.hid (joinF_bad fun ⟨h1, h2, _⟩ => h.elim (fun h => h h2) h1)
  by_cases h1 : sep.size = 1
  · have hl : l = [] := h.resolve_left fun h => h h1
    subst hl
    have a1 : ((sep.size : Int) == 1) = true := by simp; omega
    have a2 : ((sep.size : Int) != 1) = false := by simp; omega
    clear h h1
    go_enter Try.func13, Try.ntmps13
    go_wp2
    go_ret2
    exact ⟨join_exit HB.out, 0, rfl⟩
  · have a1 : ((sep.size : Int) == 1) = false := by simp; omega
    have a2 : ((sep.size : Int) != 1) = true := by simp; omega
    clear h h1
    go_enter Try.func13, Try.ntmps13
    go_wp2
    go_ret2
    exact ⟨join_exit HB.out, 0, rfl⟩

set_option maxHeartbeats 2000000 in
theorem specJoin_loop (a : Option Addr) (c : Nat) (l : List ByteArray) (sep : ByteArray) (w : World) (hr : RowAt w a c (sv l)) (hn : l.length + sumSz l ≤ 1048576) (hs : sep.size = 1) (hl : l ≠ []) :
    Calls Try.prog 13 #[.slice a l.length c, .string sep] w fun e w' => e = .returned (.tuple #[.string (joinF l sep).1, .bool (joinF l sep).2]) ∧ ∃ k, w' = w.drewN k := by
  obtain ⟨_, _, h3⟩ := hr
  rcases h3 with h3 | ⟨b, o, rfl, hb, hcell⟩
  · exact absurd (List.eq_nil_of_length_eq_zero (sv_nil h3)) hl
  have HC := Lib.hid hcell
  have hlen : 0 < l.length := List.length_pos_iff.2 hl
  have HL := Lib.hid hl
  have hni : (l.length : Int) ≤ 1048576 := by omega
  have hn0 : ((l.length : Int) == 0) = false := by simp; omega
  have a1 : ((sep.size : Int) == 1) = true := by simp; omega
  have a2 : ((sep.size : Int) != 1) = false := by simp; omega
  have hs0 : (0 : Int) < sep.size := by omega
  have hs1 : 0 < sep.size := by omega
  have HS := Lib.hid hs
  have HJ : Hid (∀ k, k ≤ l.length → (joinTo sep l k).size = sumSz (l.take k) + (k - 1)) := Lib.hid (join_size hs)
  obtain ⟨m, hm⟩ : ∃ m : UInt8, m = sep[0] := ⟨_, rfl⟩
  have HOK : Hid (JoinOk l sep → (∀ p ∈ l, hasB p m = false) ∧ (joinTo sep l l.length).size ≤ 4000) := Lib.hid fun ⟨_, _, h⟩ => by rw [hm]; exact h
  have HOK2 : Hid ((∀ p ∈ l, hasB p m = false) → (joinTo sep l l.length).size ≤ 4000 → JoinOk l sep) := Lib.hid fun h1 h2 => ⟨hl, hs, by rw [← hm]; exact h1, h2⟩
  have hm' : (sep[0].toNat : Int) = (m.toNat : Int) := by rw [hm]
  clear hcell hl hs hm
  go_enter Try.func13, Try.ntmps13
  go_wp2
  go_loopw [6, 7] (fun out i wr => ∃ (k : Nat), k ≤ l.length ∧ i = .int .i64 k ∧ out = .string (joinTo sep l k) ∧ (joinTo sep l k).size ≤ 4000 ∧ (∀ p ∈ l.take k, hasB p m = false) ∧ DrewTo w wr) (fun _ i _ => l.length - (intOf i).toNat)
  case atStart => exact ⟨0, Nat.zero_le _, rfl, rfl, by simp [joinTo]; decide, by simp, DrewTo.refl _⟩
  case round =>
    obtain ⟨k, hk, rfl, rfl, hsz, hclr, hdw⟩ := hrel
    have HCl := Lib.hid hclr
    clear hclr
    by_cases hlt : k < l.length
    · obtain ⟨x, hx⟩ : ∃ x, x = l[k] := ⟨_, rfl⟩
      have hcl : wr.cell? ⟨b, o + k, none⟩ = some (.string x) := by rw [hdw.cell, hx]; exact HC.out k _ (sv_at hlt)
      have hlti : (k : Int) < (l.length : Int) := by omega
      have hxs : x.size ≤ 1048576 := by rw [hx]; have := size_at hlt; omega
      by_cases hst : hasB x m = true
      · have cs : ∀ W, Calls Try.prog 32 #[.string x, .int .u8 m.toNat] W fun e w' => e = .returned (.bool true) ∧ w' = W := fun W => stands_yes x m W hxs hst
        have HB : Hid (joinF l sep = (⟨#[]⟩, false)) := Lib.hid (joinF_bad fun h => by
          have := (HOK.out h).1 x (by rw [hx]; exact List.getElem_mem hlt)
          rw [hst] at this; cases this)
        clear hx hst
        go_wp2
        go_quiet ((go_at_call 32; exact Calls.quiet_of_same (cs _)))
        go_wp2
        go_ret2
        exact ⟨join_exit HB.out, hdw.more _⟩
      · have hst' : hasB x m = false := by simpa using hst
        have cs : ∀ W, Calls Try.prog 32 #[.string x, .int .u8 m.toNat] W fun e w' => e = .returned (.bool false) ∧ w' = W := fun W => stands_no x m W hxs hst'
        have HCl2 : Hid (∀ p ∈ l.take (k + 1), hasB p m = false) := Lib.hid (clear_snoc hlt HCl.out (by rw [← hx]; exact hst'))
        have HX := Lib.hid hx
        have hsp : sep.size = 1 := HS.out
        by_cases hk0 : 0 < k
        · have ck1 := concat_run (joinTo sep l k) sep (joinTo sep l k ++ sep) rfl (by omega)
          have ck2 := concat_run (joinTo sep l k ++ sep) x (joinTo sep l (k + 1)) (by rw [hx]; exact join_next hk0 hlt) (by rw [ByteArray.size_append]; omega)
          have hk0i : (0 : Int) < (k : Int) := by omega
          clear hx hst hst' hsp
          by_cases hbig : 4000 < (joinTo sep l (k + 1)).size
          · have hbigi : (4000 : Int) < (joinTo sep l (k + 1)).size := by omega
            have HB : Hid (joinF l sep = (⟨#[]⟩, false)) := Lib.hid (joinF_bad fun h => by
              have h1 := (HOK.out h).2
              have h2 := join_mono HS.out (k + 1) (l := l) (by omega)
              omega)
            clear hbig
            go_wp2
            go_quiet ((go_at_call 32; exact Calls.quiet_of_same (cs _)))
            go_wp2
            go_ret2
            exact ⟨join_exit HB.out, hdw.more _⟩
          · have hbigi : ¬ (4000 : Int) < (joinTo sep l (k + 1)).size := by omega
            have hsz2 : (joinTo sep l (k + 1)).size ≤ 4000 := by omega
            clear hbig
            go_wp2
            go_quiet ((go_at_call 32; exact Calls.quiet_of_same (cs _)))
            go_wp2
            go_roundw
            case rel => exact ⟨k + 1, by omega, by go_num, rfl, hsz2, HCl2.out, hdw.more _⟩
            case measure => simp [intOf]; omega
        · have hk00 : k = 0 := by omega
          have ck2 := concat_run (joinTo sep l k) x (joinTo sep l (k + 1)) (by subst hk00; rw [hx]; exact join_first hlt) (by omega)
          have hk0i : ¬ (0 : Int) < (k : Int) := by omega
          clear hk00 hk0
          clear hx hst hst' hsp
          by_cases hbig : 4000 < (joinTo sep l (k + 1)).size
          · have hbigi : (4000 : Int) < (joinTo sep l (k + 1)).size := by omega
            have HB : Hid (joinF l sep = (⟨#[]⟩, false)) := Lib.hid (joinF_bad fun h => by
              have h1 := (HOK.out h).2
              have h2 := join_mono HS.out (k + 1) (l := l) (by omega)
              omega)
            clear hbig
            go_wp2
            go_quiet ((go_at_call 32; exact Calls.quiet_of_same (cs _)))
            go_wp2
            go_ret2
            exact ⟨join_exit HB.out, hdw.more _⟩
          · have hbigi : ¬ (4000 : Int) < (joinTo sep l (k + 1)).size := by omega
            have hsz2 : (joinTo sep l (k + 1)).size ≤ 4000 := by omega
            clear hbig
            go_wp2
            go_quiet ((go_at_call 32; exact Calls.quiet_of_same (cs _)))
            go_wp2
            go_roundw
            case rel => exact ⟨k + 1, by omega, by go_num, rfl, hsz2, HCl2.out, hdw.more _⟩
            case measure => simp [intOf]; omega
    · obtain rfl : k = l.length := by omega
      have HB : Hid (joinF l sep = (joinTo sep l l.length, true)) := Lib.hid (joinF_ok (HOK2.out (by have := HCl.out; rw [List.take_length] at this; exact this) hsz))
      go_wp2
      go_ret2
      exact ⟨join_found HB.out, hdw⟩

/-- The tests that fail before the loop. -/
theorem implJoin_early (a : Option Addr) (c : Nat) (l : List ByteArray) (sep : ByteArray) (w : World) (hn : l.length ≤ 1048576) (h : sep.size ≠ 1 ∨ l = []) :
    Calls Try.prog 12 #[.slice a l.length c, .string sep] w fun e w' => e = .returned (.tuple #[.string (joinF l sep).1, .bool (joinF l sep).2]) ∧ Below w.heap.size w w' := by
  have HB : Hid (joinF l sep = (⟨#[]⟩, false)) := Lib.hid (joinF_bad fun ⟨h1, h2, _⟩ => h.elim (fun h => h h2) h1)
  by_cases hl : l = []
  · subst hl
    clear h hn
    go_enter Try.func12, Try.ntmps12
    go_wp2
    go_ret2
    exact ⟨join_exit HB.out, Below.refl _ _⟩
  · have h1 : sep.size ≠ 1 := h.resolve_right hl
    have hl0 : 0 < l.length := List.length_pos_iff.2 hl
    have hni : ((l.length : Int) == 0) = false := by simp; omega
    have a1 : ((sep.size : Int) == 1) = false := by simp; omega
    have a2 : ((sep.size : Int) != 1) = true := by simp; omega
    clear h h1 hl
    go_enter Try.func12, Try.ntmps12
    go_wp2
    go_ret2
    exact ⟨join_exit HB.out, Below.refl _ _⟩

theorem contains_byte (x sep : ByteArray) (w : World) (b : Bool) (hs : sep.size = 1) (h : hasB x (sep[0]'(by omega)) = b) :
    Calls Try.prog 30 #[.string x, .string sep] w fun e w' => e = .returned (.bool b) ∧ w' = w := by
  have := Try.strings_Contains_one x (sep[0]'(by omega)) w
  rw [← one_byte sep hs] at this
  refine this.mono fun e w' ⟨he, hw⟩ => ⟨?_, hw⟩
  rw [he, ← Lib.contains_iff_indexByte, ← h]; rfl

theorem join_call (b o c : Nat) (l : List ByteArray) (sep : ByteArray) (w : World) (hb : b < w.heap.size) (hcell : ∀ j x, (sv l)[j]? = some x → w.cell? ⟨b, o + j, none⟩ = some x) (hc : l.length ≤ c) (hn : l.length ≤ 1048576) (hz : (joinTo sep l l.length).size ≤ 4000) :
    Calls Try.prog 31 #[.slice (some ⟨b, o, none⟩) l.length c, .string sep] w fun e w' => e = .returned (.string (joinTo sep l l.length)) ∧ Below w.heap.size w w' := by
  have hl : (Lib.join (l.map (·.data.toList)) sep.data.toList).length = (joinTo sep l l.length).size := by rw [← lib_join]; show _ = (Lib.join _ _).toArray.size; simp
  have := Try.strings_Join b o c l sep w (fun j x hj => hcell j _ (by unfold sv; rw [List.getElem?_map, hj]; rfl)) hb (by omega) hc (by omega)
  rw [lib_join] at this
  exact this

set_option maxHeartbeats 1000000 in
theorem implJoin_loop (a : Option Addr) (c : Nat) (l : List ByteArray) (sep : ByteArray) (w : World) (hr : RowAt w a c (sv l)) (hn : l.length + sumSz l ≤ 1048576) (hs : sep.size = 1) (hl : l ≠ []) :
    Calls Try.prog 12 #[.slice a l.length c, .string sep] w fun e w' => e = .returned (.tuple #[.string (joinF l sep).1, .bool (joinF l sep).2]) ∧ Below w.heap.size w w' := by
  obtain ⟨hlc, _, h3⟩ := hr
  rw [sv_length] at hlc
  rcases h3 with h3 | ⟨b, o, rfl, hb, hcell⟩
  · exact absurd (List.eq_nil_of_length_eq_zero (sv_nil h3)) hl
  have HC := Lib.hid hcell
  have hlen : 0 < l.length := List.length_pos_iff.2 hl
  have hni : (l.length : Int) ≤ 1048576 := by omega
  have hlen1 : (1 : Int) ≤ l.length := by omega
  have hn0 : ((l.length : Int) == 0) = false := by simp; omega
  have a1 : ((sep.size : Int) == 1) = true := by simp; omega
  have a2 : ((sep.size : Int) != 1) = false := by simp; omega
  have HS := Lib.hid hs
  have HJ : Hid ((joinTo sep l l.length).size = sumSz l + (l.length - 1)) := Lib.hid (by have := join_size hs l.length (Nat.le_refl _) (l := l); rw [sumSz_all] at this; exact this)
  obtain ⟨m, hm⟩ : ∃ m : UInt8, m = sep[0] := ⟨_, rfl⟩
  have HOK : Hid (JoinOk l sep → (∀ p ∈ l, hasB p m = false) ∧ (joinTo sep l l.length).size ≤ 4000) := Lib.hid fun ⟨_, _, h⟩ => by rw [hm]; exact h
  have HOK2 : Hid ((∀ p ∈ l, hasB p m = false) → (joinTo sep l l.length).size ≤ 4000 → JoinOk l sep) := Lib.hid fun h1 h2 => ⟨hl, hs, by rw [← hm]; exact h1, h2⟩
  have HCT : Hid (∀ (x : ByteArray) (w : World) (b : Bool), hasB x m = b → Calls Try.prog 30 #[.string x, .string sep] w fun e w' => e = .returned (.bool b) ∧ w' = w) := Lib.hid fun x w b h => contains_byte x sep w b hs (by rw [← hm]; exact h)
  clear hcell hl hs hm
  go_enter Try.func12, Try.ntmps12
  go_wp2
  go_loop [6, 23] (fun room i => ∃ (k : Nat) (r : Int), k ≤ l.length ∧ i = .int .i64 k ∧ room = .int .i64 r ∧ 0 - 1048576 ≤ r ∧ r ≤ 4000 ∧ (r = 4000 - ((l.length : Int) - 1) - sumSz (l.take k) ∧ (0 < k → 0 ≤ r) ∧ ∀ p ∈ l.take k, hasB p m = false)) (fun _ i => l.length - (intOf i).toNat)
  case atStart => exact ⟨0, _, Nat.zero_le _, rfl, rfl, by omega, by omega, by simp [sumSz], by omega, by simp⟩
  case round =>
    obtain ⟨k, r, hk, rfl, rfl, hr0, hr1, hrest⟩ := hrel
    have HR := Lib.hid hrest
    clear hrest
    by_cases hlt : k < l.length
    · obtain ⟨x, hx⟩ : ∃ x, x = l[k] := ⟨_, rfl⟩
      have hcl : w.cell? ⟨b, o + k, none⟩ = some (.string x) := by rw [hx]; exact HC.out k _ (sv_at hlt)
      have hxs : (x.size : Int) ≤ 1048576 := by rw [hx]; have := size_at hlt; omega
      have HX : Hid (sumSz (l.take (k + 1)) = sumSz (l.take k) + x.size) := Lib.hid (by rw [hx]; exact sumSz_step hlt)
      have HM : Hid (sumSz (l.take (k + 1)) ≤ sumSz l) := Lib.hid (sumSz_mono l (k + 1))
      have HXM : Hid (x ∈ l) := Lib.hid (by rw [hx]; exact List.getElem_mem hlt)
      by_cases hneg : r - (x.size : Int) < 0
      · have HB : Hid (joinF l sep = (⟨#[]⟩, false)) := Lib.hid (joinF_bad fun h => by
          have h1 := (HOK.out h).2
          have h2 := HJ.out
          have h3 := HX.out
          have h4 := HM.out
          have h5 := HR.out.1
          omega)
        clear hx
        go_wp2
        go_ret2
        exact ⟨join_exit HB.out, Below.refl _ _⟩
      by_cases hst : hasB x m = true
      · have cs := fun W => HCT.out x W true hst
        have HB : Hid (joinF l sep = (⟨#[]⟩, false)) := Lib.hid (joinF_bad fun h => by
          have := (HOK.out h).1 x HXM.out
          rw [hst] at this; cases this)
        clear hx hst
        go_wp2_with (go_at_call 30; refine (cs _).mono ?_; rintro e w' ⟨rfl, rfl⟩)
        go_ret2
        exact ⟨join_exit HB.out, Below.refl _ _⟩
      · have hst' : hasB x m = false := by simpa using hst
        have cs := fun W => HCT.out x W false hst'
        have HCl2 : Hid (∀ p ∈ l.take (k + 1), hasB p m = false) := Lib.hid (clear_snoc hlt HR.out.2.2 (by rw [← hx]; exact hst'))
        have HX2 := Lib.hid hx
        clear hx hst hst'
        go_wp2_with (go_at_call 30; refine (cs _).mono ?_; rintro e w' ⟨rfl, rfl⟩)
        go_round
        case rel => exact ⟨k + 1, r - x.size, by omega, by go_num, rfl, by omega, by omega, by have := HX.out; have := HR.out.1; omega, fun _ => by omega, HCl2.out⟩
        case measure => simp [intOf]; omega
    · obtain rfl : k = l.length := by omega
      have hz : (joinTo sep l l.length).size ≤ 4000 := by
        have h1 := HJ.out
        have h2 := HR.out.1
        have h3 := HR.out.2.1 hlen
        rw [sumSz_all] at h2
        omega
      have HB : Hid (joinF l sep = (joinTo sep l l.length, true)) := Lib.hid (joinF_ok (HOK2.out (by have := HR.out.2.2; rw [List.take_length] at this; exact this) hz))
      have cj := fun h => join_call b o c l sep w h HC.out hlc (by omega) hz
      clear hz
      go_wp2_with (go_at_call 31; refine (cj hb).mono ?_; rintro e w' ⟨rfl, hbl⟩)
      go_ret2
      exact ⟨join_found HB.out, hbl⟩

theorem implJoin_any (a : Option Addr) (c : Nat) (l : List ByteArray) (sep : ByteArray) (w : World) (hr : RowAt w a c (sv l)) (hn : l.length + sumSz l ≤ 1048576) :
    Calls Try.prog 12 #[.slice a l.length c, .string sep] w fun e w' => e = .returned (.tuple #[.string (joinF l sep).1, .bool (joinF l sep).2]) ∧ Below w.heap.size w w' := by
  by_cases hl : l = []
  · exact implJoin_early a c l sep w (by omega) (.inr hl)
  by_cases hs : sep.size = 1
  · exact implJoin_loop a c l sep w hr hn hs hl
  · exact implJoin_early a c l sep w (by omega) (.inl hs)
theorem specJoin_any (a : Option Addr) (c : Nat) (l : List ByteArray) (sep : ByteArray) (w : World) (hr : RowAt w a c (sv l)) (hn : l.length + sumSz l ≤ 1048576) :
    Calls Try.prog 13 #[.slice a l.length c, .string sep] w fun e w' => e = .returned (.tuple #[.string (joinF l sep).1, .bool (joinF l sep).2]) ∧ Below w.heap.size w w' := by
  have : Calls Try.prog 13 #[.slice a l.length c, .string sep] w fun e w' => e = .returned (.tuple #[.string (joinF l sep).1, .bool (joinF l sep).2]) ∧ ∃ k, w' = w.drewN k := by
    by_cases hl : l = []
    · exact specJoin_early a c l sep w (.inr hl)
    by_cases hs : sep.size = 1
    · exact specJoin_loop a c l sep w hr hn hs hl
    · exact specJoin_early a c l sep w (.inl hs)
  exact this.mono fun e w' ⟨he, k, hk⟩ => ⟨he, DrewTo.below ⟨k, hk⟩⟩

end Go.Proofs.Ytfjnfgeielgihaa
