/- The contracts of the laws' marking of lists of texts: each text is written over by a mark of its number, and the marks are read back. Condition: the list is the call's own, the numbers are small. -/
import Derived.Test.YtfjnfgeielgihaaStrs
import Derived.Test.YtfjnfgeielgihaaPlainNum
import Derived.Deep.RegionHeld3
namespace Go.Proofs.Ytfjnfgeielgihaa
open Go.RowKit

/-- The mark of a number. -/
def markB (k : Nat) : ByteArray := ⟨#[109]⟩ ++ num k
/-- Behind some divisions by ten: what is still to be spelled, and what has been. -/
def Spelt (k j : Nat) (o : ByteArray) : Prop := (0 < j ∧ num j ++ o = num k) ∨ (j = 0 ∧ o = num k)
theorem spelt_start {k : Nat} (h : 0 < k) : Spelt k k ⟨#[]⟩ := .inl ⟨h, by apply ByteArray.ext; simp [ByteArray.data_append]⟩
theorem spelt_step {k j : Nat} {o : ByteArray} (h : Spelt k j o) (hj : 0 < j) : Spelt k (j / 10) (num (j % 10) ++ o) := by
  rcases h with ⟨_, h⟩ | ⟨h, _⟩
  · by_cases h10 : j < 10
    · refine .inr ⟨by omega, ?_⟩
      rw [Nat.mod_eq_of_lt h10]; exact h
    · refine .inl ⟨by omega, ?_⟩
      rw [← ByteArray.append_assoc, num_digits j h10]; exact h
  · omega
theorem num_small (m : Nat) (h : m < 10) : num m = ⟨[UInt8.ofNat (48 + m)].toArray⟩ := by unfold num; rw [Lib.decDigits, dif_pos h]

theorem byte_text (w : World) (m : Nat) (h : m < 10) (v : Int) (hv : v = 48 + (m : Int)) :
    (convert 22 9 (.slice (some ⟨w.heap.size, 0, none⟩) 1 1)).run Try.prog (w.alloc (.cells #[.int .u8 v] 5)) = .ok (.string (num m)) (w.alloc (.cells #[.int .u8 v] 5)) := by
  have := run_convert_bytes_back (P := Try.prog) (w.alloc (.cells #[.int .u8 v] 5)) 22 9 5 ⟨w.heap.size, 0, none⟩ 1 [UInt8.ofNat (48 + m)] Try.underlying22 Try.underlying5 Try.underlying9 (by
    intro j hj
    obtain rfl : j = 0 := by simp at hj; omega
    subst hv
    simp [Addr.add]
    omega)
  rw [num_small m h]
  exact this

set_option maxHeartbeats 1000000 in
theorem markText_any (k : Nat) (w : World) (h : 0 < k) (h2 : k ≤ 9999999) :
    Calls Try.prog 34 #[.int .i64 k] w fun e w' => e = .returned (.string (markB k)) ∧ Below w.heap.size w w' := by
  have a1 : ¬ (k : Int) ≤ 0 := by omega
  have hnk := num_size_le k h2
  obtain ⟨B, hB⟩ : ∃ B, B = w.heap.size := ⟨_, rfl⟩
  have HB := Lib.hid hB
  rw [← hB]
  clear hB
  go_enter Try.func34, Try.ntmps34
  go_wp2
  go_loopw [0, 3] (fun kk out wr => ∃ (j : Nat) (o : ByteArray), kk = .int .i64 j ∧ out = .string o ∧ j ≤ 9999999 ∧ o.size ≤ 7 ∧ Spelt k j o ∧ Below B w wr) (fun kk _ _ => (intOf kk).toNat)
  case atStart => exact ⟨k, ⟨#[]⟩, rfl, rfl, h2, by decide, spelt_start h, Below.refl _ _⟩
  case round =>
    obtain ⟨j, o, rfl, rfl, hj, ho, hsp, hb⟩ := hrel
    have HSP := Lib.hid hsp
    clear hsp
    by_cases hj0 : 0 < j
    · have hj1 : (0 : Int) < (j : Int) := by omega
      have hst := spelt_step HSP.out hj0
      have ho2 : (num (j % 10) ++ o).size ≤ 7 := by
        rcases hst with ⟨_, e⟩ | ⟨_, e⟩
        · have := congrArg ByteArray.size e; rw [ByteArray.size_append] at this; omega
        · rw [e]; exact hnk
      obtain ⟨m, hm, hm2, hm9⟩ : ∃ m : Nat, (j : Int) % 10 = (m : Int) ∧ j % 10 = m ∧ m < 10 := ⟨j % 10, by omega, rfl, by omega⟩
      rw [hm2] at hst ho2
      have HST := Lib.hid hst
      have hcv := byte_text wr m hm9 (48 + (m : Int)) rfl
      have hz : (num m).size + o.size ≤ 7 := by rw [← ByteArray.size_append]; exact ho2
      have hc : ∀ W : World, (Op.stringOp .add (num m) o).run Try.prog W = .ok (.string (num m ++ o)) W := fun W => run_string_add_sum W _ _ (by omega)
      have hB2 : B ≤ wr.heap.size := by have := hb.size; have := HB.out; omega
      clear hst hm2 hz
      go_wp2
      go_roundw
      case rel => exact ⟨j / 10, num m ++ o, by go_num, rfl, by omega, ho2, HST.out, hb.alloc hB2 _⟩
      case measure => simp [intOf]; omega
    · obtain ⟨rfl, he⟩ : j = 0 ∧ o = num k := by
        rcases HSP.out with ⟨h', _⟩ | h'
        · exact absurd h' hj0
        · exact h'
      subst he
      have hc : ∀ W : World, (Op.stringOp .add { data := #[109] } (num k)).run Try.prog W = .ok (.string (markB k)) W := fun W => run_string_add_sum W _ _ (by show 1 + _ ≤ _; omega)
      clear HSP hj0
      go_wp2
      go_ret
      exact ⟨rfl, hb⟩

/-- The marks of the numbers from k on. -/
def marks (k n : Nat) : List ByteArray := (List.range n).map fun i => markB (k + i)
theorem marks_length (k n : Nat) : (marks k n).length = n := by simp [marks]
theorem marks_at {k n i : Nat} (h : i < n) : (marks k n)[i]'(by rw [marks_length]; exact h) = markB (k + i) := by simp [marks]
/-- A row of which the first i texts have been written over. -/
def over (xs ms : List Value) (i : Nat) : List Value := ms.take i ++ xs.drop i
theorem over_zero (xs ms : List Value) : over xs ms 0 = xs := by simp [over]
theorem over_all (xs ms : List Value) (h : ms.length = xs.length) : over xs ms xs.length = ms := by simp [over, ← h]
theorem over_length (xs ms : List Value) (i : Nat) (h : ms.length = xs.length) : (over xs ms i).length = xs.length := by simp [over]; omega
theorem over_set (xs ms : List Value) (i : Nat) (x : Value) (h : ms.length = xs.length) (hx : ms[i]? = some x) : (over xs ms i).set i x = over xs ms (i + 1) := by
  have hi : i < ms.length := (List.getElem?_eq_some_iff.1 hx).1
  have hv : ms[i] = x := (List.getElem?_eq_some_iff.1 hx).2
  unfold over
  rw [List.set_append_right _ _ (by rw [List.length_take]; omega), List.length_take, show i - min i ms.length = 0 by omega]
  rw [List.drop_eq_getElem_cons (show i < xs.length by omega), List.set_cons_zero, List.take_succ_eq_append_getElem hi, hv, List.append_assoc]
  rfl

set_option maxHeartbeats 1000000 in
/-- The marking of an own row that is not nil. -/
theorem markStrs_some (g c k B : Nat) (l : List ByteArray) (w : World) (ho : w.ownsRow B 9 1 (.slice (some ⟨g, 0, none⟩) l.length c) l.length (sv l)) (hn : l.length ≤ 1048576) (hk : 0 < k) (hk2 : k ≤ 1048577) (hBg : B ≤ g) (hBw : B ≤ w.heap.size) :
    Calls Try.prog 19 #[.slice (some ⟨g, 0, none⟩) l.length c, .int .i64 k] w fun e w' => e = .returned (.int .i64 ((k + l.length : Nat) : Int)) ∧ w'.ownsRow B 9 1 (.slice (some ⟨g, 0, none⟩) l.length c) l.length (sv (marks k l.length)) ∧ Below B w w' := by
  have hni : (l.length : Int) ≤ 1048576 := by omega
  have hml : (sv (marks k l.length)).length = (sv l).length := by rw [sv_length, sv_length, marks_length]
  have HML := Lib.hid hml
  have h0 := ho
  rw [← over_zero (sv l) (sv (marks k l.length))] at h0
  clear hml ho
  go_enter Try.func19, Try.ntmps19
  go_wp2
  go_loopw [1, 5] (fun kk i wr => ∃ j : Nat, j ≤ l.length ∧ i = .int .i64 j ∧ kk = .int .i64 ((k + j : Nat) : Int) ∧ wr.ownsRow B 9 1 (.slice (some ⟨g, 0, none⟩) l.length c) l.length (over (sv l) (sv (marks k l.length)) j) ∧ Below B w wr) (fun _ i _ => l.length - (intOf i).toNat)
  case atStart => exact ⟨0, Nat.zero_le _, rfl, rfl, h0, Below.refl _ _⟩
  case round =>
    obtain ⟨j, hj, rfl, rfl, hown, hb⟩ := hrel
    clear h0
    by_cases hlt : j < l.length
    · have hlti : (j : Int) < (l.length : Int) := by omega
      have hkj1 : 0 < k + j := by omega
      have hkj2 : k + j ≤ 9999999 := by omega
      obtain ⟨q, hq⟩ : ∃ q : Nat, q = k + j := ⟨_, rfl⟩
      rw [← hq] at hkj1 hkj2 ⊢
      have HQ := Lib.hid hq
      clear hq
      have cm := fun W => markText_any q W hkj1 hkj2
      have hqi : (q : Int) ≤ 9999999 := by omega
      go_wp2_with fail
      refine (cm _).mono ?_
      rintro e w1 ⟨rfl, hb1⟩
      have hown1 := owns_below hown hb1
      have hll := over_length (sv l) (sv (marks k l.length)) j HML.out
      rw [sv_length] at hll
      obtain ⟨u, hu⟩ : ∃ u, w1.cell? ⟨g, j, none⟩ = some u := ⟨_, (hown1.cellAt j (by omega)).trans (List.getElem?_eq_getElem (by rw [hll]; exact hlt))⟩
      have hf := hown1.frozenAt j
      have hst := hown1.stored j (.string (markB q))
      have hat : (sv (marks k l.length))[j]? = some (.string (markB q)) := by
        rw [sv_at (by rw [marks_length]; exact hlt), marks_at hlt, ← HQ.out]
      rw [over_set _ _ j _ HML.out hat] at hst
      have R1 := hst.1
      have R2 : Below B w (w1.setCell ⟨g, j, none⟩ (.string (markB q))) := (hb.trans (hb1.mono (by have := hb.size; omega))).setCell (p := ⟨g, j, none⟩) hBg _
      clear hst hown hown1 hat hll hb hb1
      go_wp2
      go_roundw
      case rel => exact ⟨j + 1, by omega, by go_num, by rw [HQ.out]; go_num, R1, R2⟩
      case measure => simp [intOf]; omega
    · obtain rfl : j = l.length := by omega
      have hall := over_all (sv l) (sv (marks k l.length)) HML.out
      rw [sv_length] at hall
      rw [hall] at hown
      clear hall
      go_wp2
      go_ret
      exact ⟨rfl, hown, hb⟩

theorem held_keep {B : Nat} {a : Addr} {x : Value} {wr W w1 : World} (hB : B ≤ wr.heap.size) (h : W.cell? a = some x ∧ a.block < W.heap.size ∧ Below B wr W) (hb1 : Below W.heap.size W w1) : w1.cell? a = some x ∧ a.block < w1.heap.size ∧ Below B wr w1 :=
  ⟨(hb1.cell h.2.1).trans h.1, Nat.lt_of_lt_of_le h.2.1 hb1.size, h.2.2.trans (hb1.mono (Nat.le_trans hB h.2.2.size))⟩

set_option maxHeartbeats 1000000 in
/-- The reading back of the marks. -/
theorem heldStrs_some (b o c k n : Nat) (w : World) (hlt0 : b < w.heap.size) (hcell : ∀ j x, (sv (marks k n))[j]? = some x → w.cell? ⟨b, o + j, none⟩ = some x) (hn : n ≤ 1048576) (hk : 0 < k) (hk2 : k ≤ 1048577) :
    Calls Try.prog 20 #[.slice (some ⟨b, o, none⟩) n c, .int .i64 k] w fun e w' => e = .returned (.int .i64 ((k + n : Nat) : Int)) ∧ Below w.heap.size w w' := by
  have hni : (n : Int) ≤ 1048576 := by omega
  have HC := Lib.hid hcell
  clear hcell
  obtain ⟨B, hB⟩ : ∃ B, B = w.heap.size := ⟨_, rfl⟩
  have HB := Lib.hid hB
  rw [← hB] at hlt0 ⊢
  clear hB
  go_enter Try.func20, Try.ntmps20
  go_wp2
  go_loopw [1, 5] (fun kk i wr => ∃ j : Nat, j ≤ n ∧ i = .int .i64 j ∧ kk = .int .i64 ((k + j : Nat) : Int) ∧ Below B w wr) (fun _ i _ => n - (intOf i).toNat)
  case atStart => exact ⟨0, Nat.zero_le _, rfl, rfl, Below.refl _ _⟩
  case round =>
    obtain ⟨j, hj, rfl, rfl, hb⟩ := hrel
    by_cases hlt : j < n
    · have hlti : (j : Int) < (n : Int) := by omega
      have hkj1 : 0 < k + j := by omega
      have hkj2 : k + j ≤ 9999999 := by omega
      obtain ⟨q, hq⟩ : ∃ q : Nat, q = k + j := ⟨_, rfl⟩
      have hcl : wr.cell? ⟨b, o + j, none⟩ = some (.string (markB q)) := (hb.cell (p := ⟨b, o + j, none⟩) hlt0).trans (HC.out j _ (by rw [sv_at (by rw [marks_length]; exact hlt), marks_at hlt, ← hq]))
      rw [← hq] at hkj1 hkj2 ⊢
      have HQ := Lib.hid hq
      clear hq
      have cm := fun W => markText_any q W hkj1 hkj2
      have hqi : (q : Int) ≤ 9999999 := by omega
      have hbw : b < wr.heap.size := World.block_lt_of_cell? wr _ hcl
      have HBW : Hid (B ≤ wr.heap.size) := Lib.hid (by have := hb.size; have := HB.out; omega)
      have s0 : wr.drew.cell? ⟨b, o + j, none⟩ = some (.string (markB q)) ∧ b < wr.drew.heap.size ∧ Below B wr wr.drew := ⟨hcl, hbw, (Below.refl _ _).drew⟩
      go_wp2
      go_region_held3 (fun w' => w'.cell? ⟨b, o + j, none⟩ = some (.string (markB q)) ∧ b < w'.heap.size ∧ Below B wr w') (first | exact s0 | exact held_keep HBW.out (by assumption) hb1 | exact held_keep HBW.out ⟨by assumption, by assumption, by assumption⟩ hb1) ((go_at_call 34; refine (cm _).mono ?_; rintro e w1 ⟨rfl, hb1⟩))
      have hh : w1.cell? ⟨b, o + j, none⟩ = some (.string (markB q)) ∧ b < w1.heap.size ∧ Below B wr w1 := by assumption
      have R2 : Below B w w1 := hb.trans hh.2.2
      clear hb hb1 hh cm hcl s0
      go_wp2
      go_roundw
      case rel => exact ⟨j + 1, by omega, by go_num, by rw [HQ.out]; go_num, R2⟩
      case measure => simp [intOf]; omega
    · obtain rfl : j = n := by omega
      go_wp2
      go_ret
      exact ⟨rfl, hb⟩

theorem markStrs_none (a : Option Addr) (c k : Nat) (w : World) (hk2 : k ≤ 1048577) :
    Calls Try.prog 19 #[.slice a 0 c, .int .i64 k] w fun e w' => e = .returned (.int .i64 (k : Int)) ∧ w' = w := by
  have hki : (k : Int) ≤ 1048577 := by omega
  go_enter Try.func19, Try.ntmps19
  go_wp2
  go_loop [1, 5] (fun x i => x = .int .i64 k ∧ i = .int .i64 0) (fun _ _ => 0)
  case atStart => exact ⟨rfl, rfl⟩
  case round =>
    obtain ⟨rfl, rfl⟩ := hrel
    go_wp2
    go_ret
    exact ⟨rfl, rfl⟩

theorem heldStrs_none (a : Option Addr) (c k : Nat) (w : World) (hk2 : k ≤ 1048577) :
    Calls Try.prog 20 #[.slice a 0 c, .int .i64 k] w fun e w' => e = .returned (.int .i64 (k : Int)) ∧ w' = w := by
  have hki : (k : Int) ≤ 1048577 := by omega
  go_enter Try.func20, Try.ntmps20
  go_wp2
  go_loop [1, 5] (fun x i => x = .int .i64 k ∧ i = .int .i64 0) (fun _ _ => 0)
  case atStart => exact ⟨rfl, rfl⟩
  case round =>
    obtain ⟨rfl, rfl⟩ := hrel
    go_wp2
    go_ret
    exact ⟨rfl, rfl⟩

/-- The shape of an own row. -/
theorem own_shape {w : World} {B : Nat} {v : Value} {l : List ByteArray} (h : w.ownsRow B 9 1 v l.length (sv l)) :
    ∃ a c, v = .slice a l.length c ∧ RowAt w a c (sv l) ∧ (l.length = 0 ∨ ∃ g, a = some ⟨g, 0, none⟩ ∧ B ≤ g) := by
  rcases id h.2 with ⟨rfl, h0⟩ | ⟨g, cap, cur, rfl, hB, _⟩
  · have hl : l = [] := List.eq_nil_of_length_eq_zero h0
    subst hl
    exact ⟨none, 0, rfl, ⟨by simp [sv], by decide, .inl rfl⟩, .inl rfl⟩
  · exact ⟨_, cap, rfl, row_of_owns h, .inr ⟨g, rfl, hB⟩⟩

theorem mark_any (a : Option Addr) (c k B : Nat) (l : List ByteArray) (w : World) (ho : w.ownsRow B 9 1 (.slice a l.length c) l.length (sv l)) (hn : l.length ≤ 1048576) (hk : 0 < k) (hk2 : k ≤ 1048577) (hBw : B ≤ w.heap.size) :
    Calls Try.prog 19 #[.slice a l.length c, .int .i64 k] w fun e w' => e = .returned (.int .i64 ((k + l.length : Nat) : Int)) ∧ RowAt w' a c (sv (marks k l.length)) ∧ Below B w w' := by
  obtain ⟨a', c', he, hr, hg⟩ := own_shape ho
  injection he with e1 _ e2
  subst e1 e2
  rcases hg with hg | ⟨g, rfl, hBg⟩
  · have hl : l = [] := List.eq_nil_of_length_eq_zero hg
    subst hl
    refine (markStrs_none a c k w hk2).mono fun e w' ⟨h1, h2⟩ => ⟨h1, ?_, ?_⟩
    · subst h2; exact ⟨by simp [marks, sv], hr.2.1, .inl rfl⟩
    · subst h2; exact Below.refl _ _
  · refine (markStrs_some g c k B l w ho hn hk hk2 hBg hBw).mono fun e w' ⟨h1, h2, h3⟩ => ⟨h1, row_of_owns h2, h3⟩

theorem held_any (a : Option Addr) (c k n : Nat) (w : World) (hr : RowAt w a c (sv (marks k n))) (hn : n ≤ 1048576) (hk : 0 < k) (hk2 : k ≤ 1048577) :
    Calls Try.prog 20 #[.slice a n c, .int .i64 k] w fun e w' => e = .returned (.int .i64 ((k + n : Nat) : Int)) ∧ Below w.heap.size w w' := by
  obtain ⟨_, _, h3⟩ := hr
  rcases h3 with h3 | ⟨b, o, rfl, hb, hcell⟩
  · have hn0 : n = 0 := by have := sv_nil h3; rw [marks_length] at this; exact this
    subst hn0
    exact (heldStrs_none a c k w hk2).mono fun e w' ⟨h1, h2⟩ => ⟨h1, by subst h2; exact Below.refl _ _⟩
  · exact heldStrs_some b o c k n w hb hcell hn hk hk2

end Go.Proofs.Ytfjnfgeielgihaa
