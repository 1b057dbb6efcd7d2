/- The contracts of the model's sets of a code and of their order. Condition: sets of sites. -/
import Derived.Test.YtemflcegkebloaaPlainSets
import Derived.Test.YtemflcegkebloaaServe
namespace Go.Proofs.Ytemflcegkebloaa
open Go.RowKit

def bitsTo (c k : Nat) : List Nat := (List.range k).filter fun x => c.testBit x
theorem bitsTo_step (c k : Nat) : bitsTo c (k + 1) = bitsTo c k ++ (if c.testBit k then [k] else []) := by
  unfold bitsTo; rw [List.range_succ, List.filter_append]
  by_cases h : c.testBit k <;> simp [h]
theorem bitsTo_len (c k : Nat) : (bitsTo c k).length ≤ k := by
  have := List.length_filter_le (fun x => c.testBit x) (List.range k)
  rw [List.length_range] at this; exact this
theorem up_snoc (T : List Nat) (k : Nat) : up (T ++ [k]) = up T ++ [(k : Int)] := by unfold up; rw [List.map_append]; rfl

theorem bits_all : ((List.range 128).all fun c => (List.range 8).all fun k => bits BinOp.and IntKind.i64 (((c : Nat) : Int) / 2 ^ k) 1 == (if c.testBit k then 1 else 0)) = true := by decide +kernel
theorem bits_one {c k : Nat} (hc : c < 128) (hk : k < 8) : bits BinOp.and IntKind.i64 ((c : Int) / 2 ^ k) 1 = (if c.testBit k then 1 else 0) := by
  have h := List.all_eq_true.1 (List.all_eq_true.1 bits_all c (List.mem_range.2 hc)) k (List.mem_range.2 hk)
  exact eq_of_beq h

set_option maxRecDepth 16000 in
set_option maxHeartbeats 2000000 in
theorem l2Bits_any (n c : Nat) (w : World) (hn : n ≤ 7) (hc : c < 128) :
    Calls Try.prog 47 #[.int .i64 n, .int .i64 c] w fun e w' => ∃ t : Row, e = .returned (.slice t.a t.l.length t.c) ∧ t.l = up (bitsT n c) ∧ t.Own 3 w' ∧ t.In w.heap.size w'.heap.size w' ∧ Below w.heap.size w w' := by
  obtain ⟨i0, hi, hz0, hz1, hz2⟩ := info_parts infoInt
  have hni : (n : Int) ≤ 7 := by omega
  have hci : (c : Int) < 128 := by omega
  have H0 := Lib.hid (empty_own w)
  have HB0 := Lib.hid (below_alloc w (.cells #[] 3))
  go_enter Try.func47, Try.ntmps47
  go_wp2
  go_loopw [5, 6] (fun out i wr => ∃ k : Nat, k ≤ n ∧ i = .int .i64 k ∧ wr.ownsRow w.heap.size 3 1 out (up (bitsTo c k)).length (iv (up (bitsTo c k))) ∧ Below w.heap.size w wr) (fun _ i _ => n - (intOf i).toNat)
  case atStart => exact ⟨0, Nat.zero_le _, rfl, H0.out, HB0.out⟩
  case round =>
    obtain ⟨k, hk, rfl, hown, hnx⟩ := hrel
    by_cases hlt : k < n
    · have hlti : (k : Int) < (n : Int) := by omega
      have HST := Lib.hid (bitsTo_step c k)
      have hlen := bitsTo_len c k
      have hszr := hnx.size
      have hul := up_length (bitsTo c k)
      have HUL := Lib.hid hul
      clear hul
      by_cases hb : c.testBit k = true
      · have HL : Hid (up (bitsTo c (k + 1)) = up (bitsTo c k) ++ [(k : Int)]) := Lib.hid (by rw [HST.out, if_pos hb, up_snoc])
        have he : bits BinOp.and IntKind.i64 ((c : Int) / 2 ^ k) 1 = 1 := by rw [bits_one hc (by omega), if_pos hb]
        have hul := up_length (bitsTo c k)
        have hulm : (up (bitsTo c k)).length ≤ 7 := by omega
        clear hb hul
        go_wp2_with (at_builtin; refine wpList_append_own _ rfl _ _ 22 rfl w.heap.size 3 i0 (.int .i64 0) 1 8 Try.underlying22 hi hz0 hz1 hz2 rfl (by decide) _ _ _ rfl (hown.alloc _) ⟨wr.heap.size, 0, none⟩ 1 1 [.int .i64 (k : Int)] rfl rfl (one_cell _ _ _) (by simp [Value.oneCell']) (by unfold maxLen; omega) (by omega) (by simp; omega) ?_; intro v' w1 hown' hgrow _)
        have R1 : w1.ownsRow w.heap.size 3 1 v' (up (bitsTo c (k + 1))).length (iv (up (bitsTo c (k + 1)))) := by rw [HL.out]; exact own_snoc rfl hown'
        have R2 : Below w.heap.size w w1 := (hnx.alloc (by omega) _).grown hgrow (by simp; omega) (fun j hj => (hown.lt j hj).1)
        clear hown' hgrow hown hnx
        go_wp2
        go_roundw
        case rel => exact ⟨k + 1, by omega, by go_num, R1, R2⟩
        case measure => simp [intOf]; omega
      · have HL : Hid (up (bitsTo c (k + 1)) = up (bitsTo c k)) := Lib.hid (by rw [HST.out, if_neg hb, List.append_nil])
        have he : bits BinOp.and IntKind.i64 ((c : Int) / 2 ^ k) 1 = 0 := by rw [bits_one hc (by omega), if_neg hb]
        have R1 := Lib.hid hown
        clear hb hown
        go_wp2
        go_roundw
        case rel => exact ⟨k + 1, by omega, by go_num, by rw [HL.out]; exact R1.out, hnx⟩
        case measure => simp [intOf]; omega
    · obtain rfl : k = n := by omega
      go_wp2
      go_ret
      obtain ⟨t, ht, htl, hto, hti⟩ := row_of_own hown
      exact ⟨t, congrArg Ending.returned ht, htl, hto, hti, hnx⟩

theorem lexB_cons (a b : Nat) (r s : List Nat) : lexB (a :: r) (b :: s) = if a = b then lexB r s else decide (a < b) := rfl
/-- As far as two sets are the same, their order is that of the rest. -/
theorem lexB_drop : ∀ (k : Nat) (T U : List Nat), k ≤ T.length → k ≤ U.length → T.take k = U.take k → lexB T U = lexB (T.drop k) (U.drop k)
  | 0, T, U, _, _, _ => rfl
  | k + 1, [], U, h, _, _ => by simp at h
  | k + 1, a :: r, [], _, h, _ => by simp at h
  | k + 1, a :: r, b :: s, h1, h2, h => by
    simp only [List.take_succ_cons, List.cons.injEq] at h
    rw [lexB_cons, if_pos h.1]
    exact lexB_drop k r s (by simpa using h1) (by simpa using h2) h.2

set_option maxRecDepth 16000 in
set_option maxHeartbeats 2000000 in
theorem l2Before_any (s t : Row) (T U : List Nat) (w : World) (hs : s.At w) (ht : t.At w) (hT : s.l = up T) (hU : t.l = up U) (hTn : T.length ≤ 7) (hUn : U.length ≤ 7) :
    Calls Try.prog 48 #[.slice s.a s.l.length s.c, .slice t.a t.l.length t.c] w fun e w' => e = .returned (.bool (beforeT T U)) ∧ DrewTo w w' := by
  obtain ⟨a, c, l⟩ := s
  obtain ⟨a', c', l'⟩ := t
  obtain ⟨h1, h2, h3⟩ := hs
  obtain ⟨g1, g2, g3⟩ := ht
  simp only at hT hU h1 h2 h3 g1 g2 g3 ⊢
  subst hT; subst hU
  rw [up_length, up_length]
  obtain ⟨n, hn⟩ : ∃ n, n = T.length := ⟨_, rfl⟩
  obtain ⟨m, hm⟩ : ∃ m, m = U.length := ⟨_, rfl⟩
  rw [← hn] at hTn ⊢
  rw [← hm] at hUn ⊢
  have hni : (n : Int) ≤ 7 := by omega
  have hmi : (m : Int) ≤ 7 := by omega
  have HN := Lib.hid hn
  have HM := Lib.hid hm
  have HR := Lib.hid h3
  have HR' := Lib.hid g3
  clear h1 h2 h3 g1 g2 g3 hn hm
  by_cases hnm : n = m
  · subst hnm
    have HB : Hid (beforeT T U = lexB T U) := Lib.hid (by unfold beforeT; rw [if_pos (by rw [← HN.out, ← HM.out])])
    rw [HB.out]
    go_enter Try.func48, Try.ntmps48
    go_wp2
    go_loopw [5] (fun i wr => ∃ k : Nat, k ≤ n ∧ i = .int .i64 k ∧ DrewTo w wr ∧ T.take k = U.take k) (fun i _ => n - (intOf i).toNat)
    case atStart => exact ⟨0, Nat.zero_le _, rfl, DrewTo.refl _, rfl⟩
    case round =>
      obtain ⟨k, hk, rfl, hdw, htk⟩ := hrel
      have HTK := Lib.hid htk
      clear htk
      by_cases hlt : k < n
      · have hlti : (k : Int) < (n : Int) := by omega
        have hkT : k < T.length := by rw [← HN.out]; exact hlt
        have hkU : k < U.length := by rw [← HM.out]; exact hlt
        rcases HR.out with h3 | ⟨b, o, rfl, hb, hcell⟩
        · have h3' := congrArg List.length (iv_nil h3); rw [up_length, List.length_nil] at h3'; omega
        rcases HR'.out with h3 | ⟨b', o', rfl, hb', hcell'⟩
        · have h3' := congrArg List.length (iv_nil h3); rw [up_length, List.length_nil] at h3'; omega
        obtain ⟨x, hx⟩ : ∃ x, x = T[k] := ⟨_, rfl⟩
        obtain ⟨y, hy⟩ : ∃ y, y = U[k] := ⟨_, rfl⟩
        have hc1 : wr.cell? ⟨b, o + k, none⟩ = some (.int .i64 (x : Int)) := by rw [hdw.cell, hx, ← up_at hkT]; exact hcell k _ (iv_at _)
        have hc2 : wr.cell? ⟨b', o' + k, none⟩ = some (.int .i64 (y : Int)) := by rw [hdw.cell, hy, ← up_at hkU]; exact hcell' k _ (iv_at _)
        have HX := Lib.hid hx
        have HY := Lib.hid hy
        have hd := lexB_drop k T U (by omega) (by omega) HTK.out
        rw [List.drop_eq_getElem_cons hkT, List.drop_eq_getElem_cons hkU, lexB_cons, ← hx, ← hy] at hd
        have HD := Lib.hid hd
        clear hx hy hcell hcell' hd hb hb'
        by_cases hxy : x = y
        · have HS : Hid (T.take (k + 1) = U.take (k + 1)) := Lib.hid (by rw [List.take_succ_eq_append_getElem hkT, List.take_succ_eq_append_getElem hkU, HTK.out, ← HX.out, ← HY.out, hxy])
          subst hxy
          go_wp2
          go_quiet (fail)
          go_wp2
          go_roundw
          case rel => exact ⟨k + 1, by omega, by go_num, hdw.more _, HS.out⟩
          case measure => simp [intOf]; omega
        · have HE : Hid (lexB T U = decide (x < y)) := Lib.hid (by rw [HD.out, if_neg hxy])
          have hne : ((x : Int) != (y : Int)) = true := by simp; omega
          have hdl : decide ((x : Int) < (y : Int)) = decide (x < y) := by simp
          go_wp2
          go_quiet (fail)
          go_wp2
          go_quiet (fail)
          go_wp2
          go_ret
          exact ⟨by rw [HE.out]; simp, (hdw.more _).more _⟩
      · obtain rfl : k = n := by omega
        have HE : Hid (lexB T U = false) := Lib.hid (by
          rw [lexB_drop k T U (by rw [← HN.out]; exact Nat.le_refl _) (by rw [← HM.out]; exact Nat.le_refl _) HTK.out, List.drop_of_length_le (by rw [← HN.out]; exact Nat.le_refl _)]
          unfold lexB; rfl)
        go_wp2
        go_ret
        exact ⟨by rw [HE.out]; rfl, hdw⟩
  · have HB : Hid (beforeT T U = decide (n < m)) := Lib.hid (by unfold beforeT; rw [if_neg (by rw [← HN.out, ← HM.out]; exact hnm), ← HN.out, ← HM.out])
    have hne : ((n : Int) != (m : Int)) = true := by simp; omega
    go_enter Try.func48, Try.ntmps48
    go_wp2
    go_ret
    exact ⟨by rw [HB.out]; simp, DrewTo.refl _⟩
end Go.Proofs.Ytemflcegkebloaa
