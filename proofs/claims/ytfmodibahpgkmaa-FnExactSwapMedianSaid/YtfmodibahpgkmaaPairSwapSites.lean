/- Both sides of SwapSites answer alike. Condition: Field and set read as such. -/
import Derived.Test.YtfmodibahpgkmaaPutAny
import Derived.Test.YtfmodibahpgkmaaSwapImpl
namespace Go.Proofs.Ytfmodibahpgkmaa
open Go.RowKit

theorem idx_at : ∀ (l : List Int) (x : Int) (i k : Nat), (hk : k < l.length) → Lib.idxFrom l x i = ((i + k : Nat) : Int) → l[k] = x
  | [], _, _, _, hk, _ => absurd hk (Nat.not_lt_zero _)
  | z :: l, x, i, k, hk, h => by
    unfold Lib.idxFrom at h
    by_cases hz : z = x
    · rw [if_pos hz] at h
      have : k = 0 := by omega
      subst this; exact hz
    · rw [if_neg hz] at h
      cases k with
      | zero =>
        rcases idx_lt l x (i + 1) with h1 | ⟨k', _, h2⟩
        · omega
        · rw [h2] at h; omega
      | succ k => exact idx_at l x (i + 1) k (by simpa using hk) (by rw [h]; congr 1; omega)
theorem rise_pairs (n : Int) : ∀ (l : List Int) (lo : Int), rise n lo l = true → l.Pairwise (· < ·)
  | [], _, _ => List.Pairwise.nil
  | x :: r, lo, h => by
    simp only [rise, Bool.and_eq_true, decide_eq_true_eq] at h
    exact List.pairwise_cons.2 ⟨fun y hy => (rise_bounds n r x h.2 y hy).1, rise_pairs n r x h.2⟩
theorem has_idx {l : List Int} {o : Int} (h : hasI l o = true) : ∃ k : Nat, k < l.length ∧ Lib.idxOf l o = k := by
  rcases idx_lt l o 0 with h1 | ⟨k, h1, h2⟩
  · have := Lib.idxOf_nonneg_iff l o
    have h3 : 0 ≤ Lib.idxOf l o := by rw [this]; exact h
    unfold Lib.idxOf at h3; omega
  · exact ⟨k, h1, by unfold Lib.idxOf; rw [h2]; simp⟩
theorem without_has {l : List Int} {o n : Int} (h : hasI l n = false) : hasI (without l o) n = false := by
  unfold hasI at *
  rw [Bool.eq_false_iff] at *
  exact fun e => h (List.contains_iff_mem.2 (List.mem_filter.1 (List.contains_iff_mem.1 e)).1)
theorem swap_same {F : Fld} {s : Row} {o n : Int} {k : Nat} (h : SwapOk F s o n k) : putAt (without s.l o) n = swapL s.l k n := by
  have hk : s.l[k]'h.lt = o := idx_at s.l o 0 k h.lt (by have := h.idx; unfold Lib.idxOf at this; rw [this]; simp)
  have hr := rise_pairs _ _ _ (twoB_iff.1 h.two).2.1
  have := swap_sorted (s := swapL s.l k n) h.lt hr (fun e => by have h1 := h.no; unfold hasI at h1; rw [List.contains_iff_mem.2 e] at h1; cases h1) (swapL_rises _ _ _) (swapL_perm _ _ _)
  rw [hk] at this; exact this

set_option maxHeartbeats 2000000 in
theorem l2WithoutO_any (s : Row) (n : Int) (w : World) (hs : s.At w) (hsm : s.l.length ≤ 1048576) :
    Calls Try.prog 110 #[.slice s.a s.l.length s.c, .int .i64 n] w fun e w' => ∃ g c, e = .returned (.slice (some ⟨g, 0, none⟩) (without s.l n).length c) ∧ w'.ownsRow w.heap.size 3 1 (.slice (some ⟨g, 0, none⟩) (without s.l n).length c) (without s.l n).length (iv (without s.l n)) ∧ Below w.heap.size w w' := by
  obtain ⟨i0, hi, hz0, hz1, hz2⟩ := info_parts infoInt
  have HS := Lib.hid hs
  obtain ⟨a, c, l⟩ := s
  simp only at hsm HS ⊢
  have hni : (l.length : Int) ≤ 9223372036854775807 := by omega
  have H0 := Lib.hid (empty_own w)
  have HB0 := Lib.hid (below_alloc w (.cells #[] 3))
  clear hs
  go_enter Try.func110, Try.ntmps110
  go_wp2
  go_loopw [5, 6] (fun out i wr => ∃ k : Nat, k ≤ l.length ∧ i = .int .i64 k ∧ wr.ownsRow w.heap.size 3 1 out (without (l.take k) n).length (iv (without (l.take k) n)) ∧ Below w.heap.size w wr ∧ out ≠ .slice none 0 0) (fun _ i _ => l.length - (intOf i).toNat)
  case atStart => exact ⟨0, Nat.zero_le _, rfl, by rw [List.take_zero]; exact H0.out, HB0.out, by simp⟩
  case round =>
    obtain ⟨k, hk, rfl, hown0, hnx, hnn⟩ := hrel
    by_cases hlt : k < l.length
    · have hlti : (k : Int) < (l.length : Int) := by omega
      rcases (HS.out.on hnx).2.2 with h3 | ⟨b, o, ha, hbb, hcell⟩
      · have h3' := congrArg List.length (iv_nil h3); simp only [List.length_nil] at h3'; omega
      simp only at ha
      subst ha
      obtain ⟨x, hx⟩ : ∃ x, x = l[k] := ⟨_, rfl⟩
      have hcl : wr.cell? ⟨b, o + k, none⟩ = some (.int .i64 x) := by rw [hx]; exact hcell k _ (iv_at hlt)
      have HST := Lib.hid (without_step (o := n) hlt)
      have hcl' := without_len (l.take k) n
      have htk : (l.take k).length ≤ l.length := by rw [List.length_take]; omega
      have hszr := hnx.size
      by_cases hxn : x = n
      · have HL : Hid (without (l.take (k + 1)) n = without (l.take k) n) := Lib.hid (by rw [HST.out, if_pos (by rw [← hx]; exact hxn), List.append_nil])
        have he : (x != n) = false := by simp [hxn]
        have R1 := Lib.hid hown0
        have NN := Lib.hid hnn
        clear hx hcell hxn hown0 hnn
        go_wp2
        go_roundw
        case rel => exact ⟨k + 1, by omega, by go_num, by rw [HL.out]; exact R1.out, hnx, NN.out⟩
        case measure => simp [intOf]; omega
      · have HL : Hid (without (l.take (k + 1)) n = without (l.take k) n ++ [x]) := Lib.hid (by rw [HST.out, if_neg (by rw [← hx]; exact hxn), ← hx])
        have he : (x != n) = true := by simp [hxn]
        have NN := Lib.hid hnn
        clear hx hcell hxn hnn
        go_wp2_with (at_builtin; refine wpList_append_own _ rfl _ _ 22 rfl w.heap.size 3 i0 (.int .i64 0) 1 8 Try.underlying22 hi hz0 hz1 hz2 rfl (by decide) _ _ _ rfl (hown0.alloc _) ⟨wr.heap.size, 0, none⟩ 1 1 [.int .i64 x] rfl rfl (one_cell _ _ _) (by simp [Value.oneCell']) (by unfold maxLen; omega) (by omega) (by simp; omega) ?_; intro v' w1 hown' hgrow hnil)
        have R1 : w1.ownsRow w.heap.size 3 1 v' (without (l.take (k + 1)) n).length (iv (without (l.take (k + 1)) n)) := by rw [HL.out]; exact own_snoc rfl hown'
        have R2 : Below w.heap.size w w1 := (hnx.alloc (by omega) _).grown hgrow (by simp; omega) (fun j hj => (hown0.lt j hj).1)
        have R3 : v' ≠ .slice none 0 0 := fun e => NN.out (hnil.1 e).1
        clear hown' hgrow hown0 hnx hcl hnil
        go_wp2
        go_roundw
        case rel => exact ⟨k + 1, by omega, by go_num, R1, R2, R3⟩
        case measure => simp [intOf]; omega
    · obtain rfl : k = l.length := by omega
      rw [List.take_length] at hown0
      go_wp2
      go_ret
      rcases id hown0.2 with ⟨h, _⟩ | ⟨g, cap, cur, rfl, _⟩
      · exact absurd h hnn
      · exact ⟨g, cap, rfl, hown0, hnx⟩


theorem swaps_like {F G : Fld} {s t : Row} {o n : Int} {l : List Int} {b : Bool} (h : Swaps F s o n l b) (hl : G.Like F) (hs : t.l = s.l) : Swaps G t o n l b := by
  have hiff : ∀ k, SwapOk G t o n k ↔ SwapOk F s o n k := fun k => by
    constructor
    · rintro ⟨h1, h2, h3, h4, h5, h6⟩
      exact ⟨by rw [← twoB_like hl hs]; exact h1, h2, by rw [← hl.1]; exact h3, by rw [← hs]; exact h4, by rw [← hs]; exact h5, by rw [← hs]; exact h6⟩
    · rintro ⟨h1, h2, h3, h4, h5, h6⟩
      exact ⟨by rw [twoB_like hl hs]; exact h1, h2, by rw [hl.1]; exact h3, by rw [hs]; exact h4, by rw [hs]; exact h5, by rw [hs]; exact h6⟩
  rcases h with ⟨k, h1, h2, h3⟩ | ⟨h1, h2, h3⟩
  · exact .inl ⟨k, (hiff k).2 h1, by rw [hs]; exact h2, h3⟩
  · exact .inr ⟨fun k hk => h1 k ((hiff k).1 hk), h2, h3⟩
theorem swaps_some (F : Fld) (s : Row) (o n : Int) (hs : s.l.length ≤ 1048576) : ∃ (l : List Int) (b : Bool), Swaps F s o n l b ∧ l.length ≤ 1048576 := by
  by_cases h : ∃ k, SwapOk F s o n k
  · obtain ⟨k, hk⟩ := h
    exact ⟨_, _, .inl ⟨k, hk, rfl, rfl⟩, by rw [swapL_len]; exact hs⟩
  · exact ⟨_, _, .inr ⟨fun k hk => h ⟨k, hk⟩, rfl, rfl⟩, by simp⟩
end Go.Proofs.Ytfmodibahpgkmaa
