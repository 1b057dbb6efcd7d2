/- The contract of SplitString: a fresh list of the parts of the text and true, or an empty list and false. Condition: the text has at most 1048576 bytes. -/
import Derived.Test.YtfjnfgeielgihaaPieces
import Derived.RangeFuncBox
import Derived.Maps.AppendAt
namespace Go.Proofs.Ytfjnfgeielgihaa
open Go.RowKit Go.Shelf
attribute [local go_sem] Oper.semAt_some

set_option maxRecDepth 100000 in
set_option maxHeartbeats 1000000 in
theorem pieces_made (n : Nat) (s : ByteArray) (c : UInt8) (w : World) :
    CallsIn Fence.wide n Try.prog 27 #[.string s, .int .u8 c.toNat] w fun e w' => e = .returned (.func (.func 36) #[] #[.pointer (some ⟨w.heap.size, 0, none⟩), .pointer (some ⟨w.heap.size + 1, 0, none⟩)]) ∧ w' = (w.alloc (.cells #[.string s] 9)).alloc (.cells #[.int .u8 c.toNat] 5) := by
  refine callsIn_of_wp Try.func27 rfl trivial ?_ rfl
  simp only [Try.ntmps27, List.size_toArray, List.length_cons, List.length_nil, Nat.reduceAdd, Nat.reduceSub, Array.replicate_succ, Array.replicate_zero, List.push_toArray, List.append_toArray, List.nil_append, List.cons_append]
  gi_wp2
  go_ret
  exact ⟨rfl, rfl⟩

theorem pieces_stops (n : Nat) (hn : 1 ≤ n) (Bs Bc : Nat) (s : ByteArray) (c : UInt8) (hs : s.size ≤ 4000) (w : World) (hBs : w.cell? ⟨Bs, 0, none⟩ = some (.string s)) (hBc : w.cell? ⟨Bc, 0, none⟩ = some (.int .u8 c.toNat)) :
    SeqStopsK Fence.wide n Try.prog 36 #[.pointer (some ⟨Bs, 0, none⟩), .pointer (some ⟨Bc, 0, none⟩)] (fun x : ByteArray => #[Value.string x]) (KeepB Bc) (fun ys => ys = parts s c) (fun _ => True) (s.size + 1) w := fun l J Jx W hW hJ _ hY h0 =>
  pieces_in n hn l Bs Bc s c hs J Jx (fun pre W h => hJ pre W W.drew none h (grown_draw W) (fun r e => by cases e)) hY W
    ((hW.cell (p := ⟨Bs, 0, none⟩) (World.block_lt_of_cell? w _ hBs)).trans hBs) ((hW.cell (p := ⟨Bc, 0, none⟩) (World.block_lt_of_cell? w _ hBc)).trans hBc) h0

set_option maxRecDepth 100000 in
set_option maxHeartbeats 2000000 in
theorem implSplit_in (n : Nat) (hn : 3 ≤ n) (s sep : ByteArray) (w : World) (hs : s.size ≤ 4000) (hz : sep.size = 1) :
    CallsIn Fence.wide n Try.prog 10 #[.string s, .string sep] w fun e W' => ∃ v, e = .returned (.tuple #[v, .bool true]) ∧ OwnStrs W' w.heap.size v (parts s (sep[0]'(by omega))) ∧ Below w.heap.size w W' := by
  have h1 : 1 ≤ n := by omega
  have a1 : ((sep.size : Int) != 1) = false := by simp; omega
  have a2 : ((sep.size : Int) == 1) = true := by simp; omega
  have a3 : ¬ (4000 : Int) < s.size := by omega
  have a4 : (0 : Int) < sep.size := by omega
  have a5 : 0 < sep.size := by omega
  obtain ⟨i0, hi, hz0, hz1, hz2⟩ := info_parts infoString
  obtain ⟨m, hm⟩ : ∃ m : UInt8, m = sep[0] := ⟨_, rfl⟩
  have hm' : (sep[0].toNat : Int) = (m.toNat : Int) := by rw [hm]
  rw [← hm]
  clear hm hz
  refine callsIn_of_wp_marks Try.func10 rfl trivial ?_ rfl
  simp only [Try.ntmps10, List.size_toArray, List.length_cons, List.length_nil, Nat.reduceAdd, Nat.reduceSub, Array.replicate_succ, Array.replicate_zero, List.push_toArray, List.append_toArray, List.nil_append, List.cons_append]
  gi_wp2_with (refine ⟨trivial, ?_⟩; gi_at_call 27; refine (pieces_made (n - 1) _ _ _).mono ?_; rintro e w' ⟨rfl, rfl⟩)
  have hB0 : Below w.heap.size w ((((w.alloc (.cells #[] 9)).alloc (.cells #[.slice (some ⟨w.heap.size, 0, none⟩) 0 0] 26)).alloc (.cells #[.string s] 9)).alloc (.cells #[.int .u8 m.toNat] 5)) :=
    ((((Below.refl _ w).alloc (Nat.le_refl _) _).alloc (by simp) _).alloc (by simp; omega) _).alloc (by simp; omega) _
  have bP := ((Boxed.new (w.alloc (.cells #[] 9)) 26 (.slice (some ⟨w.heap.size, 0, none⟩) 0 0)).alloc (.cells #[.string s] 9)).alloc (.cells #[.int .u8 m.toNat] 5)
  have bS := (Boxed.new ((w.alloc (.cells #[] 9)).alloc (.cells #[.slice (some ⟨w.heap.size, 0, none⟩) 0 0] 26)) 9 (.string s)).alloc (.cells #[.int .u8 m.toNat] 5)
  have bC := Boxed.new (((w.alloc (.cells #[] 9)).alloc (.cells #[.slice (some ⟨w.heap.size, 0, none⟩) 0 0] 26)).alloc (.cells #[.string s] 9)) 5 (.int .u8 m.toNat)
  have hOw : ((((w.alloc (.cells #[] 9)).alloc (.cells #[.slice (some ⟨w.heap.size, 0, none⟩) 0 0] 26)).alloc (.cells #[.string s] 9)).alloc (.cells #[.int .u8 m.toNat] 5)).ownsRow w.heap.size 9 1 (.slice (some ⟨w.heap.size, 0, none⟩) 0 0) 0 [] :=
    (((World.ownsRow_made w #[] 0 (Nat.le_refl _) (by decide) rfl).alloc _).alloc _).alloc _
  simp only [World.size_alloc] at bP bS bC
  have hsz0 : ((((w.alloc (.cells #[] 9)).alloc (.cells #[.slice (some ⟨w.heap.size, 0, none⟩) 0 0] 26)).alloc (.cells #[.string s] 9)).alloc (.cells #[.int .u8 m.toNat] 5)).heap.size = w.heap.size + 1 + 1 + 1 + 1 := by simp only [World.size_alloc]
  obtain ⟨W0, hW0⟩ : ∃ W0, ((((w.alloc (.cells #[] 9)).alloc (.cells #[.slice (some ⟨w.heap.size, 0, none⟩) 0 0] 26)).alloc (.cells #[.string s] 9)).alloc (.cells #[.int .u8 m.toNat] 5)) = W0 := ⟨_, rfl⟩
  rw [hW0] at hB0 bP bS bC hOw hsz0 ⊢
  clear hW0
  have HZ := Lib.hid hsz0
  clear hsz0
  refine wpIn_rangeFunc_ownG rfl h1 (gf := 36) (lb := #[.pointer (some ⟨w.heap.size + 1 + 1, 0, none⟩), .pointer (some ⟨w.heap.size + 1 + 1 + 1, 0, none⟩)]) rfl trivial (enters_of Try.func36 (by kernel_rfl) rfl)
    (pieces_stops (n - 1) (by omega) _ _ s m hs W0 bS.cell bC.cell) (fun h k => k.trans h) (fun W l o o' hle _ _ _ => World.putObj_heap_other (by have := HZ.out; omega)) (Below.refl _ _) (fun _ => rfl)
    (fun pre W => (∃ v, Boxed W (w.heap.size + 1) 26 v ∧ W.ownsRow w.heap.size 9 1 v pre.length (pre.map Value.string) ∧ True) ∧ (Boxed W (w.heap.size + 1 + 1 + 1) 5 (.int .u8 m.toNat) ∧ Below w.heap.size w W))
    (fun _ _ _ => False)
    (OwnFrom.and (Own.from (holdsRow_own w.heap.size (w.heap.size + 1) 26 9 1 (fun pre : List ByteArray => pre.length) (fun pre : List ByteArray => pre.map Value.string) (fun _ _ => True)) _) (OwnFrom.and (Own.from (boxed_own _ _ _) _) (ownFrom_below (Nat.le_refl _) (by have := HZ.out; omega))))
    (fun _ _ _ _ _ hs _ _ => hs)
    ⟨⟨_, bP, hOw, trivial⟩, bC, hB0⟩
    (fun x => { tmps := #[.string s, .string sep, undef, undef, .slice none 0 0, .bool false, .pointer (some ⟨w.heap.size + 1, 0, none⟩), .string x, .slice (some ⟨w.heap.size, 0, none⟩) 0 0, .string s, .int .i64 s.size, .bool false, .bool false, .string sep, .int .i64 sep.size, .bool false, .bool false, undef, .string s, .string sep, .int .u8 m.toNat, .func (.func 36) #[] #[.pointer (some ⟨w.heap.size + 1 + 1, 0, none⟩), .pointer (some ⟨w.heap.size + 1 + 1 + 1, 0, none⟩)], .string x, undef, undef, undef, undef, undef], defers := [] }) ?assign ?body ?done ?stop
  case assign =>
    intro l x W K hK
    gi_wp2
    exact hK
  case body =>
    rintro l pre x W ⟨⟨v, hv, hrow, _⟩, hC, hB⟩ hlt
    have hc := hv.cell
    have hmono : w.heap.size ≤ W.heap.size := hB.size
    gi_wp2_with (gi_at_builtin; refine wpListIn_append_own _ rfl _ _ 26 rfl w.heap.size 9 i0 (.string ByteArray.empty) 1 16 Try.underlying26 hi hz0 hz1 hz2 rfl (by decide) _ _ _ rfl (hrow.alloc _) ⟨W.heap.size, 0, none⟩ 1 1 [.string x] rfl rfl (cell_one_new _ _ _) (by simp [Value.oneCell']) (by unfold maxLen; omega) (by omega) (by simp; omega) ?_; intro v' w1 hown' hgrow _; obtain ⟨g', cap', rfl⟩ := ownsRow_succ hown'; have hC1 := (hC.alloc _).kept hgrow (hC.not_row (by decide) hrow); obtain ⟨hv1, hv2, hr2, hk2, hb2⟩ := hv.appended (by decide) hrow hB.size (by omega) hown' hgrow; have hc1 := hv1.cell; have hf1 := hv1.frozen)
    have hC2 := hC1.kept (grownBy_setCell' w1 (w.heap.size + 1) (.slice (some ⟨g', 0, none⟩) (pre.length + 1) cap')) (by intro e; injection e with e; omega)
    exact ⟨hk2.from _, hC2.trans hC.symm, ⟨_, hv2, by simpa using hr2, trivial⟩, hC2, hB.trans hb2⟩
  case done =>
    rintro D ys W hD rfl ⟨⟨v, hv, hrow, _⟩, hC, hB⟩ hK
    have hc := hv.cell
    gi_wp2
    refine ⟨by simp, .inl ⟨_, _, rfl, run_takeDeferred hK, ?_⟩⟩
    exact ⟨_, results_tmp2 rfl _ _ _, v, rfl, ownsRow_putObj hrow _ hK rfl, hB.trans (belowK_b (w := w) (Nat.le_refl _) W D _ _ (by have := HZ.out; omega) hK rfl rfl)⟩
  case stop =>
    rintro D c pre W _ _ h _
    exact h.elim

theorem implSplit_yes (s sep : ByteArray) (w : World) (hs : s.size ≤ 4000) (hz : sep.size = 1) :
    Calls Try.prog 10 #[.string s, .string sep] w fun e W' => ∃ v, e = .returned (.tuple #[v, .bool true]) ∧ OwnStrs W' w.heap.size v (parts s (sep[0]'(by omega))) ∧ Below w.heap.size w W' :=
  callsIn_wide.1 (implSplit_in 3 (Nat.le_refl _) s sep w hs hz)

theorem implSplit_no (s sep : ByteArray) (w : World) (hs : s.size ≤ 1048576) (h : 4000 < s.size ∨ sep.size ≠ 1) :
    Calls Try.prog 10 #[.string s, .string sep] w fun e W' => ∃ v, e = .returned (.tuple #[v, .bool false]) ∧ OwnStrs W' w.heap.size v [] ∧ Below w.heap.size w W' := by
  have hb0 : Below w.heap.size w (w.alloc (.cells #[] 9)) := (Below.refl _ _).alloc (Nat.le_refl _) _
  have ho : (w.alloc (.cells #[] 9)).ownsRow w.heap.size 9 1 (.slice (some ⟨w.heap.size, 0, none⟩) 0 0) 0 [] := World.ownsRow_made w #[] 0 (Nat.le_refl _) (by decide) rfl
  by_cases h1 : 4000 < s.size
  · have a1 : (4000 : Int) < s.size := by omega
    clear h h1
    go_enter Try.func10, Try.ntmps10
    go_wp2
    go_ret2
    exact ⟨_, rfl, ho.alloc _, hb0.alloc (by simp) _⟩
  · have hz : sep.size ≠ 1 := h.resolve_left h1
    have a1 : ¬ (4000 : Int) < s.size := by omega
    have a2 : ((sep.size : Int) != 1) = true := by simp; omega
    have a3 : ((sep.size : Int) == 1) = false := by simp; omega
    clear h h1 hz
    go_enter Try.func10, Try.ntmps10
    go_wp2
    go_ret2
    exact ⟨_, rfl, ho.alloc _, hb0.alloc (by simp) _⟩

theorem specSplit_yes (s sep : ByteArray) (w : World) (hs : s.size ≤ 4000) (hz : sep.size = 1) :
    Calls Try.prog 17 #[.string s, .string sep] w fun e W' => ∃ v, e = .returned (.tuple #[v, .bool true]) ∧ OwnStrs W' w.heap.size v (parts s (sep[0]'(by omega))) ∧ Below w.heap.size w W' := by
  have a1 : ((sep.size : Int) != 1) = false := by simp; omega
  have a2 : ((sep.size : Int) == 1) = true := by simp; omega
  have a3 : ¬ (4000 : Int) < s.size := by omega
  have a4 : (0 : Int) < sep.size := by omega
  have a5 : 0 < sep.size := by omega
  obtain ⟨m, hm⟩ : ∃ m : UInt8, m = sep[0] := ⟨_, rfl⟩
  have hm' : (sep[0].toNat : Int) = (m.toNat : Int) := by rw [hm]
  rw [← hm]
  have c := fun W => l1Split_any s m W (by omega)
  clear hm hz
  go_enter Try.func17, Try.ntmps17
  go_wp2_with (go_at_call 33; refine (c _).mono ?_; rintro e w' ⟨v, rfl, ho, hb⟩)
  go_ret2
  exact ⟨_, rfl, ho, hb⟩

theorem specSplit_no (s sep : ByteArray) (w : World) (hs : s.size ≤ 1048576) (h : 4000 < s.size ∨ sep.size ≠ 1) :
    Calls Try.prog 17 #[.string s, .string sep] w fun e W' => ∃ v, e = .returned (.tuple #[v, .bool false]) ∧ OwnStrs W' w.heap.size v [] ∧ Below w.heap.size w W' := by
  have hb0 : Below w.heap.size w (w.alloc (.cells #[] 9)) := (Below.refl _ _).alloc (Nat.le_refl _) _
  have ho : (w.alloc (.cells #[] 9)).ownsRow w.heap.size 9 1 (.slice (some ⟨w.heap.size, 0, none⟩) 0 0) 0 [] := World.ownsRow_made w #[] 0 (Nat.le_refl _) (by decide) rfl
  by_cases hz : sep.size = 1
  · have h1 : 4000 < s.size := h.resolve_right fun h => h hz
    have a1 : (4000 : Int) < s.size := by omega
    have a2 : ((sep.size : Int) != 1) = false := by simp; omega
    have a3 : ((sep.size : Int) == 1) = true := by simp; omega
    clear h h1 hz
    go_enter Try.func17, Try.ntmps17
    go_wp2
    go_ret2
    exact ⟨_, rfl, ho, hb0⟩
  · have a2 : ((sep.size : Int) != 1) = true := by simp; omega
    have a3 : ((sep.size : Int) == 1) = false := by simp; omega
    clear h hz
    go_enter Try.func17, Try.ntmps17
    go_wp2
    go_ret2
    exact ⟨_, rfl, ho, hb0⟩

end Go.Proofs.Ytfjnfgeielgihaa
