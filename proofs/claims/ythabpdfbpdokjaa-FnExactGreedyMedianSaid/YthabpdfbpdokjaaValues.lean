/- The iterator over a table of lists. Condition: the table and its lists read as such and may be written. -/
import Derived.Test.YthabpdfbpdokjaaRangeB
import Derived.Test.YthabpdfbpdokjaaSizeSeq
namespace Go.Proofs.Ythabpdfbpdokjaa
open Go.RowKit Go.Shelf
attribute [local go_sem] Oper.semAt_some

/-- A table whose rows may be written, with its box. -/
structure TabHeld (p q B : Nat) (T : Tab) (w : World) : Prop where
  box : w.cell? ⟨B, 0, none⟩ = some (.slice T.a T.R.length T.c)
  ins : T.In p q w
  held : ∀ r ∈ T.R, r.Held w
theorem TabHeld.touch {p q B lo hi : Nat} {T : Tab} {w w' : World} (h : TabHeld p q B T w) (t : Touch lo hi w w') (hB : B < w.heap.size) (hn : hi ≤ p ∨ q ≤ lo) (h1 : p ≤ B) (h2 : B < q) : TabHeld p q B T w' :=
  ⟨(t.cell (p := ⟨B, 0, none⟩) hB (by simp only; omega)).trans h.box, h.ins.touch t (by omega), fun r hr => held_out (h.held r hr) t (fun hl a ha => by
    have h3 := in_lt (h.ins.2 r hr) hl a ha
    have h4 := in_ge (h.ins.2 r hr) hl a ha
    omega)⟩
theorem TabHeld.on {p q B : Nat} {T : Tab} {w w' : World} (h : TabHeld p q B T w) (t : Below w.heap.size w w') (hB : B < w.heap.size) : TabHeld p q B T w' :=
  ⟨(t.cell (p := ⟨B, 0, none⟩) hB).trans h.box, h.ins.on t, fun r hr => (h.held r hr).on t⟩

set_option maxRecDepth 100000 in
set_option maxHeartbeats 4000000 in
theorem values_seq (n : Nat) (hn : 2 ≤ n) (B : Nat) (T : Tab) (w0 : World) (p q : Nat) (hT : TabHeld p q B T w0) (hN : T.R.length ≤ 7) (h1 : p ≤ B) (h2 : B < q) :
    ListSeqB Fence.wide n Try.prog 98 #[.pointer (some ⟨B, 0, none⟩)] T.con p p q w0 := by
  intro l lo hi J S W y0 hW hlo hhi hJ hS hY h0 hy0
  have hBw : B < w0.heap.size := World.block_lt_of_cell? w0 _ hT.box
  have hw0W := hW.size
  obtain ⟨N, hNN⟩ : ∃ N, N = T.R.length := ⟨_, rfl⟩
  have HNN := Lib.hid hNN
  have hTW : TabHeld p q B T W := hT.touch (lo := 0) (hi := 0) (Touch.of_below hW) hBw (.inl (Nat.zero_le _)) h1 h2
  have hNi : (N : Int) ≤ 7 := by omega
  have cB : W.cell? ⟨B, 0, none⟩ = some (.slice T.a N T.c) := by rw [hNN]; exact hTW.box
  have HY := Lib.hid hY
  have HJ := Lib.hid hJ
  have HTW := Lib.hid hTW
  have H0 := Lib.hid h0
  have HY0 := Lib.hid hy0
  have HCN : Hid (T.con.length = N) := Lib.hid (by rw [con_length, hNN])
  obtain ⟨c1, c2, _⟩ := hTW.ins.1.at
  have hci : (N : Int) ≤ (T.c : Int) := by rw [tv_length] at c1; omega
  clear hY hJ hS h0 hy0 hT hTW c1 c2 hNN hW
  have hA : N = 0 ∨ ∃ bt ot, T.a = some ⟨bt, ot, none⟩ := by
    rcases HTW.out.ins.1.2.2 with h3 | ⟨b, o, e, _⟩
    · left; have h3' := congrArg List.length h3; rw [tv_length, List.length_nil] at h3'; have := HNN.out; omega
    · exact .inr ⟨b, o, e⟩
  rcases hA with hN0 | ⟨bt, ot, hTa⟩
  · refine callsIn_of_wp Try.func98 rfl trivial ?_ rfl
    simp only [Try.ntmps98, List.size_toArray, List.length_cons, List.length_nil, Nat.reduceAdd, Nat.reduceSub, Array.replicate_succ, Array.replicate_zero, List.push_toArray, List.append_toArray, List.nil_append, List.cons_append]
    gi_wp2
    gi_loopg [7] N (fun r iv wr => ∃ (k : Nat) (y : Row), k ≤ N ∧ iv = .int .i64 k ∧ r = N - k ∧ Hid (J k y wr) ∧ Hid (y.Held wr) ∧ Hid (TabHeld p q B T wr) ∧ Hid (W.heap.size ≤ wr.heap.size))
    case atStart => exact ⟨0, y0, Nat.zero_le _, rfl, by omega, H0, HY0, HTW, Lib.hid (Nat.le_refl _)⟩
    case round =>
      obtain ⟨k, y, hk, rfl, hgk, HJk, HYk, HTk, HWk⟩ := hrel
      subst hgk
      by_cases hlt : k < N
      · omega
      · obtain rfl : k = N := by omega
        gi_wp2
        refine bodyPost_end (results_none rfl _ _ _) rfl ?_
        exact ⟨⟨_, rfl⟩, y, HYk.out, .inl (by rw [HCN.out]; exact HJk.out)⟩
  · have HTA := Lib.hid hTa
    rw [hTa] at cB
    clear hTa
    refine callsIn_of_wp Try.func98 rfl trivial ?_ rfl
    simp only [Try.ntmps98, List.size_toArray, List.length_cons, List.length_nil, Nat.reduceAdd, Nat.reduceSub, Array.replicate_succ, Array.replicate_zero, List.push_toArray, List.append_toArray, List.nil_append, List.cons_append]
    gi_wp2
    gi_loopg [7] N (fun r iv wr => ∃ (k : Nat) (y : Row), k ≤ N ∧ iv = .int .i64 k ∧ r = N - k ∧ Hid (J k y wr) ∧ Hid (y.Held wr) ∧ Hid (TabHeld p q B T wr) ∧ Hid (W.heap.size ≤ wr.heap.size))
    case atStart => exact ⟨0, y0, Nat.zero_le _, rfl, by omega, H0, HY0, HTW, Lib.hid (Nat.le_refl _)⟩
    case round =>
      obtain ⟨k, y, hk, rfl, hgk, HJk, HYk, HTk, HWk⟩ := hrel
      subst hgk
      by_cases hlt : k < N
      · have hlti : (k : Int) < (N : Int) := by omega
        have hkR : k < T.R.length := by rw [← HNN.out]; exact hlt
        have hkC : k < T.con.length := by rw [HCN.out]; exact hlt
        obtain ⟨x, hx⟩ : ∃ x, x = T.R[k] := ⟨_, rfl⟩
        have hxm : x ∈ T.R := by rw [hx]; exact List.getElem_mem _
        have hxl : x.l = T.con[k] := by rw [hx, con_at T hkR]
        have hcell : wr.cell? ⟨bt, ot + k, none⟩ = some (.slice x.a x.l.length x.c) := by
          rcases HTk.out.ins.1.2.2 with h3 | ⟨b, o, e, _, _, _, hc⟩
          · have h3' := congrArg List.length h3; rw [tv_length, List.length_nil] at h3'; omega
          · rw [HTA.out] at e
            simp only [Option.some.injEq, Addr.mk.injEq, and_true] at e
            obtain ⟨rfl, rfl⟩ := e
            rw [hx]; exact hc k _ (tv_at hkR)
        have hxo : x.Out lo hi := fun hl a ha => by
          have h3 := in_lt (HTk.out.ins.2 x hxm) hl a ha
          have h4 := in_ge (HTk.out.ins.2 x hxm) hl a ha
          omega
        obtain ⟨fn, tmps, assign, body, hyl, hRnd⟩ := HY.out k y x wr hkC hxl HJk.out HYk.out (HTk.out.held x hxm) (fun hl a ha => in_ge (HTk.out.ins.2 x hxm) hl a ha) hxo HWk.out
        have HRnd := Lib.hid hRnd
        have hBr : B < wr.heap.size := by have := HWk.out; omega
        have HXO := Lib.hid hxo
        clear hx hxl hRnd hxo
        gi_wp2
        refine ⟨fun _ => by omega, HRnd.out.mono ?_⟩
        rintro e W3 ⟨y', hy', hH3, ⟨rfl, ht3, hJ3⟩ | ⟨rfl, ht3, hS3⟩⟩
        · have HT3 := Lib.hid (HTk.out.touch ht3 hBr hlo h1 h2)
          have HW3 := Lib.hid (Nat.le_trans HWk.out ht3.size)
          have HJ3 := Lib.hid hJ3
          have HH3 := Lib.hid hH3
          clear hy' hH3 ht3 hJ3
          gi_wp2
          go_roundg (N - (k + 1))
          case measure => omega
          case rel => exact ⟨k + 1, y', by omega, by go_num, rfl, HJ3, HH3, HT3, HW3⟩
        · have HEND : Hid ((∃ v, Ending.returned (.tuple #[]) = .returned v) ∧ ∃ y, y.Held W3 ∧ (J T.con.length y W3 ∨ S y W3)) := Lib.hid ⟨⟨_, rfl⟩, y', hH3, .inr hS3⟩
          clear hy' hH3 ht3 hS3
          gi_wp2
          refine bodyPost_ret (results_none rfl _ _ _) rfl ?_
          exact HEND.out
      · obtain rfl : k = N := by omega
        gi_wp2
        refine bodyPost_end (results_none rfl _ _ _) rfl ?_
        exact ⟨⟨_, rfl⟩, y, HYk.out, .inl (by rw [HCN.out]; exact HJk.out)⟩

set_option maxHeartbeats 1000000 in
theorem values_any (a : Option Addr) (n c : Nat) (w : World) :
    Calls Try.prog 75 #[.slice a n c] w fun e w' => e = .returned (.func (.func 98) #[] #[.pointer (some ⟨w.heap.size, 0, none⟩)]) ∧ w' = w.alloc (.cells #[.slice a n c] 23) := by
  go_enter Try.func75, Try.ntmps75
  go_wp2
  go_ret
  exact ⟨rfl, rfl⟩
end Go.Proofs.Ythabpdfbpdokjaa
