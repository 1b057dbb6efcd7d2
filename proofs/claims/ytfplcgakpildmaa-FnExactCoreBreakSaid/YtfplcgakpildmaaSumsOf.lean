/- The table of the sums of the sets of places of a list, as the program makes it. Condition: at most seven numbers from -1400 to 1400. -/
import Derived.Test.YtfplcgakpildmaaPlainSums
import Derived.Test.YtfplcgakpildmaaServe
import Derived.Maps.AppendAt
import Derived.RangeFuncBox
import Derived.Lib.AppendZeros
namespace Go.Proofs.Ytfplcgakpildmaa
open Go.RowKit

theorem addr_add (g j : Nat) : (⟨g, 0, none⟩ : Addr).add j = ⟨g, j, none⟩ := by
  by_cases e : j = 0 <;> simp_all [Addr.add]
set_option maxRecDepth 100000 in
/-- One number appended to an own row: what the row had before still reads where it lay. -/
theorem append_keep (B : Nat) (v : Value) (n : Nat) (xs : List Value) (w : World) (hown : w.ownsRow B 3 1 v n xs) (a : Addr) (x : Int) (ha : w.cell? a = some (.int .i64 x)) (hn : n ≤ 1048576) (hB : B ≤ w.heap.size) :
    ∃ v' w', (Builtin.append_ #[22, 22] 22 #[v, .slice (some a) 1 1]).run Try.prog w = .ok v' w' ∧ w'.ownsRow B 3 1 v' (n + 1) (xs ++ [.int .i64 x]) ∧ Below B w w' ∧
      (∀ g j u, v.ownBlock = some g → xs[j]? = some u → w'.cell? ⟨g, j, none⟩ = some u) ∧ (∀ g, g < w.heap.size → v.ownBlock ≠ some g → w'.heap[g]? = w.heap[g]?) := by
  obtain ⟨i0, hi, hz0, hz1, hz2⟩ := info_parts infoInt
  have hnews : ∀ j u, [Value.int .i64 x][j]? = some u → w.cell? (a.add j) = some u := by
    intro j u hj
    have hj1 : j < 1 := (List.getElem?_eq_some_iff.1 hj).1
    obtain rfl : j = 0 := by omega
    rw [show a.add 0 = a by simp [Addr.add], ha]; exact hj
  have h1 : ∀ u ∈ [Value.int .i64 x], u.oneCell' = true := by simp [Value.oneCell']
  obtain ⟨v', w', hr, ho, hg, hv, hat⟩ := run_append_own_at (P := Try.prog) (w := w) B 22 22 3 i0 (.int .i64 0) 1 8 rfl hi hz0 hz1 hz2 rfl (by decide) v n xs hown a 1 1 [.int .i64 x] rfl hnews h1 (by unfold maxLen; omega) (by omega) hB
  refine ⟨v', w', hr, ho, ⟨hg.os, hg.tape, hg.output, hg.size, fun k hk => hg.block k (by omega) fun e => ?_⟩, ?_, fun g hgl hne => hg.block g hgl (fun e => hne e.symm)⟩
  · have := (hown.lt k e.symm).1; omega
  · intro g j u hgv hj
    rcases hown.2 with ⟨rfl, rfl⟩ | ⟨g0, cap, cur, rfl, hbg, hcur, hnc, hcm, hcs, htake⟩
    · simp [Value.ownBlock] at hgv
    · obtain rfl : g0 = g := by simpa [Value.ownBlock] using hgv
      have hxl : xs.length = n := by have := hown.1; omega
      have hjn : j < n := by have := (List.getElem?_eq_some_iff.1 hj).1; omega
      by_cases hroom : n + 1 ≤ cap
      · have hr2 := run_append_room (P := Try.prog) w 22 22 3 i0 rfl hi g0 n cap cur hcur a 1 1 [.int .i64 x] (by rw [hz1]; rfl) hnews h1 hroom (by rw [hz1, hcs]; simp; omega)
        have e := hr.symm.trans hr2
        injection e with e1 e2
        subst e1
        have := ho.cells (g := g0) rfl j u (by rw [List.getElem?_append_left (by omega)]; exact hj)
        rw [addr_add] at this; exact this
      · have holds : ∀ j u, xs[j]? = some u → w.cell? ((⟨g0, 0, none⟩ : Addr).add j) = some u := hown.cells (g := g0) rfl
        have hr2 := run_append_grow (P := Try.prog) w 22 22 3 i0 (.int .i64 0) rfl hi hz0 ⟨g0, 0, none⟩ n cap xs (by rw [hz1]; exact hown.1) holds a 1 1 [.int .i64 x] (by rw [hz1]; rfl) hnews (by omega) (by omega) (growslice_fits (by omega) (by rw [hz2]; omega))
        have e := hr.symm.trans hr2
        injection e with e1 e2
        subst e2
        have hlt : g0 < w.heap.size := (Array.getElem?_eq_some_iff.1 hcur).1
        have h5 := holds j u hj
        have hbd : Below w.heap.size w (w.drew.alloc (.cells (xs.toArray ++ [Value.int .i64 x].toArray ++ Builtin.zeroCells (Value.int .i64 0).cells (grownCap w (n + 1) cap 3 - (n + 1))) 3)) := (Below.refl _ _).drew.alloc (Nat.le_refl _) _
        have := hbd.cell (p := ⟨g0, j, none⟩) hlt
        rw [this]
        rw [addr_add] at h5; exact h5

theorem own_one (w : World) (x : Int) : (w.alloc (.cells #[.int .i64 x] 3)).ownsRow w.heap.size 3 1 (.slice (some ⟨w.heap.size, 0, none⟩) 1 1) 1 (iv [x]) :=
  World.ownsRow_lit w #[.int .i64 x] 1 (Nat.le_refl _) (by decide) rfl
/-- A table of sums that grows: the first i of them lie behind the older ones. -/
def sumsAt (l : List Int) (k i : Nat) : List Int := sumsTo l k ++ ((sumsTo l k).take i).map fun s => s + l.getD k 0
theorem sumsAt_zero (l : List Int) (k : Nat) : sumsAt l k 0 = sumsTo l k := by unfold sumsAt; simp
theorem sumsAt_len (l : List Int) {k i : Nat} (h : i ≤ 2 ^ k) : (sumsAt l k i).length = 2 ^ k + i := by
  unfold sumsAt; rw [List.length_append, List.length_map, List.length_take, sumsTo_len]; omega
theorem sumsAt_end (l : List Int) (k : Nat) : sumsAt l k (2 ^ k) = sumsTo l (k + 1) := by
  unfold sumsAt; rw [List.take_of_length_le (by rw [sumsTo_len]; exact Nat.le_refl _)]; rfl
theorem sumsAt_step (l : List Int) {k i : Nat} (h : i < 2 ^ k) : sumsAt l k (i + 1) = sumsAt l k i ++ [(sumsTo l k).getD i 0 + l.getD k 0] := by
  have h2 : i < (sumsTo l k).length := by rw [sumsTo_len]; exact h
  unfold sumsAt
  rw [List.take_succ_eq_append_getElem h2, List.map_append, ← List.append_assoc]
  congr 1
  rw [show (sumsTo l k).getD i 0 = (sumsTo l k)[i] from getD_at h2]
  rfl
theorem sumsAt_old (l : List Int) {k i j : Nat} (h : j < 2 ^ k) : (iv (sumsAt l k i))[j]? = some (.int .i64 ((sumsTo l k).getD j 0)) := by
  have h2 : j < (sumsTo l k).length := by rw [sumsTo_len]; exact h
  unfold iv sumsAt
  rw [List.getElem?_map, List.getElem?_append_left h2, List.getD_eq_getElem?_getD, List.getElem?_eq_getElem h2]
  rfl

set_option maxRecDepth 8000 in
set_option maxHeartbeats 2000000 in
theorem sumsOf_any (r : Row) (w : World) (hr : r.At w) (h7 : r.l.length ≤ 7) (hb : ∀ x ∈ r.l, -1400 ≤ x ∧ x ≤ 1400) :
    Calls Try.prog 70 #[.slice r.a r.l.length r.c] w fun e w' => ∃ t : Row, e = .returned (.slice t.a t.l.length t.c) ∧ t.l = sumsL r.l ∧ t.Own 3 w' ∧ t.In w.heap.size w'.heap.size w' ∧ Below w.heap.size w w' := by
  obtain ⟨a, c, l⟩ := r
  obtain ⟨h1, h2, h3⟩ := hr
  simp only at h1 h2 h3 h7 hb ⊢
  have HR := Lib.hid h3
  have HO0 := Lib.hid (own_one w 0)
  have HB0 := Lib.hid (below_alloc w (.cells #[.int .i64 0] 3))
  obtain ⟨n, hn⟩ : ∃ n, n = l.length := ⟨_, rfl⟩
  have HN := Lib.hid hn
  have HSB := Lib.hid (fun k (hk : k ≤ n) => (fun x hx => by have := sumsTo_bound hb (by omega) k x hx; omega : ∀ x ∈ sumsTo l k, -9800 ≤ x ∧ x ≤ 9800))
  have HLB := Lib.hid (fun k (hk : k < n) => by have hk2 : k < l.length := by omega
                                                have := hb _ (List.getElem_mem hk2); rw [← getD_at hk2] at this; exact this : ∀ k, k < n → -1400 ≤ l.getD k 0 ∧ l.getD k 0 ≤ 1400)
  rw [← hn] at h7 ⊢
  have hni : (n : Int) ≤ 7 := by omega
  clear h3 hb hn h1 h2
  go_enter Try.func70, Try.ntmps70
  go_wp2
  go_loopw [3, 5, 7, 11, 17] (fun sv _ _ iv' _ wr => ∃ (k p g cap : Nat), k ≤ n ∧ Hid (p = 2 ^ k) ∧ iv' = .int .i64 k ∧ sv = .slice (some ⟨g, 0, none⟩) p cap ∧ wr.ownsRow w.heap.size 3 1 (.slice (some ⟨g, 0, none⟩) p cap) p (iv (sumsTo l k)) ∧ Below w.heap.size w wr) (fun _ _ _ iv' _ _ => n - (intOf iv').toNat)
  case atStart => exact ⟨0, 1, w.heap.size, 1, Nat.zero_le _, Lib.hid rfl, rfl, rfl, HO0.out, HB0.out⟩
  case round =>
    obtain ⟨V, rfl⟩ : ∃ V, V = wr := ⟨_, rfl⟩
    obtain ⟨k, p, g, cap, hk, HP, rfl, rfl, hown, hnx⟩ := hrel
    by_cases hlt : k < n
    · have hlti : (k : Int) < (n : Int) := by omega
      rcases HR.out with h3 | ⟨b, o, rfl, hbb, hcell⟩
      · have h3' := congrArg List.length (iv_nil h3); rw [List.length_nil, ← HN.out] at h3'; omega
      obtain ⟨x, hx⟩ : ∃ x, x = l.getD k 0 := ⟨_, rfl⟩
      have hkl : k < l.length := by rw [← HN.out]; exact hlt
      have hcl : V.cell? ⟨b, o + k, none⟩ = some (.int .i64 x) := (hnx.cell (p := ⟨b, o + k, none⟩) hbb).trans (by rw [hx, getD_at hkl]; exact hcell k _ (iv_at hkl))
      have hxb := HLB.out k hlt
      rw [← hx] at hxb
      obtain ⟨hx1, hx2⟩ := hxb
      have HX := Lib.hid hx
      have hp7 : p ≤ 64 := by rw [HP.out]; have := Nat.pow_le_pow_right (show 0 < 2 by omega) (show k ≤ 6 by omega); simpa using this
      have hpi : (p : Int) ≤ 64 := by omega
      have HO := Lib.hid hown
      have HN0 := Lib.hid hnx
      have hgl := (hown.lt g rfl).1
      have hgB := (hown.lt g rfl).2
      have HOC := Lib.hid (fun j (hj : j < p) => by
        have := hown.cells (g := g) rfl j _ (by rw [← sumsAt_zero]; exact sumsAt_old l (i := 0) (by rw [← HP.out]; exact hj))
        rw [addr_add] at this; exact this : ∀ j, j < p → V.cell? ⟨g, j, none⟩ = some (.int .i64 ((sumsTo l k).getD j 0)))
      have HSK := Lib.hid (fun i (hi : i < p) => by
        have h2 : i < (sumsTo l k).length := by rw [sumsTo_len, ← HP.out]; exact hi
        have := HSB.out k hk _ (List.getElem_mem h2)
        rw [← getD_at h2] at this; exact this : ∀ i, i < p → -9800 ≤ (sumsTo l k).getD i 0 ∧ (sumsTo l k).getD i 0 ≤ 9800)
      have hszr := hnx.size
      clear hx hcell hown hnx
      go_wp2
      go_loopw [3, 7, 17] (fun sv _ iv' wr => ∃ (i : Nat), i ≤ p ∧ iv' = .int .i64 i ∧ (∃ g' cap', sv = .slice (some ⟨g', 0, none⟩) (p + i : Nat) cap') ∧ wr.ownsRow w.heap.size 3 1 sv (p + i) (iv (sumsAt l k i)) ∧ Below w.heap.size w wr ∧ V.heap.size ≤ wr.heap.size ∧ (∀ j, j < p → wr.cell? ⟨g, j, none⟩ = some (.int .i64 ((sumsTo l k).getD j 0)))) (fun _ _ iv' _ => p - (intOf iv').toNat)
      case atStart => exact ⟨0, Nat.zero_le _, rfl, ⟨g, cap, rfl⟩, by rw [sumsAt_zero]; exact HO.out, HN0.out, Nat.le_refl _, HOC.out⟩
      case round =>
        obtain ⟨i, hi, rfl, ⟨g', cap', rfl⟩, hown, hnx, hsq, hoc⟩ := hrel
        by_cases hlt2 : i < p
        · have hlti2 : (i : Int) < (p : Int) := by omega
          obtain ⟨y, hy⟩ : ∃ y, y = (sumsTo l k).getD i 0 := ⟨_, rfl⟩
          have hcy : wr.cell? ⟨g, i, none⟩ = some (.int .i64 y) := by rw [hy]; exact hoc i hlt2
          have hyb := HSK.out i hlt2
          rw [← hy] at hyb
          obtain ⟨hy1, hy2⟩ := hyb
          have HST : Hid (iv (sumsAt l k (i + 1)) = iv (sumsAt l k i) ++ [.int .i64 (y + x)]) := Lib.hid (by rw [sumsAt_step l (by rw [← HP.out]; exact hlt2), ← hy, ← HX.out]; simp [iv])
          have hba := below_alloc wr (.cells #[.int .i64 (y + x)] 3)
          obtain ⟨v', w', hr, ho', hbl', hold, hoth⟩ := append_keep w.heap.size (.slice (some ⟨g', 0, none⟩) (p + i : Nat) cap') (p + i) (iv (sumsAt l k i)) (wr.alloc (.cells #[.int .i64 (y + x)] 3)) (hown.alloc _) ⟨wr.heap.size, 0, none⟩ (y + x) (by simp) (by omega) (by rw [size_alloc]; omega)
          have hoc' : ∀ j, j < p → w'.cell? ⟨g, j, none⟩ = some (.int .i64 ((sumsTo l k).getD j 0)) := fun j hj => by
            by_cases hgg : g' = g
            · exact hold g j _ (by rw [hgg]; rfl) (sumsAt_old l (by rw [← HP.out]; exact hj))
            · have hgq : g < wr.heap.size := by omega
              have := hoth g (by rw [size_alloc]; omega) (by simp [Value.ownBlock]; omega)
              rw [World.cell?_of_block (w := wr.alloc (.cells #[.int .i64 (y + x)] 3)) (a := ⟨g, j, none⟩) this]
              rw [hba.cell (p := ⟨g, j, none⟩) hgq]; exact hoc j hj
          have HR2 := Lib.hid hr
          have HO2 : Hid (w'.ownsRow w.heap.size 3 1 v' (p + (i + 1)) (iv (sumsAt l k (i + 1)))) := Lib.hid (by rw [HST.out]; exact ho')
          obtain ⟨g2, cap2, hv2⟩ := ownsRow_succ ho'
          have HV2 := Lib.hid hv2
          have HB2 := Lib.hid ((hnx.alloc (by omega) _).trans hbl' : Below w.heap.size w w')
          have HZ2 := Lib.hid (by have := hbl'.size; rw [size_alloc] at this; omega : V.heap.size ≤ w'.heap.size)
          have HC2 := Lib.hid hoc'
          clear hy hown hnx hoc hba ho' hbl' hold hoth hoc' hv2 hr
          have hr2 := HR2.out
          have hyx : IntKind.i64.wrap (y + x) = y + x := by rw [IntKind.wrap_i64]; omega
          go_wp2_with (at_builtin; refine Lib.wpList_append_run _ rfl _ _ _ _ rfl _ _ rfl rfl _ _ hr2 ?_)
          clear hr2 hcy
          go_wp2
          go_roundw
          case rel => exact ⟨i + 1, by omega, by go_num, ⟨g2, cap2, by rw [HV2.out]; rfl⟩, HO2.out, HB2.out, HZ2.out, HC2.out⟩
          case measure => simp [intOf]; omega
        · obtain rfl : i = p := by omega
          have HEND : Hid (iv (sumsAt l k i) = iv (sumsTo l (k + 1)) ∧ i + i = 2 ^ (k + 1)) := Lib.hid ⟨by rw [HP.out, sumsAt_end], by rw [HP.out, Nat.pow_succ]; omega⟩
          have HO2 := Lib.hid hown
          have HB2 := Lib.hid hnx
          clear hown hnx hoc
          go_wp2
          go_roundw
          case rel => exact ⟨k + 1, i + i, g', cap', by omega, Lib.hid HEND.out.2, by go_num, rfl, by have := HO2.out; rw [HEND.out.1] at this; exact this, HB2.out⟩
          case measure => simp [intOf]; omega
    · obtain rfl : k = n := by omega
      have hln : (sumsL l).length = p := by rw [sumsL_len, HP.out, HN.out]
      have HE := Lib.hid (row_of_own (l := sumsL l) (v := .slice (some ⟨g, 0, none⟩) p cap) (w := V) (B := w.heap.size) (e := 3) (by rw [hln]; unfold sumsL; rw [← HN.out]; exact hown))
      have HB2 := Lib.hid hnx
      clear hown hnx hln
      go_wp2
      go_ret
      obtain ⟨t, ht, htl, hto, hti⟩ := HE.out
      exact ⟨t, congrArg Ending.returned ht, htl, hto, hti, HB2.out⟩
end Go.Proofs.Ytfplcgakpildmaa
