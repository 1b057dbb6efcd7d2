/- A row without one of its places, as the program makes it. Condition: the row reads as such, at most seven numbers. -/
import Derived.Test.YthabpdfbpdokjaaServe
import Derived.Deep.RegionLaw
import Derived.Laws.CopyOwn
import Derived.Deep.OwnRows
namespace Go.Proofs.Ythabpdfbpdokjaa
open Go.RowKit

theorem infoIntW : (Try.prog.info? 3).map (fun i => (i.zero, i.size, i.bytes)) = some (some (.int .i64 0), 1, 8) := infoInt
theorem erase_iv (l : List Int) : ∀ i, (iv l).eraseIdx i = iv (l.eraseIdx i) := by
  induction l with
  | nil => intro i; rfl
  | cons a t ih =>
    intro i
    cases i with
    | zero => rfl
    | succ i => show Value.int .i64 a :: (iv t).eraseIdx i = Value.int .i64 a :: iv (t.eraseIdx i); rw [ih i]
theorem addr_at (g k j : Nat) : (⟨g, k, none⟩ : Addr).add j = ⟨g, k + j, none⟩ := by unfold Addr.add; split <;> simp_all
theorem row_of_block {w : World} {B g : Nat} {xs : List Int} (hg : w.heap[g]? = some (.cells (iv xs).toArray 3 (0, 0))) (hB : B ≤ g) (hn : xs.length ≤ maxLen) :
    w.ownsRow B 3 1 (.slice (some ⟨g, 0, none⟩) xs.length xs.length) xs.length (iv xs) :=
  ⟨by rw [iv_length]; omega, .inr ⟨g, xs.length, (iv xs).toArray, rfl, hB, hg, Nat.le_refl _, hn, by simp [iv_length], by simp [List.take_of_length_le, iv_length]⟩⟩
theorem splice_erase {xs : List Value} {i n : Nat} (hn : n + 1 = xs.length) (hi : i < xs.length) (Z : List Value) (hZ : Z.length = n) :
    splice (splice Z 0 (xs.take i)) i (xs.drop (i + 1)) = xs.eraseIdx i := by
  rw [List.eraseIdx_eq_take_drop_succ]
  unfold splice
  have h1 : (xs.take i).length = i := by rw [List.length_take]; omega
  have h2 : (xs.drop (i + 1)).length = n - i := by rw [List.length_drop]; omega
  simp only [List.take_zero, List.nil_append, Nat.zero_add, h1, h2]
  have e1 : (xs.take i ++ Z.drop i).take i = xs.take i := by rw [List.take_append_of_le_length (by omega), List.take_of_length_le (by omega)]
  have e2 : (xs.take i ++ Z.drop i).drop (i + (n - i)) = [] := List.drop_eq_nil_iff.2 (by rw [List.length_append, h1, List.length_drop]; omega)
  rw [e1, e2, List.append_nil]

/-- One copy into a block of the call's own. -/
theorem copy_run (w w0 : World) (ty : TypeId) (g off B n m dc sc : Nat) (ad : Addr) (cur cs : List Value) (hg : w.heap[g]? = some (.cells cur.toArray 3 (0, 0))) (hn : cs.length = Nat.min m n)
    (hsrc : ∀ j v, cs[j]? = some v → w.cell? (ad.add j) = some v) (hfit : off + cs.length ≤ cur.length) (h1 : ∀ v ∈ cs, v.oneCell' = true) (hb : Below B w0 w) (hBg : B ≤ g) :
    ∃ w', (Builtin.copy_ #[22, 22] ty #[.slice (some ⟨g, off, none⟩) n dc, .slice (some ad) m sc]).run Try.prog w = .ok (goInt cs.length) w' ∧ w'.heap[g]? = some (.cells (splice cur off cs).toArray 3 (0, 0)) ∧ Below B w0 w' := by
  have hsz : (Try.prog.info? 3).map (·.size) = some 1 := by
    have := infoIntW
    cases h : Try.prog.info? 3 with
    | none => rw [h] at this; cases this
    | some x => rw [h] at this; simp only [Option.map_some, Option.some.injEq, Prod.mk.injEq] at this ⊢; exact this.2.1
  by_cases h0 : cs.length = 0
  · obtain rfl : cs = [] := List.eq_nil_of_length_eq_zero h0
    exact ⟨w, run_copy_none (P := Try.prog) w _ _ ty 3 _ _ _ _ _ _ Try.underlying22 hsz (by simpa using hn.symm), by simpa [splice] using hg, hb⟩
  · have hr := run_copy_row (P := Try.prog) w 22 22 ty 3 g off n dc ad m sc cur.toArray 3 cs Try.underlying22 hsz hg hn hsrc (by simpa using hfit) h1
    exact ⟨_, hr, by simpa [splice] using setRow_heap w g _ _ 3 _ hg, below_setRow hb hBg _⟩

set_option maxRecDepth 16000 in
set_option maxHeartbeats 2000000 in
theorem withoutPlace_any (s : Row) (i : Nat) (w : World) (hs : s.At w) (hi : i < s.l.length) (hsm : s.l.length ≤ 7) :
    Calls Try.prog 73 #[.slice s.a s.l.length s.c, .int .i64 i] w fun e w' => ∃ t : Row, e = .returned (.slice t.a t.l.length t.c) ∧ t.l = s.l.eraseIdx i ∧ t.Own 3 w' ∧ t.In w.heap.size w'.heap.size w' ∧ Below w.heap.size w w' := by
  obtain ⟨a, c, l⟩ := s
  obtain ⟨q1, q2, q3⟩ := hs
  simp only at q1 q2 q3 hi hsm ⊢
  rcases q3 with h3 | ⟨b, o, ha, hb, hcell⟩
  · rw [iv_nil h3] at hi; simp at hi
  subst ha
  obtain ⟨n, hn⟩ : ∃ n, n + 1 = l.length := ⟨l.length - 1, by omega⟩
  rw [iv_length] at q1
  have hci : (n : Int) + 1 ≤ (c : Int) := by omega
  have hni : (n : Int) ≤ 6 := by omega
  have hin : (i : Int) ≤ (n : Int) := by omega
  have hmk := run_make_row' (P := Try.prog) 22 3 (.int .i64 0) 8 Try.underlying22 infoIntW rfl .i64 .i64 n (by omega) (by omega)
  obtain ⟨W1, hW1⟩ : ∃ u, u = w.alloc (.cells (madeCells #[.int .i64 0] n) 3) := ⟨_, rfl⟩
  have hg1 : W1.heap[w.heap.size]? = some (.cells (List.replicate n (Value.int .i64 0)).toArray 3 (0, 0)) := by
    rw [hW1]
    have h := heap_alloc_new w (.cells (madeCells #[.int .i64 0] n) 3)
    rw [h]
    have : (madeCells #[Value.int .i64 0] n).toList = List.replicate n (Value.int .i64 0) := made_row _ _
    rw [← this]
  have HG1 := Lib.hid hg1
  have HB1 : Hid (Below w.heap.size w W1) := Lib.hid (by rw [hW1]; exact below_alloc _ _)
  have HW1 := Lib.hid hW1
  have HCELL : Hid (∀ j v, (iv l)[j]? = some v → w.cell? ⟨b, o + j, none⟩ = some v) := Lib.hid hcell
  have HN := Lib.hid hn
  have hlen : (l.length : Int) = (n : Int) + 1 := by omega
  have hlen2 : l.length = n + 1 := hn.symm
  rw [hlen2]
  have HSZ : Hid ((Try.prog.info? 3).map (·.size) = some 1) := Lib.hid (by
    have := infoIntW
    cases h : Try.prog.info? 3 with
    | none => rw [h] at this; cases this
    | some x => rw [h] at this; simp only [Option.map_some, Option.some.injEq, Prod.mk.injEq] at this ⊢; exact this.2.1)
  have hT1 : ((iv l).take i).length = i := by rw [List.length_take, iv_length]; omega
  have HT1 : Hid (((iv l).take i).length = Nat.min i n) := Lib.hid (by rw [hT1]; exact (Nat.min_eq_left (by omega)).symm)
  have HP1 : Hid (∀ j v, ((iv l).take i)[j]? = some v → W1.cell? ((⟨b, o, none⟩ : Addr).add j) = some v) := Lib.hid fun j v hv => by
    have hlt : b < w.heap.size := hb
    have h1 : (iv l)[j]? = some v := by
      rw [List.getElem?_take] at hv
      split at hv
      · exact hv
      · cases hv
    rw [addr_at]
    exact (HB1.out.cell (p := ⟨b, o + j, none⟩) hlt).trans (HCELL.out j v h1)
  have HF1 : Hid (0 + ((iv l).take i).length ≤ (List.replicate n (Value.int .i64 0)).length) := Lib.hid (by rw [hT1, List.length_replicate]; omega)
  have HO1 : Hid (∀ v ∈ (iv l).take i, v.oneCell' = true) := Lib.hid fun v hv => by
    obtain ⟨x, _, rfl⟩ := List.mem_map.1 (List.mem_of_mem_take hv)
    simp [Value.oneCell']
  obtain ⟨w2, hr1, hg2, hb2⟩ := copy_run W1 w 3 w.heap.size 0 w.heap.size n i n c ⟨b, o, none⟩ (List.replicate n (Value.int .i64 0)) ((iv l).take i) HG1.out HT1.out HP1.out HF1.out HO1.out HB1.out (Nat.le_refl _)
  rw [hW1, hT1] at hr1
  have HG2 := Lib.hid hg2
  have HB2 := Lib.hid hb2
  have hT2 : ((iv l).drop (i + 1)).length = n - i := by rw [List.length_drop, iv_length]; omega
  obtain ⟨w3, hr2, hg3, hb3⟩ := copy_run w2.drew w 3 w.heap.size i w.heap.size (n - i) (n - i) (n - i) (c - (i + 1)) ⟨b, o + (i + 1), none⟩ (splice (List.replicate n (Value.int .i64 0)) 0 ((iv l).take i)) ((iv l).drop (i + 1)) hg2 (by rw [hT2]; exact (Nat.min_self _).symm)
    (fun j v hv => by
      have hlt : b < w.heap.size := hb
      rw [List.getElem?_drop] at hv
      rw [addr_at]
      have h2 := (HB2.out.cell (p := ⟨b, o + (i + 1 + j), none⟩) hlt).trans (HCELL.out _ v hv)
      rw [← Nat.add_assoc] at h2
      exact h2)
    (by rw [hT2, length_splice _ _ _ (by rw [hT1, List.length_replicate]; omega), List.length_replicate]; omega) (fun v hv => by
      obtain ⟨x, _, rfl⟩ := List.mem_map.1 (List.mem_of_mem_drop hv)
      simp [Value.oneCell']) hb2.drew (Nat.le_refl _)
  rw [hT2] at hr2
  have HG3 : Hid (w3.heap[w.heap.size]? = some (.cells (iv (l.eraseIdx i)).toArray 3 (0, 0))) := Lib.hid (by
    rw [splice_erase (by rw [iv_length]; exact hn) (by rw [iv_length]; exact hi) _ (List.length_replicate ..)] at hg3
    rw [hg3]
    congr 3
    exact erase_iv l i)
  have HB3 := Lib.hid hb3
  clear hT1 hT2 hg2 hb2 hg3 hb3
  clear hcell hn hg1 hW1 hlen2 hlen
  go_enter Try.func73, Try.ntmps73
  have HEND : Hid (∀ u, u.heap[w.heap.size]? = some (.cells (iv (l.eraseIdx i)).toArray 3 (0, 0)) → Below w.heap.size w u → ∃ t : Row, Ending.returned (.slice (some ⟨w.heap.size, 0, none⟩) n n) = .returned (.slice t.a t.l.length t.c) ∧ t.l = l.eraseIdx i ∧ t.Own 3 u ∧ t.In w.heap.size u.heap.size u ∧ Below w.heap.size w u) := Lib.hid fun u hu hb => by
    have hl : (l.eraseIdx i).length = n := by rw [List.length_eraseIdx, if_pos hi]; have := HN.out; omega
    have ho := row_of_block hu (Nat.le_refl _) (by rw [hl]; unfold maxLen; omega)
    obtain ⟨t, ht, htl, hto, hti⟩ := row_of_own ho
    rw [hl] at ht
    exact ⟨t, congrArg Ending.returned ht, htl, hto, hti, hb⟩
  by_cases hne : n = i
  · subst hne
    have hz : ∀ (d a : Option Addr) (x : Nat) (u : World), (Builtin.copy_ #[22, 22] 3 #[.slice d 0 0, .slice a 0 x]).run Try.prog u = .ok (goInt 0) u := fun d a x u => run_copy_none (P := Try.prog) u _ _ _ 3 _ _ _ _ _ _ Try.underlying22 HSZ.out (by simp)
    have HE : Hid (w3 = w2.drew) := Lib.hid (by
      have h := hr2
      rw [Nat.sub_self, hz] at h
      injection h with _ h2; exact h2.symm)
    have H3 := Lib.hid (HEND.out w3 HG3.out HB3.out)
    clear hr2
    go_wp2
    go_region
    all_goals
      rw [← HE.out]
      go_wp2
      all_goals
        go_ret
        exact H3.out
  · have hne2 : ¬ c = i + 1 := by omega
    have H3 := Lib.hid (HEND.out w3 HG3.out HB3.out)
    go_wp2
    go_region
    all_goals
      go_wp2
      all_goals
        go_ret
        exact H3.out
end Go.Proofs.Ythabpdfbpdokjaa
