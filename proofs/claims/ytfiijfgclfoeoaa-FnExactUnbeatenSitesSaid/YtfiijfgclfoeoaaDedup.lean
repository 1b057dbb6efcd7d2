/- Numbers without repetition in ascending order: sorted and made compact by the program, put to their places by the model. Condition: rows of the calls' own, at most 1048576 numbers. -/
import Derived.Test.YtfiijfgclfoeoaaSortRow
import Derived.Test.YtfiijfgclfoeoaaPutAny
import Derived.Test.YtfiijfgclfoeoaaOwnAll
import Derived.Lib.SlicesCompact
namespace Go.Proofs.Ytfiijfgclfoeoaa
open Go.RowKit Go.Shelf

theorem rises_same : ∀ (a b : List Int), a.Pairwise (· < ·) → b.Pairwise (· < ·) → (∀ x, x ∈ a ↔ x ∈ b) → a = b
  | [], [], _, _, _ => rfl
  | [], y :: t, _, _, h => absurd ((h y).2 (List.mem_cons_self ..)) (by simp)
  | x :: s, [], _, _, h => absurd ((h x).1 (List.mem_cons_self ..)) (by simp)
  | x :: s, y :: t, ha, hb, h => by
    obtain ⟨ha1, ha2⟩ := List.pairwise_cons.1 ha
    obtain ⟨hb1, hb2⟩ := List.pairwise_cons.1 hb
    have e : x = y := by
      rcases List.mem_cons.1 ((h x).1 (List.mem_cons_self ..)) with e | e
      · exact e
      · rcases List.mem_cons.1 ((h y).2 (List.mem_cons_self ..)) with e2 | e2
        · exact e2.symm
        · have := hb1 x e; have := ha1 y e2; omega
    subst e
    congr 1
    refine rises_same s t ha2 hb2 fun z => ⟨fun hz => ?_, fun hz => ?_⟩
    · rcases List.mem_cons.1 ((h z).1 (List.mem_cons_of_mem _ hz)) with e | e
      · subst e; have := ha1 z hz; omega
      · exact e
    · rcases List.mem_cons.1 ((h z).2 (List.mem_cons_of_mem _ hz)) with e | e
      · subst e; have := hb1 z hz; omega
      · exact e

def putS (l : List Int) (n : Int) : List Int := if hasI l n then l else putAt l n
def putAll (L : List Int) : List Int := L.foldl putS []
theorem has_mem {l : List Int} {n : Int} : hasI l n = true ↔ n ∈ l := List.contains_iff_mem
theorem putS_rises {l : List Int} (n : Int) (h : l.Pairwise (· < ·)) : (putS l n).Pairwise (· < ·) := by
  unfold putS
  split
  · exact h
  · rename_i hn; exact putAt_rises l n h (fun e => hn (has_mem.2 e))
theorem putS_mem (l : List Int) (n x : Int) : x ∈ putS l n ↔ x = n ∨ x ∈ l := by
  unfold putS
  split
  · rename_i hn
    exact ⟨.inr, fun h => h.elim (fun e => e ▸ has_mem.1 hn) id⟩
  · rw [(putAt_perm l n).mem_iff, List.mem_cons]
theorem putAll_both (L : List Int) : ∀ b : List Int, b.Pairwise (· < ·) → (L.foldl putS b).Pairwise (· < ·) ∧ ∀ x, x ∈ L.foldl putS b ↔ x ∈ L ∨ x ∈ b := by
  induction L with
  | nil => intro b hb; exact ⟨hb, fun x => by simp⟩
  | cons a t ih =>
    intro b hb
    obtain ⟨h1, h2⟩ := ih (putS b a) (putS_rises a hb)
    refine ⟨h1, fun x => ?_⟩
    rw [List.foldl_cons, h2, putS_mem, List.mem_cons]
    constructor
    · rintro (h | h | h)
      · exact .inl (.inr h)
      · exact .inl (.inl h)
      · exact .inr h
    · rintro ((h | h) | h)
      · exact .inr (.inl h)
      · exact .inl h
      · exact .inr (.inr h)
theorem putAll_rises (L : List Int) : (putAll L).Pairwise (· < ·) := (putAll_both L [] List.Pairwise.nil).1
theorem putAll_mem (L : List Int) (x : Int) : x ∈ putAll L ↔ x ∈ L := by
  have := (putAll_both L [] List.Pairwise.nil).2 x
  simpa [putAll] using this
theorem putAll_step {L : List Int} {k : Nat} (h : k < L.length) : putAll (L.take (k + 1)) = putS (putAll (L.take k)) L[k] := by
  unfold putAll; rw [List.take_succ_eq_append_getElem h, List.foldl_append]; rfl
theorem putAt_len (l : List Int) (n : Int) : (putAt l n).length = l.length + 1 := (putAt_perm l n).length_eq
theorem putS_len (l : List Int) (n : Int) : (putS l n).length ≤ l.length + 1 ∧ 0 < (putS l n).length := by
  unfold putS
  split
  · rename_i h
    have := List.length_pos_of_mem (has_mem.1 h)
    omega
  · rw [putAt_len]; omega
theorem putAll_len (L : List Int) : ∀ b : List Int, (L.foldl putS b).length ≤ L.length + b.length := by
  induction L with
  | nil => intro b; simp
  | cons a t ih => intro b; have := ih (putS b a); have := (putS_len b a).1; simp only [List.foldl_cons, List.length_cons]; omega

/-- Of a sorted list, the compact one has each number once. -/
theorem compact_sorted {zs : List Int} (hs : zs.Pairwise (· ≤ ·)) : ∀ m, m ≤ zs.length → (Lib.compactUpTo zs.toArray m).Pairwise (· < ·) ∧ (∀ x, x ∈ Lib.compactUpTo zs.toArray m ↔ ∃ j, ∃ h : j < zs.length, j < m ∧ zs[j] = x)
  | 0, _ => ⟨by simp [Lib.compactUpTo], fun x => by simp [Lib.compactUpTo]⟩
  | m + 1, hm => by
    obtain ⟨h1, h2⟩ := compact_sorted hs m (by omega)
    have hlt : m < zs.length := by omega
    have ea : zs.toArray[m]! = zs[m] := by simp [hlt]
    have hle : ∀ i j (hi : i < zs.length) (hj : j < zs.length), i ≤ j → zs[i] ≤ zs[j] := fun i j hi hj hij => by
      by_cases e : i = j
      · subst e; exact Int.le_refl _
      · exact List.pairwise_iff_getElem.1 hs i j hi hj (by omega)
    rw [Lib.compactUpTo_succ, ea]
    by_cases hk : Lib.keeps zs.toArray m = true
    · rw [if_pos hk]
      refine ⟨List.pairwise_append.2 ⟨h1, by simp, fun x hx y hy => ?_⟩, fun x => ?_⟩
      · simp only [List.mem_singleton] at hy
        subst hy
        obtain ⟨j, hj, hjm, rfl⟩ := (h2 x).1 hx
        unfold Lib.keeps at hk
        rw [decide_eq_true_iff] at hk
        rcases hk with hk | hk
        · omega
        · have hm1 : m - 1 < zs.length := by omega
          have eb : zs.toArray[m - 1]! = zs[m - 1] := by simp [hm1]
          rw [ea, eb] at hk
          have a1 := hle j (m - 1) hj hm1 (by omega)
          have a2 := hle (m - 1) m hm1 hlt (by omega)
          have : zs[m] ≠ zs[m - 1] := hk
          omega
      · rw [List.mem_append, h2, List.mem_singleton]
        constructor
        · rintro (⟨j, hj, hjm, e⟩ | e)
          · exact ⟨j, hj, by omega, e⟩
          · exact ⟨m, hlt, by omega, e.symm⟩
        · rintro ⟨j, hj, hjm, e⟩
          by_cases h : j = m
          · subst h; exact .inr e.symm
          · exact .inl ⟨j, hj, by omega, e⟩
    · rw [if_neg hk, List.append_nil]
      refine ⟨h1, fun x => ?_⟩
      rw [h2]
      constructor
      · rintro ⟨j, hj, hjm, e⟩; exact ⟨j, hj, by omega, e⟩
      · rintro ⟨j, hj, hjm, e⟩
        by_cases h : j = m
        · subst h
          have hj0 : j ≠ 0 := fun e0 => hk (by unfold Lib.keeps; rw [decide_eq_true_iff]; exact .inl e0)
          have hm1 : j - 1 < zs.length := by omega
          have eb : zs.toArray[j - 1]! = zs[j - 1] := by simp [hm1]
          have he : zs[j] = zs[j - 1] := by
            refine Classical.byContradiction fun hne => hk ?_
            unfold Lib.keeps; rw [decide_eq_true_iff, ea, eb]; exact .inr hne
          exact ⟨j - 1, hm1, by omega, by rw [← he]; exact e⟩
        · exact ⟨j, hj, by omega, e⟩
theorem compact_put (L : List Int) : Lib.compact (sortA L) = putAll L := by
  obtain ⟨h1, h2⟩ := compact_sorted (sortA_rises L) (sortA L).length (Nat.le_refl _)
  refine rises_same _ _ h1 (putAll_rises L) fun x => ?_
  rw [putAll_mem, ← (sortA_perm L).mem_iff]
  show x ∈ Lib.compactUpTo (sortA L).toArray (sortA L).length ↔ _
  rw [h2]
  constructor
  · rintro ⟨j, hj, _, rfl⟩; exact List.getElem_mem _
  · intro h
    obtain ⟨j, hj, e⟩ := List.mem_iff_getElem.1 h
    exact ⟨j, hj, hj, e⟩

theorem owns_less {w : World} {B : Nat} {e : TypeId} {g n cap k : Nat} {xs : List Value} (h : w.ownsRow B e 1 (.slice (some ⟨g, 0, none⟩) n cap) n xs) (hk : k ≤ n) : w.ownsRow B e 1 (.slice (some ⟨g, 0, none⟩) k cap) k (xs.take k) := by
  obtain ⟨h1, h2⟩ := id h
  rw [Nat.mul_one] at h1
  refine ⟨by rw [List.length_take]; omega, ?_⟩
  rcases h2 with ⟨h2, _⟩ | ⟨g', cap', cur, he, hB, hg, hn, hm, hs, ht⟩
  · cases h2
  · simp only [Value.slice.injEq, Option.some.injEq, Addr.mk.injEq, and_true, true_and] at he
    obtain ⟨rfl, rfl⟩ := he
    refine .inr ⟨g, cap, cur, rfl, hB, hg, by omega, hm, hs, ?_⟩
    rw [← ht, List.take_take]; congr 1; omega

open Go.Lib Go.Sort in
/-- A list of the call's own, not nil. -/
structure LRow (B : Nat) (w : World) (v : Value) (L : List Int) (g cap : Nat) : Prop where
  val : v = .slice (some ⟨g, 0, none⟩) L.length cap
  own : w.ownsRow B 3 1 (.slice (some ⟨g, 0, none⟩) L.length cap) L.length (iv L)
theorem LRow.on {B : Nat} {w w' : World} {v : Value} {L : List Int} {g cap : Nat} (h : LRow B w v L g cap) (t : Below w.heap.size w w') : LRow B w' v L g cap := ⟨h.val, owns_below h.own t⟩
theorem LRow.row {B : Nat} {w : World} {v : Value} {L : List Int} {g cap : Nat} (h : LRow B w v L g cap) : ∃ t : Row, v = .slice t.a t.l.length t.c ∧ t.l = L ∧ t.Own 3 w ∧ t.In B w.heap.size w := by
  rw [h.val]; exact row_of_own h.own

end Go.Proofs.Ytfiijfgclfoeoaa
