/- The contracts of marginal gains, on both sides. Condition: a valid Field and worth, a list of its sites, a site. -/
import Derived.Test.YtbochmpkjacnnaaWorthAsk
import Derived.Test.YtbochmpkjacnnaaPutAny
import Derived.Test.YtbochmpkjacnnaaPlainGreed
import Derived.Test.YtbochmpkjacnnaaShelf
namespace Go.Proofs.Ytbochmpkjacnnaa
open Go.RowKit Go.Shelf

/-- A row that is its call's own and whole: it begins at its block's first cell. -/
def Row.Whole (e : TypeId) (w : World) (r : Row) : Prop := ∃ g, r.a = some ⟨g, 0, none⟩ ∧ w.ownsRow 0 e 1 (.slice (some ⟨g, 0, none⟩) r.l.length r.c) r.l.length (iv r.l)
theorem Row.Whole.on {e : TypeId} {w w' : World} {r : Row} (h : r.Whole e w) (t : Below w.heap.size w w') : r.Whole e w' := by
  obtain ⟨g, h1, h2⟩ := h; exact ⟨g, h1, owns_below h2 t⟩
theorem Row.Whole.some {e : TypeId} {w : World} {r : Row} (h : r.Whole e w) : r.a ≠ none := by obtain ⟨g, h1, _⟩ := h; rw [h1]; simp
theorem toInts_whole (r : Row) (w : World) (hr : r.At w) (hn : r.l.length ≤ 1048576) :
    Calls Try.prog 21 #[.slice r.a r.l.length r.c] w fun e w' => ∃ s : Row, e = .returned (.slice s.a s.l.length s.c) ∧ s.l = r.l ∧ s.Whole 3 w' ∧ s.Own 3 w' ∧ s.In w.heap.size w'.heap.size w' ∧ Below w.heap.size w w' := by
  refine (toInts_any r w hr hn).mono ?_
  rintro e w' ⟨rfl, ho, hb⟩
  refine ⟨⟨some ⟨w.heap.size, 0, none⟩, r.l.length, r.l⟩, rfl, rfl, ⟨_, rfl, owns_base ho⟩, .inr ⟨_, rfl, owns_base ho⟩, ?_, hb⟩
  obtain ⟨t, ht, htl, _, hti⟩ := row_of_own ho
  obtain ⟨ta, tc, tl⟩ := t
  simp only at ht htl
  subst htl
  simp only [Value.slice.injEq] at ht
  obtain ⟨rfl, _, rfl⟩ := ht
  exact hti

theorem cloneW_any (s : Row) (w : World) (hs : s.At w) (ha : s.a ≠ none) (hn : s.l.length ≤ 1048576) :
    Calls Try.prog 78 #[.slice s.a s.l.length s.c] w fun e w' => ∃ v', e = .returned v' ∧ w'.ownsRow w.heap.size 3 1 v' s.l.length (iv s.l) ∧ Below w.heap.size w w' := by
  obtain ⟨a, c, l⟩ := s
  obtain ⟨q1, q2, q3⟩ := hs
  simp only at q1 q2 q3 ha hn ⊢
  by_cases h0 : l = []
  · subst h0
    cases a with
    | none => exact absurd rfl ha
    | some x => exact (Try.slices_Clone_int_zero x c w).mono fun e w' ⟨v', h1, h2, _, h3⟩ => ⟨v', h1, h2, h3⟩
  · rcases q3 with h3 | ⟨bk, of, rfl, hbb, hcell⟩
    · exact absurd (iv_nil h3) h0
    have HC : ∀ j, j < l.length → w.cell? ⟨bk, of + j, none⟩ = some (.int .i64 (l.getD j 0)) := fun j hj => by
      rw [hcell j _ (iv_at hj), List.getD_eq_getElem?_getD, List.getElem?_eq_getElem hj]; rfl
    refine (Try.slices_Clone_int bk of l.length c l w (Nat.le_refl _) (by omega) HC).mono ?_
    rintro e w' ⟨v', rfl, ho, _, hb⟩
    rw [List.take_length] at ho
    exact ⟨v', rfl, ho, hb⟩

theorem gainT_perm (F : Fld) (u : Int) {T U : List Nat} (h : T.Perm U) : gainT F u T = gainT F u U := by
  by_cases h0 : T = []
  · subst h0; rw [List.Perm.nil_eq h]
  · have hU : U ≠ [] := fun e => h0 (by rw [e] at h; exact List.perm_nil.1 h)
    unfold gainT
    rw [if_neg h0, if_neg hU]
    unfold gainsL
    rw [lens_perm h h0]
theorem up_snocM (T : List Nat) (i : Nat) : up T ++ [(i : Int)] = up (T ++ [i]) := by unfold up; rw [List.map_append]; rfl
theorem put_up (T : List Nat) (i : Nat) : ∃ U : List Nat, putAt (up T) (i : Int) = up U ∧ U.Perm (T ++ [i]) := by
  refine ⟨nats (putAt (up T) (i : Int)), ?_, ?_⟩
  · have hall : ∀ x ∈ putAt (up T) (i : Int), 0 ≤ x := fun x hx => by
      rcases List.mem_cons.1 ((putAt_perm (up T) (i : Int)).mem_iff.1 hx) with rfl | hx
      · omega
      · unfold up at hx; obtain ⟨m, _, rfl⟩ := List.mem_map.1 hx; omega
    unfold nats up
    rw [List.map_map]
    refine ((List.map_congr_left fun x hx => ?_).trans (List.map_id _)).symm
    have := hall x hx
    simp; omega
  · have h1 : (nats (putAt (up T) (i : Int))).Perm (nats ((i : Int) :: up T)) := (putAt_perm (up T) (i : Int)).map _
    have h2 : nats ((i : Int) :: up T) = i :: T := by
      have := nats_up T
      unfold nats at this ⊢
      rw [List.map_cons, this]; simp
    rw [h2] at h1
    exact h1.trans (List.perm_append_singleton i T).symm
theorem hasN (T : List Nat) (i : Nat) : hasI (up T) (i : Int) = decide (i ∈ T) := by
  unfold hasI
  rw [Bool.eq_iff_iff, List.contains_iff_mem, decide_eq_true_iff]
  unfold up
  rw [List.mem_map]
  constructor
  · rintro ⟨m, hm, e⟩
    have : m = i := by omega
    subst this; exact hm
  · intro h; exact ⟨i, h, rfl⟩
/-- The marginal gain of a site. -/
def moreT (F : Fld) (u : Int) (T : List Nat) (i : Nat) : Int := gainT F u (T ++ [i]) - gainT F u T
theorem Worthy.snoc {F : Fld} {u : Int} {s t : Row} {T U : List Nat} {i : Nat} (h : Worthy F u s T) (hi : i < F.o.l.length) (hT : T.length ≤ 100) (ht : t.l = up U) (hU : U.Perm (T ++ [i])) : Worthy F u t U := by
  refine ⟨h.good, ht, fun m hm => ?_, by rw [hU.length_eq, List.length_append]; simp; omega⟩
  rcases List.mem_append.1 (hU.mem_iff.1 hm) with hm | hm
  · exact h.lt m hm
  · rw [List.mem_singleton] at hm; rw [hm]; exact hi

end Go.Proofs.Ytbochmpkjacnnaa
