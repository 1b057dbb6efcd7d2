/- What a write into one number of a Field of the call's own leaves. No condition. -/
import Derived.Test.YtbochmpkjacnnaaOwn
namespace Go.Proofs.Ytbochmpkjacnnaa
open Go.RowKit

theorem row_write {r : Row} {lo hi : Nat} {w : World} (ho : r.Own 3 w) (hi' : r.In lo hi w) {a : Nat} (ha : a < r.l.length) (x : Int) : ∃ g, r.a = some ⟨g, 0, none⟩ ∧ lo ≤ g ∧ g < hi ∧ g < w.heap.size ∧ w.frozen? ⟨g, a, none⟩ = false ∧ w.cell? ⟨g, a, none⟩ = some (.int .i64 r.l[a]) ∧
    (Row.mk r.a r.c (r.l.set a x)).Own 3 (w.setCell ⟨g, a, none⟩ (.int .i64 x)) ∧ (Row.mk r.a r.c (r.l.set a x)).In lo hi (w.setCell ⟨g, a, none⟩ (.int .i64 x)) ∧ Wrote r w (w.setCell ⟨g, a, none⟩ (.int .i64 x)) := by
  have hne : r.l ≠ [] := fun h => by rw [h] at ha; simp at ha
  obtain ⟨g, hga, hown⟩ := ho.resolve_left hne
  obtain ⟨_, _, h3⟩ := hi'
  rcases h3 with h3 | ⟨b, o, e, hl, hh, hb, _⟩
  · exact absurd (iv_nil h3) hne
  rw [hga] at e
  simp only [Option.some.injEq, Addr.mk.injEq] at e
  obtain ⟨rfl, rfl, _⟩ := e
  have hst := (hown.stored a (.int .i64 x)).1
  rw [show (iv r.l).set a (.int .i64 x) = iv (r.l.set a x) by unfold iv; rw [List.map_set]] at hst
  have hst' : (w.setCell ⟨g, a, none⟩ (.int .i64 x)).ownsRow 0 3 1 (.slice (some ⟨g, 0, none⟩) (r.l.set a x).length r.c) (r.l.set a x).length (iv (r.l.set a x)) := by rw [List.length_set]; exact hst
  obtain ⟨q1, q2, q3⟩ := row_of_owns hst'
  refine ⟨g, hga, hl, hh, hb, hown.frozenAt a, (hown.cellAt a (by omega)).trans (iv_at ha), .inr ⟨g, hga, hst'⟩, ⟨q1, q2, ?_⟩, ⟨rfl, rfl, rfl, by simp [World.setCell], fun j hj hn => Below.heap_setCell w ⟨g, a, none⟩ _ j (fun e => hn ⟨g, 0, none⟩ hne hga (by simp at e; simp only; omega))⟩⟩
  rcases q3 with q3 | ⟨b', o', e', hb', hc'⟩
  · exact .inl q3
  · simp only [Option.some.injEq, Addr.mk.injEq] at e'
    obtain ⟨rfl, rfl, _⟩ := e'
    exact .inr ⟨_, _, hga, hl, hh, hb', hc'⟩

theorem lots_set {L : List Row} {w w' : World} {lo hi i : Nat} (h : Lots 3 w L) (hin : ∀ r ∈ L, r.In lo hi w) (hi' : i < L.length) {r' : Row} (ha : r'.a = L[i].a) (hne : r'.l ≠ [] → L[i].l ≠ []) (ho : r'.Own 3 w') (hw : Wrote L[i] w w') : Lots 3 w' (L.set i r') := by
  have hap : ∀ a b, (h1 : a < L.length) → (h2 : b < L.length) → a ≠ b → L[a].Apart L[b] := fun a b h1 h2 hne => by
    rcases Nat.lt_or_gt_of_ne hne with h3 | h3
    · exact List.pairwise_iff_getElem.1 h.2 a b h1 h2 h3
    · exact (List.pairwise_iff_getElem.1 h.2 b a h2 h1 h3).symm
  constructor
  · intro r hr
    obtain ⟨j, hj, rfl⟩ := List.mem_iff_getElem.1 hr
    rw [List.length_set] at hj
    rw [List.getElem_set]
    split
    · exact ho
    · next hne' => exact (h.1 _ (List.getElem_mem hj)).wrote (hin _ (List.getElem_mem hj)) hw (hap i j hi' hj hne')
  · rw [List.pairwise_iff_getElem]
    intro a b h1 h2 hab
    rw [List.length_set] at h1 h2
    rw [List.getElem_set, List.getElem_set]
    have hb := hap a b h1 h2 (by omega)
    split
    · next e =>
      subst e
      rw [if_neg (by omega)]
      intro x y n1 n2 e1 e2
      exact hb x y (hne n1) n2 (by rw [← ha]; exact e1) e2
    · split
      · next e =>
        subst e
        intro x y n1 n2 e1 e2
        exact hb x y n1 (hne n2) e1 (by rw [← ha]; exact e2)
      · exact hb

theorem write_open {G : Fld} {lo hi : Nat} {w : World} (hO : G.Own 3 w) (hI : G.In lo hi w) {a : Nat} (ha : a < G.o.l.length) (x : Int) : ∃ g, G.o.a = some ⟨g, 0, none⟩ ∧ lo ≤ g ∧ g < hi ∧ g < w.heap.size ∧ w.frozen? ⟨g, a, none⟩ = false ∧ w.cell? ⟨g, a, none⟩ = some (.int .i64 G.o.l[a]) ∧
    (Fld.mk ⟨G.o.a, G.o.c, G.o.l.set a x⟩ G.t).Own 3 (w.setCell ⟨g, a, none⟩ (.int .i64 x)) ∧ (Fld.mk ⟨G.o.a, G.o.c, G.o.l.set a x⟩ G.t).In lo hi (w.setCell ⟨g, a, none⟩ (.int .i64 x)) := by
  have hins : ∀ r ∈ G.o :: G.t.R, r.In lo hi w := fun r hr => by
    rcases List.mem_cons.1 hr with hr | hr
    · rw [hr]; exact hI.1
    · exact hI.2.2 r hr
  have hne : G.o.l ≠ [] := fun h => by rw [h] at ha; simp at ha
  obtain ⟨g, h1, h2, h3, h4, h5, h6, h7, h8, h9⟩ := row_write (hO.1.1 G.o (List.mem_cons_self ..)) hI.1 ha x
  refine ⟨g, h1, h2, h3, h4, h5, h6, ⟨?_, ?_⟩, ⟨h8, ⟨hI.2.1.wrote h9 (fun x y n1 n2 e1 e2 => ?_), fun r hr => (hI.2.2 r hr).wrote h9 ((List.pairwise_cons.1 hO.1.2).1 r hr)⟩⟩⟩
  · exact lots_set (i := 0) hO.1 hins (by simp) (r' := ⟨G.o.a, G.o.c, G.o.l.set a x⟩) rfl (fun _ => hne) h7 h9
  · intro r hr x' y' n1 n2 e1 e2
    rcases List.mem_cons.1 hr with hr | hr
    · subst hr; exact hO.2 G.o (List.mem_cons_self ..) x' y' hne n2 e1 e2
    · exact hO.2 r (List.mem_cons_of_mem _ hr) x' y' n1 n2 e1 e2
  · exact hO.2 G.o (List.mem_cons_self ..) x y n1 (fun h => n2 (by rw [h]; rfl)) e1 e2

theorem write_row {G : Fld} {lo hi : Nat} {w : World} (hO : G.Own 3 w) (hI : G.In lo hi w) {i : Nat} (hi' : i < G.t.R.length) {a : Nat} (ha : a < G.t.R[i].l.length) (x : Int) : ∃ g, G.t.R[i].a = some ⟨g, 0, none⟩ ∧ lo ≤ g ∧ g < hi ∧ g < w.heap.size ∧ w.frozen? ⟨g, a, none⟩ = false ∧ w.cell? ⟨g, a, none⟩ = some (.int .i64 G.t.R[i].l[a]) ∧
    (Fld.mk G.o ⟨G.t.a, G.t.c, G.t.R.set i ⟨G.t.R[i].a, G.t.R[i].c, G.t.R[i].l.set a x⟩⟩).Own 3 (w.setCell ⟨g, a, none⟩ (.int .i64 x)) ∧ (Fld.mk G.o ⟨G.t.a, G.t.c, G.t.R.set i ⟨G.t.R[i].a, G.t.R[i].c, G.t.R[i].l.set a x⟩⟩).In lo hi (w.setCell ⟨g, a, none⟩ (.int .i64 x)) := by
  have hins : ∀ r ∈ G.o :: G.t.R, r.In lo hi w := fun r hr => by
    rcases List.mem_cons.1 hr with hr | hr
    · rw [hr]; exact hI.1
    · exact hI.2.2 r hr
  have hm : G.t.R[i] ∈ G.t.R := List.getElem_mem hi'
  have hne : G.t.R[i].l ≠ [] := fun h => by rw [h] at ha; simp at ha
  obtain ⟨g, h1, h2, h3, h4, h5, h6, h7, h8, h9⟩ := row_write (hO.1.1 _ (List.mem_cons_of_mem _ hm)) (hI.2.2 _ hm) ha x
  have hap : ∀ j, (hj : j < G.t.R.length) → j ≠ i → G.t.R[i].Apart G.t.R[j] := fun j hj hn => by
    have hp := (List.pairwise_cons.1 hO.1.2).2
    rcases Nat.lt_or_gt_of_ne hn with h | h
    · exact (List.pairwise_iff_getElem.1 hp j i hj hi' h).symm
    · exact List.pairwise_iff_getElem.1 hp i j hi' hj h
  have htv : tv (G.t.R.set i ⟨G.t.R[i].a, G.t.R[i].c, G.t.R[i].l.set a x⟩) = tv G.t.R := by
    unfold tv
    apply List.ext_getElem
    · simp
    · intro j hj1 hj2
      rw [List.getElem_map, List.getElem_map, List.getElem_set]
      split
      · next e => subst e; unfold Row.val; simp
      · rfl
  refine ⟨g, h1, h2, h3, h4, h5, h6, ⟨?_, ?_⟩, ⟨hI.1.wrote h9 ((List.pairwise_cons.1 hO.1.2).1 _ hm).symm, ⟨?_, ?_⟩⟩⟩
  · exact lots_set (i := i + 1) hO.1 hins (by simpa using hi') (r' := ⟨G.t.R[i].a, G.t.R[i].c, G.t.R[i].l.set a x⟩) rfl (fun _ => hne) h7 h9
  · intro r hr x' y' n1 n2 e1 e2
    have n2' : G.t.R ≠ [] := fun h => by rw [h] at hi'; simp at hi'
    rcases List.mem_cons.1 hr with hr | hr
    · subst hr; exact hO.2 G.o (List.mem_cons_self ..) x' y' n1 n2' e1 e2
    · rcases List.mem_or_eq_of_mem_set hr with hr | hr
      · exact hO.2 r (List.mem_cons_of_mem _ hr) x' y' n1 n2' e1 e2
      · subst hr; exact hO.2 _ (List.mem_cons_of_mem _ hm) x' y' hne n2' e1 e2
  · show RowIn lo hi _ G.t.a G.t.c (tv (G.t.R.set i _))
    rw [htv]
    exact hI.2.1.wrote h9 (fun x' y' n1 n2 e1 e2 => hO.2 _ (List.mem_cons_of_mem _ hm) x' y' n1 (fun h => n2 (by rw [h]; rfl)) e1 e2)
  · intro r hr
    obtain ⟨j, hj, rfl⟩ := List.mem_iff_getElem.1 hr
    simp only [List.length_set] at hj
    rw [List.getElem_set]
    split
    · exact h8
    · next hn => exact (hI.2.2 _ (List.getElem_mem hj)).wrote h9 (hap j hj (fun e => hn e.symm))

/-- A list of which the first a numbers have been mapped. -/
def blend (φ : Int → Int) (l : List Int) (a : Nat) : List Int := (l.take a).map φ ++ l.drop a
theorem blend_length (φ : Int → Int) (l : List Int) (a : Nat) : (blend φ l a).length = l.length := by unfold blend; simp; omega
theorem blend_zero (φ : Int → Int) (l : List Int) : blend φ l 0 = l := by simp [blend]
theorem blend_end (φ : Int → Int) (l : List Int) : blend φ l l.length = l.map φ := by simp [blend]
theorem blend_at (φ : Int → Int) (l : List Int) {a : Nat} (h : a < l.length) : (blend φ l a)[a]'(by rw [blend_length]; exact h) = l[a] := by
  have e : min a l.length = a := by omega
  unfold blend; rw [List.getElem_append_right (by simp; omega)]; simp [e]
theorem blend_set (φ : Int → Int) (l : List Int) {a : Nat} (h : a < l.length) : (blend φ l a).set a (φ l[a]) = blend φ l (a + 1) := by
  have e : a - min a l.length = 0 := by omega
  unfold blend
  rw [List.set_append_right _ _ (by simp; omega), List.take_succ_eq_append_getElem h, List.map_append, List.drop_eq_getElem_cons h, List.length_map, List.length_take, e, List.set_cons_zero]
  simp
/-- A table of which the first i rows are one number further. -/
def conTo (φ : Int → Int) (d : List (List Int)) (a i : Nat) : List (List Int) := (d.take i).map (fun l => blend φ l (a + 1)) ++ (d.drop i).map (fun l => blend φ l a)
theorem conTo_zero (φ : Int → Int) (d : List (List Int)) : conTo φ d 0 0 = d := by simp [conTo, blend_zero]
theorem conTo_next (φ : Int → Int) (d : List (List Int)) (a : Nat) : conTo φ d a d.length = conTo φ d (a + 1) 0 := by simp [conTo]
theorem conTo_at (φ : Int → Int) (d : List (List Int)) (a : Nat) {i : Nat} (h : i < d.length) : (conTo φ d a i)[i]'(by simp [conTo]; omega) = blend φ d[i] a := by
  have e : min i d.length = i := by omega
  unfold conTo; rw [List.getElem_append_right (by simp; omega)]; simp [e]
theorem conTo_set (φ : Int → Int) (d : List (List Int)) (a : Nat) {i : Nat} (h : i < d.length) : (conTo φ d a i).set i (blend φ d[i] (a + 1)) = conTo φ d a (i + 1) := by
  have e : i - min i d.length = 0 := by omega
  unfold conTo
  rw [List.set_append_right _ _ (by simp; omega), List.take_succ_eq_append_getElem h, List.map_append, List.drop_eq_getElem_cons h, List.length_map, List.length_take, e, List.map_cons, List.set_cons_zero]
  simp
theorem conTo_end (φ : Int → Int) (d : List (List Int)) (n : Nat) (h : ∀ l ∈ d, l.length = n) : conTo φ d n 0 = d.map (List.map φ) := by
  unfold conTo
  simp only [List.take_zero, List.map_nil, List.drop_zero, List.nil_append]
  exact List.map_congr_left fun l hl => by rw [← h l hl]; exact blend_end φ l
end Go.Proofs.Ytbochmpkjacnnaa
