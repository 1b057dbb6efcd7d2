/- The grouping of clients by the sites that serve them, in a map: what a key reads as behind each round, and what the map gives back. No condition. -/
import Derived.Test.YtfgedolngcdjpaaClients
import Derived.Maps.OwnRows
import Derived.Maps.Views
namespace Go.Proofs.Ytfgedolngcdjpaa
open Go.RowKit Go.Maps Go.ChangeMaps Go.MapKept Go.ChangeShapes
open Go.WideElems (Fit rd rg pl rd_val elemAt)
open Go (rowDatum rowElem rowElem_inv)

abbrev Dat := DataW Unit
/-- D groups c. -/
def Says (D : Dat) (c : Nat → List Int) : Prop := IsMap D ∧ ∀ q : Nat, (D.atKey (.int .i64 (q : Int)) .nil = .nil ∧ c q = []) ∨ D.atKey (.int .i64 (q : Int)) .nil = .slice (lits .i64 (c q)) []
theorem lits_inj {a b : List Int} (h : (lits .i64 a : List Dat) = lits .i64 b) : a = b := (List.map_inj_right (fun x y hxy => by cases hxy; rfl)).1 h
theorem says_start (d : List (List Int)) (T : List Nat) : Says (.map []) (fun q => cliTo d T q 0) := ⟨isMap_empty, fun _ => .inl ⟨rfl, rfl⟩⟩
theorem says_is {D : Dat} {c : Nat → List Int} {w : World} {B : Nat} {v : Value} {zs : List Int} {q : Nat} (h : Says D c) (ho : w.ownsInts B 3 .i64 v zs) (hat : D.atKey (.int .i64 (q : Int)) .nil = rowDatum .i64 v zs) : zs = c q := by
  rcases h.2 q with ⟨h1, h2⟩ | h1 <;> rw [hat] at h1 <;> rcases ho.datum (H := Unit) with ⟨h3, h4⟩ | h3 <;> rw [h3] at h1
  · rw [h2, h4]
  · cases h1
  · cases h1
  · injection h1 with h5 _; exact lits_inj h5
theorem says_step {D : Dat} {d : List (List Int)} {T : List Nat} {k m : Nat} {w w1 : World} {B : Nat} {v v' : Value} {zs : List Int} (h : Says D (fun q => cliTo d T q k)) (hm : near (d.getD k []) T = m)
    (ho : w.ownsInts B 3 .i64 v zs) (hat : D.atKey (.int .i64 (m : Int)) .nil = rowDatum .i64 v zs) (ho' : w1.ownsInts B 3 .i64 v' (zs ++ [(k : Int)])) :
    Says (D.put (.int .i64 (m : Int)) (rowDatum .i64 v' (zs ++ [(k : Int)]))) (fun q => cliTo d T q (k + 1)) := by
  have hz := says_is h ho hat
  refine ⟨h.1.put _ _, fun q => ?_⟩
  show (_ ∧ cliTo d T q (k + 1) = []) ∨ _ = DataW.slice (lits .i64 (cliTo d T q (k + 1))) []
  by_cases e : q = m
  · subst e
    right
    rw [atKey_put_same h.1 (show WideAt.IsKeyLit (.int .i64 (q : Int)) from trivial), ho'.datum_pos (by simp), hz]
    rw [cli_step, if_pos hm]
  · rw [atKey_put_other (by intro h0; simp at h0; omega), cli_step, if_neg (by rw [hm]; exact fun h0 => e h0.symm), List.append_nil]
    exact h.2 q

theorem nodup_key {l : List MapEntry} (h : (l.map (·.key)).Nodup) {a b : MapEntry} (ha : a ∈ l) (hb : b ∈ l) (hk : a.key = b.key) : a = b := by
  induction l with
  | nil => cases ha
  | cons x r ih =>
    rw [List.map_cons, List.nodup_cons] at h
    rcases List.mem_cons.1 ha with ha | ha <;> rcases List.mem_cons.1 hb with hb | hb
    · rw [ha, hb]
    · exact absurd (List.mem_map.2 ⟨b, hb, by rw [← hk, ha]⟩) h.1
    · exact absurd (List.mem_map.2 ⟨a, ha, by rw [hk, hb]⟩) h.1
    · exact ih h.2 ha hb
/-- What the map holds at a key: a row of its own, or nil; the rows of two keys lie apart. -/
structure Held (P : Program) (w : World) (b base : Nat) (c : Nat → List Int) (R : Nat → Row) : Prop where
  run : ∀ (q : Nat) (u : World), (q : Int) ≤ 9223372036854775807 → u.heap[b]? = w.heap[b]? → (Instr.lookup 69 (.map (some b)) (.int .i64 (q : Int)) false).run P u = .ok (.slice (R q).a (R q).l.length (R q).c) u
  is : ∀ q : Nat, (q : Int) ≤ 9223372036854775807 → (R q).l = c q
  own : ∀ q : Nat, (q : Int) ≤ 9223372036854775807 → (R q).Own 3 w
  ins : ∀ q : Nat, (q : Int) ≤ 9223372036854775807 → (R q).In base w.heap.size w
  apart : ∀ q q' : Nat, (q : Int) ≤ 9223372036854775807 → (q' : Int) ≤ 9223372036854775807 → q ≠ q' → (R q).Apart (R q')

theorem held_of {w : World} {b base n : Nat} {D : Dat} {c : Nat → List Int} (h : w.ownsGroups Try.prog 3 base 3 .i64 b n D) (hs : Says D c)
    (hz : ∀ u : World, (zeroValue 22).run Try.prog u = .ok (.slice none 0 0) u) : ∃ R : Nat → Row, Held Try.prog w b base c R := by
  obtain ⟨es, clock, hb, F, hsz, hD, hbb, hlen, hap⟩ := h
  have each : ∀ q : Nat, ∃ r : Row, (q : Int) ≤ 9223372036854775807 → (∀ u : World, u.heap[b]? = w.heap[b]? → (Instr.lookup 69 (.map (some b)) (.int .i64 (q : Int)) false).run Try.prog u = .ok (.slice r.a r.l.length r.c) u) ∧
      r.l = c q ∧ r.Own 3 w ∧ r.In base w.heap.size w ∧ (r.l = [] ∨ ∃ e0 ∈ es.toList, e0.key = .int .i64 (q : Int) ∧ e0.val = .slice r.a r.l.length r.c) := fun q => by
    by_cases hq : (q : Int) ≤ 9223372036854775807
    · have hkey : keyOf Try.prog 3 (.int .i64 (q : Int)) = some (.int .i64 (q : Int)) := keyOf_int_mk Try.underlying3 (WalkArith.wf_i64 (by omega))
      have look := fun (u : World) (hu : u.heap[b]? = w.heap[b]?) => Maps.fit_look (w := u) (e := 22) (t := 69) false (int_keyed Try.underlying3) Try.underlying69 (hz u) (hu.trans hb) F hkey
      rcases look w rfl with ⟨_, hno, hat⟩ | ⟨e0, y, hm0, h3, _, hR, hat, _⟩
      · refine ⟨⟨none, 0, []⟩, fun _ => ⟨fun u hu => ?_, ?_, .inl rfl, ⟨by simp [iv], by decide, .inl rfl⟩, .inl rfl⟩⟩
        · rcases look u hu with ⟨hrun, _, _⟩ | ⟨e0, _, hm0, h3, _⟩
          · exact hrun
          · exact absurd h3 (hno e0 hm0)
        · have hat0 := hat .nil
          rw [← hD] at hat0
          rcases hs.2 q with ⟨_, h2⟩ | h2
          · exact h2.symm
          · rw [hat0] at h2; cases h2
      · obtain ⟨zs, ho, rfl⟩ := rowElem_inv hR
        have hat0 := hat .nil
        rw [← hD] at hat0
        have hzs := says_is hs ho hat0
        obtain ⟨r, hr, hrl, hro, hri⟩ := row_of_own (l := zs) (v := e0.val) (by have := ho.1; simpa [iv] using this)
        refine ⟨r, fun _ => ⟨fun u hu => ?_, hrl.trans hzs, hro, hri, .inr ⟨e0, hm0, h3, hr⟩⟩⟩
        rcases look u hu with ⟨_, hno, _⟩ | ⟨e1, _, hm1, h31, hrun, _⟩
        · exact absurd h3 (hno e0 hm0)
        · have : e1 = e0 := by
            exact nodup_key F.stamped.2.2 hm1 hm0 (h31.trans h3.symm)
          rw [← hr, ← this]; exact hrun
    · exact ⟨⟨none, 0, []⟩, fun h => absurd h hq⟩
  obtain ⟨R, hR⟩ := Classical.axiomOfChoice each
  refine ⟨R, fun q u hq hu => (hR q hq).1 u hu, fun q hq => (hR q hq).2.1, fun q hq => (hR q hq).2.2.1, fun q hq => (hR q hq).2.2.2.1, fun q q' hq hq' hne x y h1 h2 e1 e2 => ?_⟩
  rcases (hR q hq).2.2.2.2 with h3 | ⟨x0, hx0, hk0, hv0⟩
  · exact absurd h3 h1
  rcases (hR q' hq').2.2.2.2 with h3 | ⟨y0, hy0, hk1, hv1⟩
  · exact absurd h3 h2
  have hk : x0.key ≠ y0.key := by rw [hk0, hk1]; intro h0; simp at h0; omega
  rcases hap x0 hx0 y0 hy0 hk with h4 | h4
  · rw [hv0, e1] at h4; simp [Value.ownBlock] at h4
  · rw [hv0, hv1, e1, e2] at h4; simpa [Value.ownBlock] using h4

end Go.Proofs.Ytfgedolngcdjpaa
