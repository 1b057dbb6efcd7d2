/- The cost of a move, on both sides. Condition: a valid Season, a round of it, sets of its sites, the second of which may be that of the round. -/
import Derived.Test.YtifgmbljimfebaaPlan
import Derived.Test.YtifgmbljimfebaaPlainMove
import Derived.Test.YtifgmbljimfebaaLess
import Derived.Test.YtifgmbljimfebaaPay
import Derived.Test.YtifgmbljimfebaaShelf
import Derived.IntWalk
namespace Go.Proofs.Ytifgmbljimfebaa
open Go.RowKit Go.Shelf

/-- What is asked of a Season, a round and two sets. -/
structure Moves (S : Sea) (i : Nat) (s t : Row) (B T : List Nat) : Prop where
  good : S.good = true
  round : i < S.r.T.length
  before : s.l = up B
  set : t.l = up T
  ltB : ∀ m ∈ B, m < S.o.l.length
  ltT : ∀ m ∈ T, m < S.o.l.length
  ndB : B.Nodup
  ndT : T.Nodup
  some : 0 < T.length ∨ (S.r.con.getD i []).length = 0
theorem nd_len {T : List Nat} {n : Nat} (hn : T.Nodup) (h : ∀ m ∈ T, m < n) : T.length ≤ n := by
  have h1 := sum_set (fun _ => (1 : Int)) n T hn h
  have h2 := (sumN_bound (f := fun a => if a ∈ T then (1 : Int) else 0) (c := 1) (fun a => by by_cases e : a ∈ T <;> simp [e]) n).2
  rw [h1] at h2
  have h3 : ∀ U : List Nat, (U.map fun _ => (1 : Int)).sum = U.length := fun U => by
    induction U with
    | nil => rfl
    | cons u U ih => rw [List.map_cons, List.sum_cons, ih, List.length_cons]; push_cast; omega
  rw [h3 T] at h2
  omega
theorem Moves.lens {S : Sea} {i : Nat} {s t : Row} {B T : List Nat} (h : Moves S i s t B T) : s.l.length ≤ 5 ∧ t.l.length ≤ 5 ∧ B.length ≤ 5 ∧ T.length ≤ 5 ∧ 1 ≤ S.o.l.length ∧ S.o.l.length ≤ 5 := by
  have h1 := (sea_costs h.good).1
  have h2 := nd_len h.ndB h.ltB
  have h3 := nd_len h.ndT h.ltT
  rw [h.before, h.set, up_length, up_length]
  omega
theorem cost_able (r u : Row) (U : List Nat) (h1 : 1 ≤ r.l.length) (h2 : r.l.length ≤ 5) (h3 : r.l.all (upTo 99) = true) (hu : u.l = up U) (hb : ∀ m ∈ U, m < r.l.length) (hn : U.length ≤ 5) : Able ⟨r, ⟨none, 0, []⟩⟩ u U :=
  ⟨good_costs h1 h2 h3, hu, hb, by omega⟩
theorem none_tab (w : World) : Tab.At w ⟨none, 0, []⟩ := ⟨⟨by simp [tv], (by decide), .inl rfl⟩, fun _ h => by cases h⟩

set_option maxHeartbeats 1000000 in
theorem servedNone_any (F : Fld) (s : Row) (w : World) (hF : F.At w) (h0 : F.t.R.length = 0) :
    Calls Try.prog 99 #[.agg #[.slice F.o.a F.o.l.length F.o.c, .slice F.t.a F.t.R.length F.t.c], .slice s.a s.l.length s.c] w fun e w' => ∃ t : Row, e = .returned (.slice t.a t.l.length t.c) ∧ t.l = [] ∧ t.In w.heap.size w'.heap.size w' ∧ Below w.heap.size w w' := by
  obtain ⟨wA, hA, hbA, bx, hFA, hszA⟩ := laid_fld F w 71 hF
  have hown0 := empty_own wA
  obtain ⟨wB, hB⟩ : ∃ u, u = wA.alloc (.cells #[] 3) := ⟨_, rfl⟩
  have hb0 : Below wA.heap.size wA wB := by rw [hB]; exact below_alloc wA _
  rw [← hB, hszA] at hown0
  have x1 : wB.cell? ⟨w.heap.size, 1, none⟩ = some (.slice F.t.a F.t.R.length F.t.c) := (bx.on hb0).c1
  have hA' : wA = w.alloc (Obj.cells #[.slice F.o.a F.o.l.length F.o.c, .slice F.t.a F.t.R.length F.t.c] 71) := hA
  rw [h0] at x1 hA' ⊢
  have HB : Hid (wB = (w.alloc (Obj.cells #[.slice F.o.a F.o.l.length F.o.c, .slice F.t.a 0 F.t.c] 71)).alloc (.cells #[] 3)) := Lib.hid (by rw [hB, hA'])
  have H0 := Lib.hid hown0
  have HBB := Lib.hid (hbA.trans (hb0.mono hbA.size))
  rw [HB.out] at x1
  clear hF hA hA' bx hFA hown0 hb0 h0 hbA hB
  go_enter Try.func99, Try.ntmps99
  go_wp2
  go_loopw [5, 12] (fun out i wr => i = .int .i64 0 ∧ out = .slice (some ⟨w.heap.size + 1, 0, none⟩) 0 0 ∧ wr = wB) (fun _ _ _ => 0)
  case atStart => exact ⟨rfl, rfl, HB.out.symm⟩
  case round =>
    obtain ⟨rfl, rfl, rfl⟩ := hrel
    clear x1
    go_wp2
    go_ret
    obtain ⟨t, ht, htl, _, hti⟩ := row_of_own (l := []) H0.out
    exact ⟨t, congrArg Ending.returned ht, htl, hti.wide (by omega) (Nat.le_refl _), HBB.out⟩

set_option maxHeartbeats 1000000 in
theorem serviceE_any (F : Fld) (s : Row) (T : List Nat) (w : World) (hF : F.At w) (hs : s.At w) (hg : F.good = true) (hT : s.l = up T) (hl : ∀ m ∈ T, m < F.o.l.length) (h : 0 < T.length ∨ F.t.R.length = 0) :
    Calls Try.prog 88 #[.agg #[.slice F.o.a F.o.l.length F.o.c, .slice F.t.a F.t.R.length F.t.c], .slice s.a s.l.length s.c] w fun e w' => e = .returned (.int .i64 (lens F.t.con T).sum) ∧ Below w.heap.size w w' := by
  rcases h with h | h
  · exact serviceFor_any F s T w hF hs ⟨hg, hT, h, hl⟩
  · have HL : Hid ((lens F.t.con T).sum = 0) := Lib.hid (by
      have : F.t.con = [] := List.eq_nil_of_length_eq_zero (by rw [con_length, h])
      rw [this]; rfl)
    rw [HL.out]
    obtain ⟨wA, hA, hbA, bx, hFA, hszA⟩ := laid_fld F w 71 hF
    have y0 : wA.cell? ⟨w.heap.size, 0, none⟩ = some (.slice F.o.a F.o.l.length F.o.c) := bx.c0
    have y1 : wA.cell? ⟨w.heap.size, 1, none⟩ = some (.slice F.t.a F.t.R.length F.t.c) := bx.c1
    have hA' : wA = w.alloc (Obj.cells #[.slice F.o.a F.o.l.length F.o.c, .slice F.t.a F.t.R.length F.t.c] 71) := hA
    rw [hA'] at y0 y1
    have HA := Lib.hid hA'
    have CT := Lib.hid (servedNone_any F s wA hFA h)
    clear hF hs hA hA' hFA bx h hg hT hl
    go_enter Try.func88, Try.ntmps88
    go_wp2_with fail
    rw [← HA.out]
    refine (show Calls _ _ _ _ _ from CT.out).mono ?_
    rintro e W2 ⟨t, rfl, htl, hti, hb2⟩
    have c3 := Lib.hid (by have := sumOf_any t W2 hti.at (by rw [htl]; simp) (by rw [htl]; simp); rw [htl] at this; exact this)
    have HTL : Hid (t.l.length = 0) := Lib.hid (by rw [htl]; rfl)
    rw [HTL.out]
    clear htl hti y0 y1
    go_wp2_with fail
    refine (show Calls _ _ _ _ _ from c3.out).mono ?_
    rintro e W3 ⟨rfl, rfl⟩
    go_wp2
    go_ret
    exact ⟨rfl, hbA.trans (hb2.mono hbA.size)⟩

set_option maxHeartbeats 1000000 in
theorem serveE_any (F : Fld) (s : Row) (T : List Nat) (w : World) (hF : F.At w) (hs : s.At w) (hg : F.good = true) (hT : s.l = up T) (hl : ∀ m ∈ T, m < F.o.l.length) (h : 0 < T.length ∨ F.t.R.length = 0) :
    Calls Try.prog 70 #[.agg #[.slice F.o.a F.o.l.length F.o.c, .slice F.t.a F.t.R.length F.t.c], .slice s.a s.l.length s.c] w fun e w' => e = .returned (.int .i64 (lens F.t.con T).sum) ∧ Below w.heap.size w w' := by
  rcases h with h | h
  · exact l2Serve_any F s T w hF hs ⟨hg, hT, h, hl⟩
  · have HL : Hid ((lens F.t.con T).sum = 0) := Lib.hid (by
      have : F.t.con = [] := List.eq_nil_of_length_eq_zero (by rw [con_length, h])
      rw [this]; rfl)
    rw [HL.out]
    obtain ⟨wA, hA, hbA, bx, hFA, hszA⟩ := laid_fld F w 71 hF
    have y1 : wA.cell? ⟨w.heap.size, 1, none⟩ = some (.slice F.t.a F.t.R.length F.t.c) := bx.c1
    have hA' : wA = w.alloc (Obj.cells #[.slice F.o.a F.o.l.length F.o.c, .slice F.t.a F.t.R.length F.t.c] 71) := hA
    rw [h] at y1 hA' ⊢
    rw [hA'] at y1
    have HA := Lib.hid hA'
    clear hF hs hA hA' hFA bx h hg hT hl
    go_enter Try.func70, Try.ntmps70
    go_wp2
    go_loopw [5, 6] (fun sv i wr => i = .int .i64 0 ∧ sv = .int .i64 0 ∧ wr = wA) (fun _ _ _ => 0)
    case atStart => exact ⟨rfl, rfl, HA.out.symm⟩
    case round =>
      obtain ⟨rfl, rfl, rfl⟩ := hrel
      rw [← HA.out] at y1
      go_wp2
      go_ret
      exact ⟨rfl, hbA⟩

end Go.Proofs.Ytifgmbljimfebaa
