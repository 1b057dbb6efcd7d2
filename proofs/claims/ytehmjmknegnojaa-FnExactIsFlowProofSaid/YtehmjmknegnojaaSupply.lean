/- Supplies in memory (a Field, rooms, needs and a set: five cells), and the contract of the test whether one is valid. Condition: they read as such. -/
import Derived.Test.YtehmjmknegnojaaPlainFlowP
import Derived.Test.YtehmjmknegnojaaPost
namespace Go.Proofs.Ytehmjmknegnojaa
open Go.RowKit

/-- A struct of some cells in a block of its own. -/
def Boxed (w : World) (g : Nat) (cs : Array Value) (t : TypeId) : Prop := w.heap[g]? = some (Obj.cells cs t)
theorem Boxed.lt {w : World} {g : Nat} {cs : Array Value} {t : TypeId} (h : Boxed w g cs t) : g < w.heap.size := (Array.getElem?_eq_some_iff.1 h).1
theorem Boxed.cell {w : World} {g : Nat} {cs : Array Value} {t : TypeId} (h : Boxed w g cs t) (k : Nat) {x : Value} (hx : cs[k]? = some x) : w.cell? ⟨g, k, none⟩ = some x := by unfold World.cell?; simp only [show w.heap[g]? = some (Obj.cells cs t) from h]; exact hx
theorem Boxed.on {w w' : World} {g : Nat} {cs : Array Value} {t : TypeId} (h : Boxed w g cs t) (b : Below w.heap.size w w') : Boxed w' g cs t := (b.block g h.lt).trans h
theorem Boxed.made (w : World) (cs : Array Value) (t : TypeId) : Boxed (w.alloc (Obj.cells cs t)) w.heap.size cs t := by
  show (w.heap.push (Obj.cells cs t))[w.heap.size]? = _
  simp
/-- A struct that has been laid as a function's own variable. -/
theorem laid_box (cs : Array Value) (w : World) (t : TypeId) : ∃ wA, wA = w.alloc (Obj.cells cs t) ∧ Below w.heap.size w wA ∧ Boxed wA w.heap.size cs t ∧ wA.heap.size = w.heap.size + 1 :=
  ⟨_, rfl, below_alloc _ _, Boxed.made _ _ _, size_alloc _ _⟩

/-- A valid supply. -/
def givenB (F : Fld) (r n : List Int) (s : Row) : Bool := twoB F s && needsB F r n

set_option maxHeartbeats 1000000 in
theorem valid_any (F : Fld) (r n s : Row) (w : World) (hF : F.At w) (hr : r.At w) (hn : n.At w) (hs : s.At w) :
    Calls Try.prog 45 #[.agg #[.slice F.o.a F.o.l.length F.o.c, .slice F.t.a F.t.R.length F.t.c, .slice r.a r.l.length r.c, .slice n.a n.l.length n.c, .slice s.a s.l.length s.c]] w fun e w' => e = .returned (.bool (givenB F r.l n.l s)) ∧ Below w.heap.size w w' := by
  obtain ⟨wA, hA, hbA, bx, _⟩ := laid_box #[.slice F.o.a F.o.l.length F.o.c, .slice F.t.a F.t.R.length F.t.c, .slice r.a r.l.length r.c, .slice n.a n.l.length n.c, .slice s.a s.l.length s.c] w 59
  have c0 := bx.cell 0 rfl
  have c1 := bx.cell 1 rfl
  have c2 := bx.cell 2 rfl
  have c3 := bx.cell 3 rfl
  have c4 := bx.cell 4 rfl
  have HBX := Lib.hid bx
  have HA := Lib.hid hA
  rw [hA] at c0 c1 c2 c3 c4
  obtain ⟨u, hu⟩ : ∃ u, u = twoB F s := ⟨_, rfl⟩
  obtain ⟨v, hv⟩ : ∃ v, v = needsB F r.l n.l := ⟨_, rfl⟩
  have ct := canServe_any F s wA (hF.on hbA) (hs.on hbA)
  rw [← hu] at ct
  have CT := Lib.hid ct
  have CN := Lib.hid (fun W (h : Below wA.heap.size wA W) => by have := areRooms_any F r n W ((hF.on hbA).on h) ((hr.on hbA).on h) ((hn.on hbA).on h); rw [← hv] at this; exact this : ∀ W, Below wA.heap.size wA W → Calls Try.prog 42 #[F.val, .slice r.a r.l.length r.c, .slice n.a n.l.length n.c] W fun e w' => e = .returned (.bool v) ∧ Below W.heap.size W w')
  have HE : Hid (givenB F r.l n.l s = (u && v)) := Lib.hid (by rw [hu, hv]; rfl)
  clear hF hr hn hs bx hA hu hv ct
  go_enter Try.func45, Try.ntmps45
  go_wp2_with fail
  rw [show w.alloc (Obj.cells #[.slice F.o.a F.o.l.length F.o.c, .slice F.t.a F.t.R.length F.t.c, .slice r.a r.l.length r.c, .slice n.a n.l.length n.c, .slice s.a s.l.length s.c] 59) = wA from HA.out.symm]
  clear c0 c1 c2 c3 c4
  refine (show Calls _ _ _ _ _ from CT.out).mono ?_
  rintro e W1 ⟨rfl, hb1⟩
  have hbw := hbA.trans (hb1.mono hbA.size)
  cases u with
  | false =>
    go_wp2
    go_ret
    exact ⟨by rw [HE.out]; rfl, hbw⟩
  | true =>
    have y0 := (HBX.out.on hb1).cell 0 rfl
    have y1 := (HBX.out.on hb1).cell 1 rfl
    have y2 := (HBX.out.on hb1).cell 2 rfl
    have y3 := (HBX.out.on hb1).cell 3 rfl
    have CN1 := Lib.hid (CN.out W1 hb1)
    clear hb1
    go_wp2_with fail
    refine (show Calls _ _ _ _ _ from CN1.out).mono ?_
    rintro e W2 ⟨rfl, hb2⟩
    go_wp2
    go_ret
    exact ⟨by rw [HE.out]; rfl, hbw.trans (hb2.mono hbw.size)⟩
end Go.Proofs.Ytehmjmknegnojaa
