/- The iterator of all choices of at most so many sets: it hands them, in order, each in memory of its own. Condition: at most eight sets. -/
import Derived.Test.YtbochmpkjacnnaaEigSiteSeq
namespace Go.Proofs.Ytbochmpkjacnnaa
open Go.RowKit Go.Shelf
attribute [local go_sem] Oper.semAt_some

theorem yield_wide {n m : Nat} {P : Program} {l : Nat} {args : Array Value} {W : World} {R : Ending → World → Prop} (h : YieldAt Fence.wide n P l args W R) : YieldAt Fence.wide m P l args W R := by
  obtain ⟨fn, tmps, asg, bd, h1, h2⟩ := h
  exact ⟨fn, tmps, asg, bd, h1, trivial, fun c cs _ => h2.2 c cs (room_wide _)⟩

/-- All choices of at most M of N sets, in order. -/
def choL (N M : Nat) : List (List Nat) := [] :: E8.preS N M

set_option maxHeartbeats 1000000 in
theorem setsUpTo2_any (n k : Nat) (w : World) :
    Calls Try.prog 92 #[.int .i64 n, .int .i64 k] w fun e w' => ∃ Bk Bs, e = .returned (.func (.func 109) #[] #[.pointer (some ⟨Bk, 0, none⟩), .pointer (some ⟨Bs, 0, none⟩)]) ∧ Hid (w'.cell? ⟨Bk, 0, none⟩ = some (.int .i64 k)) ∧ Hid (w'.cell? ⟨Bs, 0, none⟩ = some (.int .i64 n)) ∧ Hid (w.heap.size ≤ Bs) ∧ Below w.heap.size w w' := by
  have HB := Lib.hid ((below_alloc w (.cells #[.int .i64 n] 3)).alloc (by simp) (.cells #[.int .i64 k] 3))
  have H0 := Lib.hid ((Boxed.new w 3 (.int .i64 n)).alloc (.cells #[.int .i64 k] 3)).cell
  have H1 := Lib.hid (Boxed.new (w.alloc (.cells #[.int .i64 n] 3)) 3 (.int .i64 k)).cell
  go_enter Try.func92, Try.ntmps92
  go_wp2
  go_ret
  exact ⟨_, w.heap.size, rfl, Lib.hid (by have := H1.out; simp only [World.size_alloc] at this; exact this), Lib.hid H0.out, Lib.hid (Nat.le_refl _), HB.out⟩

end Go.Proofs.Ytbochmpkjacnnaa
