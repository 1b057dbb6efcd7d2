/- Both sides of IsSystem answer alike. Condition: the System reads as such. -/
import Derived.Test.YtffjlecibpmgiaaSysGood
namespace Go.Proofs.Ytffjlecibpmgiaa
open Go.RowKit
theorem specIsSystem_any (S : Sys) (w : World) (hS : S.At w) :
    Calls Try.prog 14 #[.agg #[.int .i64 S.n, .slice S.f.t.a S.f.t.R.length S.f.t.c, .slice S.f.o.a S.f.o.l.length S.f.o.c]] w fun e w' => e = .returned (.bool S.good) ∧ Below w.heap.size w w' := by
  obtain ⟨wA, hA, hb, bx, hSA, _⟩ := laid_sys S w 28 hS
  have CG := Lib.hid (l6Good_any S wA hSA)
  have HA := Lib.hid hA
  have x0 := bx.c0
  have x1 := bx.c1
  have x2 := bx.c2
  rw [hA] at x0 x1 x2
  clear hS bx hSA hA
  go_enter Try.func14, Try.ntmps14
  go_wp2_with fail
  rw [← HA.out]
  refine (show Calls _ _ _ _ _ from CG.out).mono ?_
  rintro e W ⟨rfl, hb2⟩
  go_wp2
  go_ret
  exact ⟨rfl, hb.trans (hb2.mono hb.size)⟩

theorem isSystem_pair (S : Sys) (_ : S.Small) : ∃ v : Bool,
    (∀ (G : Sys) (W : World), G.At W → G.Like S → Calls Try.prog 14 #[.agg #[.int .i64 G.n, .slice G.f.t.a G.f.t.R.length G.f.t.c, .slice G.f.o.a G.f.o.l.length G.f.o.c]] W (PBool v W)) ∧
    (∀ (G : Sys) (W : World), G.At W → G.Like S → Calls Try.prog 16 #[.agg #[.int .i64 G.n, .slice G.f.t.a G.f.t.R.length G.f.t.c, .slice G.f.o.a G.f.o.l.length G.f.o.c]] W (PBool v W)) :=
  ⟨S.good, fun G W h hl => by have := specIsSystem_any G W h; rw [hl.good] at this; exact this, fun G W h hl => by have := implIsSystem_any G W h; rw [hl.good] at this; exact this⟩
end Go.Proofs.Ytffjlecibpmgiaa
