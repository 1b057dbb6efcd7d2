/- Both sides of IsSeason answer alike. Condition: the Season reads as such. -/
import Derived.Test.YtnkigfopejbcpaaSeaGood
import Derived.Test.YtnkigfopejbcpaaSeaPost
namespace Go.Proofs.Ytnkigfopejbcpaa
open Go.RowKit
theorem specIsSeason_any (S : Sea) (w : World) (hS : S.At w) :
    Calls Try.prog 9 #[.agg #[.slice S.o.a S.o.l.length S.o.c, .slice S.x.a S.x.l.length S.x.c, .slice S.k.a S.k.l.length S.k.c, .slice S.r.a S.r.T.length S.r.c]] w fun e w' => e = .returned (.bool S.good) ∧ Below w.heap.size w w' := by
  obtain ⟨wA, hA, hb, bx, hSA, _⟩ := laid_sea S w 28 hS
  have CG := Lib.hid (l10Good_any S wA hSA)
  have HA := Lib.hid hA
  have x0 := bx.c0
  have x1 := bx.c1
  have x2 := bx.c2
  have x3 := bx.c3
  rw [hA] at x0 x1 x2 x3
  clear hS bx hSA hA
  go_enter Try.func9, Try.ntmps9
  go_wp2_with fail
  rw [← HA.out]
  refine (show Calls _ _ _ _ _ from CG.out).mono ?_
  rintro e W ⟨rfl, hb2⟩
  go_wp2
  go_ret
  exact ⟨rfl, hb.trans (hb2.mono hb.size)⟩

theorem isSeason_pair (S : Sea) (_ : S.Small) : ∃ v : Bool,
    (∀ (G : Sea) (W : World), G.At W → G.Like S → Calls Try.prog 9 #[.agg #[.slice G.o.a G.o.l.length G.o.c, .slice G.x.a G.x.l.length G.x.c, .slice G.k.a G.k.l.length G.k.c, .slice G.r.a G.r.T.length G.r.c]] W (PBool v W)) ∧
    (∀ (G : Sea) (W : World), G.At W → G.Like S → Calls Try.prog 11 #[.agg #[.slice G.o.a G.o.l.length G.o.c, .slice G.x.a G.x.l.length G.x.c, .slice G.k.a G.k.l.length G.k.c, .slice G.r.a G.r.T.length G.r.c]] W (PBool v W)) :=
  ⟨S.good, fun G W h hl => by have := specIsSeason_any G W h; rw [hl.good] at this; exact this, fun G W h hl => by have := implIsSeason_any G W h; rw [hl.good] at this; exact this⟩
end Go.Proofs.Ytnkigfopejbcpaa
