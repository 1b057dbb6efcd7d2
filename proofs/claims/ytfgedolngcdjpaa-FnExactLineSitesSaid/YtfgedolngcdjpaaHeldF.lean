/- The contract of the laws' reading back of the marks of a Field. Condition: it is marked. -/
import Derived.Test.YtfgedolngcdjpaaMarkF
namespace Go.Proofs.Ytfgedolngcdjpaa
open Go.RowKit

set_option maxHeartbeats 1000000 in
theorem heldFld_any (F : Fld) (k : Nat) (w : World) (lo hi : Nat) (hF : F.Marked lo hi k w) (hs : F.Small) (hk : k ≤ 3145728) :
    Calls Try.prog 24 #[F.val, .int .i64 k] w fun e w' => e = .returned (.int .i64 ((k + F.o.l.length + tot F.t.con : Nat) : Int)) ∧ Below w.heap.size w w' := by
  have hsm := hs
  unfold Fld.Small at hsm
  obtain ⟨s1, s2, s3⟩ := hs.rows
  have hb := below_alloc w (Obj.cells #[F.o.val, F.t.val] 37)
  obtain ⟨wA, hA⟩ : ∃ wA, wA = w.alloc (Obj.cells #[F.o.val, F.t.val] 37) := ⟨_, rfl⟩
  have bx : Box2 wA w.heap.size F.o.val F.t.val 37 := by rw [hA]; exact Box2.made _ _ _ _
  have HA := Lib.hid hA
  rw [← hA] at hb
  clear hA
  have hF' := hF.on hb
  have c1 := heldInts_any F.o k wA hF'.1.at s1 (by omega)
  have C2 := Lib.hid fun d => heldTab_any F.t (k + F.o.l.length) (wA.drewN d) lo hi (hF'.2.2.on (below_draws wA d)) (hF'.2.1.on (below_draws wA d)).at s2 (by omega) (by omega)
  show Calls _ _ #[.agg #[.slice F.o.a F.o.l.length F.o.c, .slice F.t.a F.t.R.length F.t.c], .int .i64 k] w _
  have hki : (k : Int) ≤ 3145728 := by omega
  have x1 : wA.cell? ⟨w.heap.size, 1, none⟩ = some (.slice F.t.a F.t.R.length F.t.c) := bx.c1
  have H1 := Lib.hid c1
  have hq0 : ¬ ((k + F.o.l.length : Nat) : Int) < 0 := by omega
  have hq1 : ¬ ((k + F.o.l.length + tot F.t.con : Nat) : Int) < 0 := by omega
  clear c1 bx hF hF'
  obtain ⟨q, hq⟩ : ∃ q : Nat, q = k + F.o.l.length := ⟨_, rfl⟩
  rw [← hq] at hq0 hq1 H1 C2 ⊢
  have hqi : (q : Int) ≤ 4194304 := by omega
  have HQ := Lib.hid hq
  clear hq
  obtain ⟨q2, hq2⟩ : ∃ q2 : Nat, q2 = q + tot F.t.con := ⟨_, rfl⟩
  rw [← hq2] at hq1 C2 ⊢
  clear hq2
  go_enter Try.func24, Try.ntmps24
  go_wp2_with fail
  rw [show w.alloc (Obj.cells #[Value.slice F.o.a F.o.l.length F.o.c, Value.slice F.t.a F.t.R.length F.t.c] 37) = wA from HA.out.symm]
  refine H1.out.mono ?_
  rintro e w1 ⟨rfl, d, rfl⟩
  go_wp2_with fail
  refine (C2.out d).mono ?_
  rintro e w2 ⟨rfl, d', rfl⟩
  go_wp2
  go_ret
  exact ⟨rfl, hb.trans ((below_draws _ _).mono hb.size)⟩

end Go.Proofs.Ytfgedolngcdjpaa
