/- The contracts of the laws' marking of Fields. Condition: the memory is the call's own, the numbers are small. -/
import Derived.Test.YtemflcegkebloaaMarkI
namespace Go.Proofs.Ytemflcegkebloaa
open Go.RowKit

/-- A Field that is marked from k on. -/
def Fld.Marked (lo hi k : Nat) (w : World) (F : Fld) : Prop :=
  (F.o.mark k).In lo hi w ∧ Part lo hi (k + F.o.l.length) F.t.R.length F.t.R w ∧ RowIn lo hi w F.t.a F.t.c (tv F.t.R)
theorem Part.touch {lo hi k i p q : Nat} {R : List Row} {w w' : World} (h : Part lo hi k i R w) (t : Touch p q w w') (hn : hi ≤ p ∨ q ≤ lo) : Part lo hi k i R w' :=
  fun j hj => ⟨(h j hj).1.touch t hn, (h j hj).2.touch (h j hj).1 t hn⟩
theorem Part.on {lo hi k i : Nat} {R : List Row} {w w' : World} (h : Part lo hi k i R w) (t : Below w.heap.size w w') : Part lo hi k i R w' :=
  fun j hj => ⟨(h j hj).1.on t, (h j hj).2.on t⟩
theorem Part.at {lo hi k : Nat} {R : List Row} {w : World} (h : Part lo hi k R.length R w) : ∀ j (hj : j < R.length), (R[j].mark (k + tot ((R.map Row.l).take j))).At w := fun j hj => by
  have := (h j hj).1; rw [if_pos hj] at this; exact this.at
theorem Fld.Marked.on {lo hi k : Nat} {w w' : World} {F : Fld} (h : F.Marked lo hi k w) (t : Below w.heap.size w w') : F.Marked lo hi k w' := ⟨h.1.on t, h.2.1.on t, h.2.2.on t⟩
theorem Fld.Marked.touch {lo hi k p q : Nat} {w w' : World} {F : Fld} (h : F.Marked lo hi k w) (t : Touch p q w w') (hn : hi ≤ p ∨ q ≤ lo) : F.Marked lo hi k w' := ⟨h.1.touch t hn, h.2.1.touch t hn, h.2.2.touch t hn⟩

set_option maxHeartbeats 1000000 in
theorem markFld_any (F : Fld) (k : Nat) (w : World) (lo hi : Nat) (hF : F.In lo hi w) (ho : F.Own 3 w) (hs : F.Small) (hk : k ≤ 3145728) :
    Calls Try.prog 12 #[F.val, .int .i64 k] w fun e w' => e = .returned (.int .i64 ((k + F.o.l.length + tot F.t.con : Nat) : Int)) ∧ F.Marked lo hi k w' ∧ Touch lo hi w w' := by
  have hsm := hs
  unfold Fld.Small at hsm
  obtain ⟨s1, s2, s3⟩ := hs.rows
  have hb := below_alloc w (Obj.cells #[F.o.val, F.t.val] 29)
  obtain ⟨wA, hA⟩ : ∃ wA, wA = w.alloc (Obj.cells #[F.o.val, F.t.val] 29) := ⟨_, rfl⟩
  have bx : Box2 wA w.heap.size F.o.val F.t.val 29 := by rw [hA]; exact Box2.made _ _ _ _
  have HA := Lib.hid hA
  rw [← hA] at hb
  clear hA
  have ho' := ho.on hb
  have hF' := hF.on hb
  have hFa := (hF.at.in).on hb
  have hap := (List.pairwise_cons.1 ho'.1.2)
  have c1 := markInts_any F.o k wA lo hi hF'.1 (ho'.1.1 _ List.mem_cons_self) s1 (by omega)
  show Calls _ _ #[.agg #[.slice F.o.a F.o.l.length F.o.c, .slice F.t.a F.t.R.length F.t.c], .int .i64 k] w _
  have hki : (k : Int) ≤ 3145728 := by omega
  have H1 := Lib.hid c1
  have HBX := Lib.hid bx
  have HP := Lib.hid hap
  have HO := Lib.hid ho'
  have HF := Lib.hid hF'
  have HFA := Lib.hid hFa
  clear c1 bx hap ho' hF' hFa ho hF
  go_enter Try.func12, Try.ntmps12
  go_wp2_with fail
  rw [show w.alloc (Obj.cells #[Value.slice F.o.a F.o.l.length F.o.c, Value.slice F.t.a F.t.R.length F.t.c] 29) = wA from HA.out.symm]
  refine H1.out.mono ?_
  rintro e w1 ⟨rfl, m1, m2, m3⟩
  have t0 := m3.touch HFA.out.1
  have t1 := m3.touch HF.out.1
  have hbx1 : Box2 w1 w.heap.size F.o.val F.t.val 29 := (t0.block w.heap.size HBX.out.lt (by omega)).trans HBX.out
  have x1 : w1.cell? ⟨w.heap.size, 1, none⟩ = some (.slice F.t.a F.t.R.length F.t.c) := hbx1.c1
  have hTi : F.t.In lo hi w1 := ⟨RowIn.wrote HF.out.2.1 m3 fun x y h1 h2 e1 e2 => HO.out.2 F.o List.mem_cons_self x y h1 (fun h => h2 (by rw [h]; rfl)) e1 e2, fun r hr => (HF.out.2.2 r hr).wrote m3 (HP.out.1 r hr)⟩
  have hTo : F.t.Own 3 w1 := ⟨⟨fun r hr => (HO.out.1.1 r (List.mem_cons_of_mem _ hr)).wrote (HF.out.2.2 r hr) m3 (HP.out.1 r hr), HP.out.2⟩, fun r hr => HO.out.2 r (List.mem_cons_of_mem _ hr)⟩
  have hapm : ∀ r ∈ F.t.R, r.Apart (F.o.mark k) := fun r hr => ((HP.out.1 r hr).mark_left k).symm
  have c2 := markTab_any F.t (k + F.o.l.length) w1 lo hi hTi hTo s2 (by omega) (by omega)
  have H2 := Lib.hid c2
  have HM := Lib.hid m1
  have HAP := Lib.hid hapm
  have hq : ((k + F.o.l.length : Nat) : Int) ≤ 4194304 := by omega
  have tt := (Touch.of_below (lo := lo) (hi := hi) hb).trans t1
  clear t0 hbx1 hTi hTo hapm c2 m1 m2 m3 t1
  go_wp2_with fail
  refine (show Calls _ _ #[.slice F.t.a F.t.R.length F.t.c, .int .i64 ((k + F.o.l.length : Nat) : Int)] _ _ from H2.out).mono ?_
  rintro e w2 ⟨rfl, p1, p2, p3, p4⟩
  go_wp2
  go_ret
  exact ⟨rfl, ⟨(p4 _ _ _ HAP.out HM.out).1, p1, p2⟩, tt.trans p3⟩

end Go.Proofs.Ytemflcegkebloaa
