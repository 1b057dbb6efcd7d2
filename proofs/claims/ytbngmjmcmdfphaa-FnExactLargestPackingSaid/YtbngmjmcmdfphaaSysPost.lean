/- The marking of Systems, as a law's walk takes it, and what an answer that is a System leaves. Condition: the memory is the call's own. -/
import Derived.Test.YtbngmjmcmdfphaaSysTab
namespace Go.Proofs.Ytbngmjmcmdfphaa
open Go.RowKit

theorem szSys_law (S : Sys) (left : Int) (w : World) (hS : S.At w) (hl0 : 0 ≤ left) (hl1 : left ≤ 1048576) :
    Calls Try.prog 7 #[.agg #[.int .i64 S.n, .slice S.f.t.a S.f.t.R.length S.f.t.c, .slice S.f.o.a S.f.o.l.length S.f.o.c], .int .i64 left] w fun e w' => (∃ r : Int, e = .returned (.int .i64 r) ∧ (0 ≤ r → r + S.f.o.l.length + S.f.t.R.length + tot S.f.t.con ≤ left) ∧ r ≤ 1048576) ∧ Below w.heap.size w w' := szSys_any S left w hS hl0 hl1
theorem toSys_law (S : Sys) (w : World) (hS : S.f.At w) (hs : S.Small) :
    Calls Try.prog 9 #[.agg #[.int .i64 S.n, .slice S.f.t.a S.f.t.R.length S.f.t.c, .slice S.f.o.a S.f.o.l.length S.f.o.c]] w fun e w' => ∃ G : Sys, e = .returned (.agg #[.int .i64 G.n, .slice G.f.t.a G.f.t.R.length G.f.t.c, .slice G.f.o.a G.f.o.l.length G.f.o.c]) ∧ G.Like S ∧ G.f.Own 3 w' ∧ G.f.In w.heap.size w'.heap.size w' ∧ Below w.heap.size w w' := toSys_any S w hS hs

/-- A System that is marked: its sets first, then its costs. -/
def Sys.Marked (lo hi k : Nat) (w : World) (S : Sys) : Prop :=
  (S.f.o.mark (k + tot S.f.t.con)).In lo hi w ∧ (S.f.o.mark (k + tot S.f.t.con)).Own 3 w ∧ S.f.t.Marked lo hi k w
theorem Sys.Marked.on {lo hi k : Nat} {w w' : World} {S : Sys} (h : S.Marked lo hi k w) (t : Below w.heap.size w w') : S.Marked lo hi k w' := ⟨h.1.on t, h.2.1.on t, h.2.2.on t⟩
theorem Sys.Marked.touch {lo hi k p q : Nat} {w w' : World} {S : Sys} (h : S.Marked lo hi k w) (t : Touch p q w w') (hn : hi ≤ p ∨ q ≤ lo) : S.Marked lo hi k w' := ⟨h.1.touch t hn, h.2.1.touch h.1 t hn, h.2.2.touch t hn⟩

theorem RowIn.cut {lo hi : Nat} {w : World} {a : Option Addr} {c : Nat} {xs : List Value} (h : RowIn lo hi w a c xs) : RowIn lo (min hi w.heap.size) w a c xs := by
  obtain ⟨a1, a2, a3⟩ := h
  refine ⟨a1, a2, ?_⟩
  rcases a3 with a3 | ⟨b, o, e, hl, hh, hb, hc⟩
  · exact .inl a3
  · exact .inr ⟨b, o, e, hl, by omega, hb, hc⟩
theorem Fld.In.cut {lo hi : Nat} {w : World} {F : Fld} (h : F.In lo hi w) : F.In lo (min hi w.heap.size) w := ⟨RowIn.cut h.1, RowIn.cut h.2.1, fun r hr => RowIn.cut (h.2.2 r hr)⟩
theorem Part.wide {lo hi lo' hi' k i : Nat} {R : List Row} {w : World} (h : Part lo hi k i R w) (h1 : lo' ≤ lo) (h2 : hi ≤ hi') : Part lo' hi' k i R w := fun j hj => ⟨(h j hj).1.wide h1 h2, (h j hj).2⟩
theorem Sys.Marked.wide {lo hi lo' hi' k : Nat} {w : World} {S : Sys} (h : S.Marked lo hi k w) (h1 : lo' ≤ lo) (h2 : hi ≤ hi') : S.Marked lo' hi' k w := ⟨h.1.wide h1 h2, h.2.1, h.2.2.1.wide h1 h2, h.2.2.2.wide h1 h2⟩

set_option maxHeartbeats 1000000 in
theorem markSys_in (S : Sys) (k : Nat) (w : World) (lo hi : Nat) (hh : hi ≤ w.heap.size) (hF : S.f.In lo hi w) (ho : S.f.Own 3 w) (hs : S.Small) (hk : k ≤ 3145728) :
    Calls Try.prog 13 #[.agg #[.int .i64 S.n, .slice S.f.t.a S.f.t.R.length S.f.t.c, .slice S.f.o.a S.f.o.l.length S.f.o.c], .int .i64 k] w fun e w' => e = .returned (.int .i64 ((k + tot S.f.t.con + S.f.o.l.length : Nat) : Int)) ∧ S.Marked lo hi k w' ∧ Touch lo hi w w' := by
  obtain ⟨n, F⟩ := S
  replace hs : F.Small := hs
  unfold Sys.Marked
  simp only at hF ho ⊢
  have hsm := hs
  unfold Fld.Small at hsm
  obtain ⟨s1, s2, s3⟩ := hs.rows
  obtain ⟨wA, hA⟩ : ∃ wA, wA = w.alloc (Obj.cells #[.int .i64 n, .slice F.t.a F.t.R.length F.t.c, .slice F.o.a F.o.l.length F.o.c] 29) := ⟨_, rfl⟩
  have hb : Below w.heap.size w wA := by rw [hA]; exact below_alloc w _
  have bx : Box3 wA w.heap.size (.int .i64 n) (.slice F.t.a F.t.R.length F.t.c) (.slice F.o.a F.o.l.length F.o.c) 29 := by rw [hA]; exact Box3.made _ _ _ _ _
  have HA := Lib.hid hA
  clear hA
  have hF' := hF.on hb
  have ho' := ho.on hb
  have hap := (List.pairwise_cons.1 ho'.1.2)
  have hTo : F.t.Own 3 wA := ⟨⟨fun r hr => ho'.1.1 r (List.mem_cons_of_mem _ hr), hap.2⟩, fun r hr => ho'.2 r (List.mem_cons_of_mem _ hr)⟩
  have C1 := Lib.hid (markTab_any F.t k wA lo hi hF'.2 hTo s2 (by omega) (by omega))
  have x1 : wA.cell? ⟨w.heap.size, 1, none⟩ = some (.slice F.t.a F.t.R.length F.t.c) := bx.c1
  have HBX := Lib.hid bx
  have HP := Lib.hid hap.1
  have HO := Lib.hid ho'
  have HI := Lib.hid hF'.1
  have C2 := Lib.hid fun (u : World) (h : F.o.In lo hi u) (h2 : F.o.Own 3 u) => markInts_any F.o (k + tot F.t.con) u lo hi h h2 s1 (by omega)
  have hki : (k : Int) ≤ 3145728 := by omega
  have hq1 : ((k + tot F.t.con : Nat) : Int) ≤ 4194304 := by omega
  have hq2 : ((k + tot F.t.con + F.o.l.length : Nat) : Int) ≤ 8388608 := by omega
  clear hF' ho' hap hTo bx hF ho hs hsm s1 s2 s3
  go_enter Try.func13, Try.ntmps13
  go_wp2_with fail
  rw [← HA.out]
  refine C1.out.mono ?_
  rintro e w1 ⟨rfl, p1, p2, p3, p4⟩
  have hapo : ∀ r ∈ F.t.R, r.Apart F.o := fun r hr => (HP.out r hr).symm
  obtain ⟨i1, o1⟩ := p4 F.o lo hi hapo HI.out
  have o2 := o1 (HO.out.1.1 _ List.mem_cons_self)
  have hbx1 := HBX.out.touch p3 (.inr hh)
  have x2 : w1.cell? ⟨w.heap.size, 2, none⟩ = some (.slice F.o.a F.o.l.length F.o.c) := hbx1.c2
  have CC := Lib.hid (C2.out w1 i1 o2)
  have HP1 := Lib.hid p1
  have HP2 := Lib.hid p2
  have HP3 := Lib.hid p3
  have HI1 := Lib.hid i1
  have HAO := Lib.hid hapo
  clear p1 p2 p3 p4 i1 o1 o2 hbx1 hapo
  go_wp2_with fail
  refine CC.out.mono ?_
  rintro e w2 ⟨rfl, m1, m2, m3⟩
  have t2 := m3.touch HI1.out
  have HX : Hid (Part lo hi k F.t.R.length F.t.R w2) := Lib.hid fun j hj => by
    obtain ⟨a1, a2⟩ := HP1.out j hj
    rw [if_pos hj] at a1 a2 ⊢
    have hap : F.o.Apart (F.t.R[j].mark (k + tot ((F.t.R.map Row.l).take j))) := ((HAO.out _ (List.getElem_mem hj)).mark_left _).symm
    exact ⟨a1.wrote m3 hap, a2.wrote a1 m3 hap⟩
  have HY : Hid (RowIn lo hi w2 F.t.a F.t.c (tv F.t.R)) := Lib.hid (RowIn.wrote HP2.out m3 fun x y h1 h2 e1 e2 => HO.out.2 F.o List.mem_cons_self x y h1 (fun h => h2 (by rw [h]; rfl)) e1 e2)
  have HT := Lib.hid (((Touch.of_below (lo := lo) (hi := hi) hb).trans HP3.out).trans t2)
  have M1 := Lib.hid m1
  have M2 := Lib.hid m2
  clear m1 m2 m3 t2
  go_wp2
  go_ret
  exact ⟨rfl, ⟨M1.out, M2.out, HX.out, HY.out⟩, HT.out⟩

theorem markSys_law (S : Sys) (k q : Nat) (w : World) (lo hi : Nat) (hF : S.f.In lo hi w) (ho : S.f.Own 3 w) (hs : S.Small) (hk : k ≤ 3145728) (hq : q = k + tot S.f.t.con + S.f.o.l.length) :
    Calls Try.prog 13 #[.agg #[.int .i64 S.n, .slice S.f.t.a S.f.t.R.length S.f.t.c, .slice S.f.o.a S.f.o.l.length S.f.o.c], .int .i64 k] w fun e w' => e = .returned (.int .i64 (q : Int)) ∧ S.Marked lo hi k w' ∧ Touch lo hi w w' := by
  subst hq
  exact (markSys_in S k w lo (min hi w.heap.size) (Nat.min_le_right _ _) hF.cut ho hs hk).mono fun e w' ⟨h1, h2, h3⟩ => ⟨h1, h2.wide (Nat.le_refl _) (Nat.min_le_left _ _), h3.wide (Nat.le_refl _) (Nat.min_le_left _ _)⟩

/-- A struct variable that has been laid. -/
def boxed3 (w : World) (x y z : Value) : World := w.alloc (Obj.cells #[x, y, z] 29)
theorem boxed3_box (w : World) (x y z : Value) : Box3 (boxed3 w x y z) w.heap.size x y z 29 := Box3.made w _ _ _ _
theorem boxed3_below (w : World) (x y z : Value) : Below w.heap.size w (boxed3 w x y z) := below_alloc w _
theorem boxed3_size (w : World) (x y z : Value) : (boxed3 w x y z).heap.size = w.heap.size + 1 := size_alloc w _
/-- The cells of two boxes, and that all old blocks stand. -/
theorem box3_cells {W : World} {g g' : Nat} {x y z x' y' z' : Value} {t t' : TypeId} (h : Box3 W g x y z t) (h' : Box3 W g' x' y' z' t') (u : World) (hu : Below W.heap.size W u) :
    (u.cell? ⟨g, 0, none⟩ = some x ∧ u.cell? ⟨g, 1, none⟩ = some y ∧ u.cell? ⟨g, 2, none⟩ = some z ∧ u.cell? ⟨g', 0, none⟩ = some x' ∧ u.cell? ⟨g', 1, none⟩ = some y' ∧ u.cell? ⟨g', 2, none⟩ = some z') ∧ Below W.heap.size W u :=
  ⟨⟨(h.on hu).c0, (h.on hu).c1, (h.on hu).c2, (h'.on hu).c0, (h'.on hu).c1, (h'.on hu).c2⟩, hu⟩

def PSys (K : Sys) (b : Bool) (W : World) (e : Ending) (w' : World) : Prop :=
  ∃ G : Sys, e = .returned (.tuple #[.agg #[.int .i64 G.n, .slice G.f.t.a G.f.t.R.length G.f.t.c, .slice G.f.o.a G.f.o.l.length G.f.o.c], .bool b]) ∧ G.Like K ∧ G.f.Own 3 w' ∧ G.f.In W.heap.size w'.heap.size w' ∧ Below W.heap.size W w'

end Go.Proofs.Ytbngmjmcmdfphaa
