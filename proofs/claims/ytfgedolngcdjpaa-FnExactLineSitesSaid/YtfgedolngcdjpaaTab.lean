/- The contracts of the laws' helpers on tables and Fields: their copy and their comparison. Condition: they read as such. -/
import Derived.Test.YtfgedolngcdjpaaInts
namespace Go.Proofs.Ytfgedolngcdjpaa
open Go.RowKit

set_option maxHeartbeats 600000 in
/-- The comparison of two tables that are the same. -/
theorem eqTab_same (T S : Tab) (w : World) (hT : T.At w) (hS : S.At w) (he : T.con = S.con) (hn : T.R.length ≤ 1048576) (hm : ∀ r ∈ T.R, r.l.length ≤ 1048576) :
    Calls Try.prog 10 #[T.val, S.val] w fun e w' => e = .returned (.bool true) ∧ ∃ k, w' = w.drewN k := by
  obtain ⟨a, c, R⟩ := T
  obtain ⟨a', c', R'⟩ := S
  have hlen : R.length = R'.length := by have := congrArg List.length he; simpa [Tab.con] using this
  obtain ⟨⟨h1, h2, h3⟩, hrows⟩ := hT
  obtain ⟨⟨h1', h2', h3'⟩, hrows'⟩ := hS
  simp only at h3 h3' hrows hrows' hn hm
  have hni : (R.length : Int) ≤ 1048576 := by omega
  have HC : Hid (∀ k (h : k < R.length) (h' : k < R'.length), R[k].l = R'[k].l) := Lib.hid fun k h h' => by
    have h0 : (R.map Row.l)[k]? = (R'.map Row.l)[k]? := congrArg (fun l => l[k]?) he
    simpa [List.getElem?_map, h, h'] using h0
  have HR := Lib.hid h3
  have HR' := Lib.hid h3'
  have HW := Lib.hid hrows
  have HW' := Lib.hid hrows'
  have HM := Lib.hid hm
  have HLEN := Lib.hid hlen
  clear h1 h1' h2 h2' h3 h3' hrows hrows' hm he
  show Calls _ _ #[.slice a R.length c, .slice a' R'.length c'] w _
  rw [← hlen]
  clear hlen
  go_enter Try.func10, Try.ntmps10
  go_wp2
  go_loopw [5] (fun i wr => ∃ k : Nat, k ≤ R.length ∧ i = .int .i64 k ∧ DrewTo w wr) (fun i _ => R.length - (intOf i).toNat)
  case atStart => exact ⟨0, Nat.zero_le _, rfl, DrewTo.refl _⟩
  case round =>
    obtain ⟨k, hk, rfl, hdw⟩ := hrel
    by_cases hlt : k < R.length
    · rcases HR.out with h3 | ⟨b, o, rfl, hb, hcell⟩
      · have h3' := congrArg List.length h3; rw [tv_length, List.length_nil] at h3'; omega
      rcases HR'.out with h3 | ⟨b', o', rfl, hb', hcell'⟩
      · have h3' := congrArg List.length h3; rw [tv_length, List.length_nil, ← HLEN.out] at h3'; omega
      have hlt' : k < R'.length := by rw [← HLEN.out]; exact hlt
      obtain ⟨x, hx⟩ : ∃ x, x = R[k] := ⟨_, rfl⟩
      obtain ⟨y, hy⟩ : ∃ y, y = R'[k] := ⟨_, rfl⟩
      have hcl : wr.cell? ⟨b, o + k, none⟩ = some (.slice x.a x.l.length x.c) := by rw [hdw.cell, hx]; exact hcell k _ (tv_at hlt)
      have hcl' : wr.cell? ⟨b', o' + k, none⟩ = some (.slice y.a y.l.length y.c) := by rw [hdw.cell, hy]; exact hcell' k _ (tv_at hlt')
      have hxe : x.l = y.l := by rw [hx, hy]; exact HC.out k hlt hlt'
      have hxa : x.At w := HW.out x (by rw [hx]; exact List.getElem_mem hlt)
      have hya : y.At w := HW'.out y (by rw [hy]; exact List.getElem_mem hlt')
      have hxm : x.l.length ≤ 1048576 := HM.out x (by rw [hx]; exact List.getElem_mem hlt)
      have ce := Lib.hid fun n => eqInts_same x y (wr.drewN n) (hxa.on (hdw.more n).below) (hya.on (hdw.more n).below) hxe hxm
      have hlti : (k : Int) < (R.length : Int) := by omega
      clear hx hy hcell hcell' hxe hxa hya hxm hlt'
      go_wp2
      go_quiet ((go_at_call 11; exact Calls.quiet_of (ce.out _)))
      go_wp2
      go_roundw
      case rel => exact ⟨k + 1, by omega, by go_num, hdw.more _⟩
      case measure => simp [intOf]; omega
    · obtain rfl : k = R.length := by omega
      go_wp2
      go_ret
      exact ⟨rfl, hdw⟩

/-- Small enough to be marked. -/
def Fld.Small (F : Fld) : Prop := F.o.l.length + F.t.R.length + tot F.t.con ≤ 1048576
theorem tot_mem {R : List Row} {r : Row} (h : r ∈ R) : r.l.length ≤ tot (R.map Row.l) := by
  induction R with
  | nil => cases h
  | cons s R ih =>
    have e : tot ((s :: R).map Row.l) = s.l.length + tot (R.map Row.l) := by simp [tot]
    rcases List.mem_cons.1 h with h | h
    · subst h; omega
    · have := ih h; omega
theorem Fld.Small.rows {F : Fld} (h : F.Small) : F.o.l.length ≤ 1048576 ∧ F.t.R.length ≤ 1048576 ∧ ∀ r ∈ F.t.R, r.l.length ≤ 1048576 := by
  unfold Fld.Small at h
  refine ⟨by omega, by omega, fun r hr => ?_⟩
  have := tot_mem hr
  have e : tot F.t.con = tot (F.t.R.map Row.l) := rfl
  omega
theorem Fld.Small.like {F G : Fld} (h : F.Small) (hl : F.Like G) : G.Small := by
  unfold Fld.Small at h ⊢
  have := congrArg List.length hl.2
  simp only [Tab.con, List.length_map] at this
  rw [← hl.1, ← hl.2, ← this]; exact h
theorem Fld.Like.symm {F G : Fld} (h : F.Like G) : G.Like F := ⟨h.1.symm, h.2.symm⟩
theorem Fld.Like.trans {F G K : Fld} (h : F.Like G) (k : G.Like K) : F.Like K := ⟨h.1.trans k.1, h.2.trans k.2⟩

set_option maxHeartbeats 600000 in
/-- The comparison of two Fields that are the same. -/
theorem eqFld_same (F G : Fld) (w : World) (hF : F.At w) (hG : G.At w) (he : F.Like G) (hs : F.Small) :
    Calls Try.prog 22 #[F.val, G.val] w fun e w' => e = .returned (.bool true) ∧ Below w.heap.size w w' := by
  obtain ⟨s1, s2, s3⟩ := hs.rows
  obtain ⟨wA, hA⟩ : ∃ wA, wA = (w.alloc (Obj.cells #[F.o.val, F.t.val] 37)).alloc (Obj.cells #[G.o.val, G.t.val] 37) := ⟨_, rfl⟩
  have hbA : Below w.heap.size w wA := by rw [hA]; exact ((Below.refl _ _).alloc (Nat.le_refl _) _).alloc (by rw [size_alloc]; omega) _
  have b0 : Box2 wA w.heap.size F.o.val F.t.val 37 := by rw [hA]; exact (Box2.made w _ _ _).later _
  have b1 : Box2 wA (w.heap.size + 1) G.o.val G.t.val 37 := by rw [hA]; have := Box2.made (w.alloc (Obj.cells #[F.o.val, F.t.val] 37)) G.o.val G.t.val 37; rw [size_alloc] at this; exact this
  have c1 := Lib.hid (eqInts_same F.o G.o wA (hF.1.on hbA) (hG.1.on hbA) he.1 s1)
  have C2 := Lib.hid fun d => eqTab_same F.t G.t (wA.drewN d) ((hF.2.on hbA).on (below_draws wA d)) ((hG.2.on hbA).on (below_draws wA d)) he.2 s2 s3
  have HA := Lib.hid hA
  have x0 := b0.c1
  have x1 := b1.c1
  clear hF hG he hs s1 s2 s3 hA b0 b1
  show Calls _ _ #[.agg #[F.o.val, F.t.val], .agg #[G.o.val, G.t.val]] w _
  go_enter Try.func22, Try.ntmps22
  go_wp2_with fail
  rw [← HA.out]
  refine c1.out.mono ?_
  rintro e w1 ⟨rfl, d, rfl⟩
  go_wp2_with fail
  refine (C2.out d).mono ?_
  rintro e w2 ⟨rfl, d', rfl⟩
  go_wp2
  go_ret
  exact ⟨rfl, hbA.trans ((below_draws _ _).mono hbA.size)⟩

end Go.Proofs.Ytfgedolngcdjpaa
