/- The contracts of totals and reaches, on both sides. Condition: Field and set read as such. -/
import Derived.Test.YtemflcegkebloaaPairServiceOf
import Derived.Test.YtemflcegkebloaaPairPaymentOf
import Derived.IntWalk
namespace Go.Proofs.Ytemflcegkebloaa
open Go.RowKit

/-- What TotalOf answers. -/
def Totals (F : Fld) (s : Row) (v : Int) (b : Bool) : Prop :=
  (twoB F s = false ∧ v = 0 ∧ b = false) ∨ (∃ T, Fine F s T ∧ Able F s T ∧ twoB F s = true ∧ v = (lens F.t.con T).sum + (pays F.o.l T).sum ∧ b = true)
theorem total_bounds {F : Fld} {s : Row} {T : List Nat} (h : Fine F s T) (ha : Able F s T) : 0 ≤ (lens F.t.con T).sum ∧ (lens F.t.con T).sum ≤ 693 ∧ 0 ≤ (pays F.o.l T).sum ∧ (pays F.o.l T).sum ≤ 103809024 := by
  have h1 := sum_bound (lens_bound h.good T)
  have h2 := sum_bound (pays_bound h.good T)
  rw [lens_length] at h1
  rw [pays_length] at h2
  have := good_sizes h.good
  have := ha.few
  omega

set_option maxHeartbeats 2000000 in
theorem l2Total_any (F : Fld) (s : Row) (T : List Nat) (w : World) (hF : F.At w) (hs : s.At w) (hf : Fine F s T) (ha : Able F s T) :
    Calls Try.prog 51 #[F.val, .slice s.a s.l.length s.c] w fun e w' => e = .returned (.int .i64 ((lens F.t.con T).sum + (pays F.o.l T).sum)) ∧ Below w.heap.size w w' := by
  obtain ⟨wA, hA, hbA, bx, hFA, hszA⟩ := laid_fld F w 29 hF
  have HSA := Lib.hid (hs.on hbA)
  have HFA := Lib.hid hFA
  have HBX := Lib.hid bx
  have HA := Lib.hid hA
  have hbd := total_bounds hf ha
  obtain ⟨x, hx⟩ : ∃ x, x = (lens F.t.con T).sum := ⟨_, rfl⟩
  obtain ⟨y, hy⟩ : ∃ y, y = (pays F.o.l T).sum := ⟨_, rfl⟩
  have C1 := Lib.hid (fun u (hu : Below wA.heap.size wA u) => by have := l2Serve_any F s T u (HFA.out.on hu) (HSA.out.on hu) hf; rw [← hx] at this; exact this : ∀ u, Below wA.heap.size wA u → Calls Try.prog 49 #[F.val, .slice s.a s.l.length s.c] u fun e w' => e = .returned (.int .i64 x) ∧ Below u.heap.size u w')
  have C2 := Lib.hid (fun u (hu : Below wA.heap.size wA u) => by have := l2Pay_any F s T u (HFA.out.on hu) (HSA.out.on hu) ha; rw [← hy] at this; exact this : ∀ u, Below wA.heap.size wA u → Calls Try.prog 50 #[F.val, .slice s.a s.l.length s.c] u fun e w' => e = .returned (.int .i64 y) ∧ Below u.heap.size u w')
  rw [← hx, ← hy] at hbd ⊢
  have e1 : (0 : Int) ≤ x + y := by omega
  have e2 : x + y ≤ 9223372036854775807 := by omega
  have HS : Hid (∀ u, Below wA.heap.size wA u → ((u.cell? ⟨w.heap.size, 0, none⟩ = some F.o.val ∧ u.cell? ⟨w.heap.size, 1, none⟩ = some F.t.val) ∧ Below wA.heap.size wA u)) := Lib.hid fun u hu => ⟨⟨(HBX.out.on hu).c0, (HBX.out.on hu).c1⟩, hu⟩
  have s0 := HS.out wA.drew (Below.refl _ _).drew
  clear hF hs hA hFA bx hx hy hf ha
  show Calls _ _ #[.agg #[F.o.val, F.t.val], _] w _
  go_enter Try.func51, Try.ntmps51
  go_wp2_with fail
  rw [show w.alloc (Obj.cells #[F.o.val, F.t.val] 29) = wA from HA.out.symm]
  go_region_held3 (fun u => ((u.cell? ⟨w.heap.size, 0, none⟩ = some F.o.val ∧ u.cell? ⟨w.heap.size, 1, none⟩ = some F.t.val) ∧ Below wA.heap.size wA u)) (first | exact s0 | exact keep_reg HS.out (by first | assumption | exact And.right (by assumption)) hb1) (first | (go_at_call 49; refine (show Calls _ _ _ _ _ from C1.out _ (by first | assumption | exact And.right (by assumption))).mono ?_; rintro e u1 ⟨rfl, hb1⟩) | (go_at_call 50; refine (show Calls _ _ _ _ _ from C2.out _ (by first | assumption | exact And.right (by assumption))).mono ?_; rintro e u1 ⟨rfl, hb1⟩))
  refine at_exit (W := wA) (by first | assumption | exact And.right (by assumption)) ?_
  intro W8 hb8
  have hw : IntKind.i64.wrap (x + y) = x + y := IntWalk.i64_in _ (by omega)
  go_wp2
  go_ret
  exact ⟨congrArg (fun z => Ending.returned (.int .i64 z)) hw, hbA.trans (hb8.mono hbA.size)⟩

theorem totals_like {F G : Fld} {s t : Row} {v : Int} {b : Bool} (h : Totals F s v b) (hl : G.Like F) (hs : t.l = s.l) : Totals G t v b := by
  rcases h with ⟨h1, h2, h3⟩ | ⟨T, h1, h2, h3, h4, h5⟩
  · exact .inl ⟨by rw [twoB_like hl hs, h1], h2, h3⟩
  · exact .inr ⟨T, fine_like h1 hl hs, able_like h2 hl hs, by rw [twoB_like hl hs, h3], by rw [hl.1, hl.2]; exact h4, h5⟩
theorem totals_some (F : Fld) (s : Row) (hs : s.l.length ≤ 1048576) : ∃ (v : Int) (b : Bool), Totals F s v b := by
  by_cases h : twoB F s = true
  · obtain ⟨T, hf⟩ := fine_of h
    exact ⟨_, _, .inr ⟨T, hf, ⟨hf.good, hf.set, hf.lt, by have := congrArg List.length hf.set; rw [up_length] at this; omega⟩, h, rfl, rfl⟩⟩
  · exact ⟨_, _, .inl ⟨by simpa using h, rfl, rfl⟩⟩
end Go.Proofs.Ytemflcegkebloaa
