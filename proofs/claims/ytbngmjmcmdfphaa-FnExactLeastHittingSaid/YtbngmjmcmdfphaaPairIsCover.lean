/- Whether a choice is a cover: the contracts of both sides, and that they answer alike. Condition: System and choice read as such. -/
import Derived.Test.YtbngmjmcmdfphaaPairCoveredBy
namespace Go.Proofs.Ytbngmjmcmdfphaa
open Go.RowKit Go.Shelf

/-- Whether these sets cover all elements. -/
def covB (S : Sys) (T : List Nat) : Bool := ((elsT S.f.t.con T).length : Int) == S.n
theorem covB_like {S U : Sys} (hl : U.Like S) : covB U = covB S := by funext T; unfold covB; rw [hl.1, hl.2.2]

set_option maxHeartbeats 1000000 in
theorem l6Cover_any (S : Sys) (c : Row) (T : List Nat) (w : World) (hS : S.At w) (hc : c.At w) (h8 : ∀ l ∈ S.f.t.con, l.length ≤ 8) (hcl : c.l = up T) (hlt : ∀ m ∈ T, m < S.f.t.con.length) (hfew : T.length ≤ 8) :
    Calls Try.prog 48 #[.agg #[.int .i64 S.n, .slice S.f.t.a S.f.t.R.length S.f.t.c, .slice S.f.o.a S.f.o.l.length S.f.o.c], .slice c.a c.l.length c.c] w fun e w' => e = .returned (.bool (covB S T)) ∧ Below w.heap.size w w' := by
  obtain ⟨wA, hA, hb, bx, hSA, hszA⟩ := laid_sys S w 29 hS
  have HS : Hid (∀ u, Below wA.heap.size wA u → ((u.cell? ⟨w.heap.size, 0, none⟩ = some (.int .i64 S.n) ∧ u.cell? ⟨w.heap.size, 1, none⟩ = some (.slice S.f.t.a S.f.t.R.length S.f.t.c) ∧ u.cell? ⟨w.heap.size, 2, none⟩ = some (.slice S.f.o.a S.f.o.l.length S.f.o.c)) ∧ Below wA.heap.size wA u)) := Lib.hid fun u hu => sys_cells bx u hu
  have s0 := HS.out wA.drew (Below.refl _ _).drew
  have CB := Lib.hid fun u (hu : Below wA.heap.size wA u) => l6Covered_any S c T u (Sys.At.on (show S.At wA from hSA) hu) ((hc.on hb).on hu) h8 hcl hlt hfew
  have HA := Lib.hid hA
  have HE : Hid (∀ k, k = (elsT S.f.t.con T).length → covB S T = ((k : Int) == S.n)) := Lib.hid (fun k hk => by unfold covB; rw [hk])
  clear hS hc bx hSA hA h8 hcl hlt hfew hszA
  go_enter Try.func48, Try.ntmps48
  go_wp2_with fail
  rw [← HA.out]
  go_region_held3 (fun u => ((u.cell? ⟨w.heap.size, 0, none⟩ = some (.int .i64 S.n) ∧ u.cell? ⟨w.heap.size, 1, none⟩ = some (.slice S.f.t.a S.f.t.R.length S.f.t.c) ∧ u.cell? ⟨w.heap.size, 2, none⟩ = some (.slice S.f.o.a S.f.o.l.length S.f.o.c)) ∧ Below wA.heap.size wA u)) (first | exact s0 | exact keep_reg HS.out (by first | assumption | exact And.right (by assumption)) hb1) ((go_at_call 43; refine (show Calls _ _ _ _ _ from CB.out _ (by first | assumption | exact And.right (by assumption))).mono ?_; rintro e u1 ⟨t, rfl, htl, -, -, hb1⟩))
  all_goals
    have HL := Lib.hid (HE.out t.l.length (by rw [htl]))
    have HBB := Lib.hid (hb.trans (Below.mono (show Below wA.heap.size wA _ by first | assumption | exact And.right (by assumption)) hb.size))
    go_wp2
    go_ret
    exact ⟨by first | rfl | (rw [HL.out]; rfl), HBB.out⟩

set_option maxHeartbeats 1000000 in
theorem coversAll_any (S : Sys) (c : Row) (T : List Nat) (w : World) (hS : S.At w) (hc : c.At w) (h8 : ∀ l ∈ S.f.t.con, l.length ≤ 8) (hcl : c.l = up T) (hlt : ∀ m ∈ T, m < S.f.t.con.length) (hfew : T.length ≤ 8) :
    Calls Try.prog 32 #[.agg #[.int .i64 S.n, .slice S.f.t.a S.f.t.R.length S.f.t.c, .slice S.f.o.a S.f.o.l.length S.f.o.c], .slice c.a c.l.length c.c] w fun e w' => e = .returned (.bool (covB S T)) ∧ Below w.heap.size w w' := by
  obtain ⟨wA, hA, hb, bx, hSA, hszA⟩ := laid_sys S w 29 hS
  have HS : Hid (∀ u, Below wA.heap.size wA u → ((u.cell? ⟨w.heap.size, 0, none⟩ = some (.int .i64 S.n) ∧ u.cell? ⟨w.heap.size, 1, none⟩ = some (.slice S.f.t.a S.f.t.R.length S.f.t.c) ∧ u.cell? ⟨w.heap.size, 2, none⟩ = some (.slice S.f.o.a S.f.o.l.length S.f.o.c)) ∧ Below wA.heap.size wA u)) := Lib.hid fun u hu => sys_cells bx u hu
  have s0 := HS.out wA.drew (Below.refl _ _).drew
  have CB := Lib.hid fun u (hu : Below wA.heap.size wA u) => elementsOf_any S c T u (Sys.At.on (show S.At wA from hSA) hu) ((hc.on hb).on hu) h8 hcl hlt hfew
  have HA := Lib.hid hA
  have HE : Hid (∀ k, k = (elsT S.f.t.con T).length → covB S T = ((k : Int) == S.n)) := Lib.hid (fun k hk => by unfold covB; rw [hk])
  clear hS hc bx hSA hA h8 hcl hlt hfew hszA
  go_enter Try.func32, Try.ntmps32
  go_wp2_with fail
  rw [← HA.out]
  go_region_held3 (fun u => ((u.cell? ⟨w.heap.size, 0, none⟩ = some (.int .i64 S.n) ∧ u.cell? ⟨w.heap.size, 1, none⟩ = some (.slice S.f.t.a S.f.t.R.length S.f.t.c) ∧ u.cell? ⟨w.heap.size, 2, none⟩ = some (.slice S.f.o.a S.f.o.l.length S.f.o.c)) ∧ Below wA.heap.size wA u)) (first | exact s0 | exact keep_reg HS.out (by first | assumption | exact And.right (by assumption)) hb1) ((go_at_call 46; refine (show Calls _ _ _ _ _ from CB.out _ (by first | assumption | exact And.right (by assumption))).mono ?_; rintro e u1 ⟨t, rfl, htl, -, -, hb1⟩))
  all_goals
    have HL := Lib.hid (HE.out t.l.length (by rw [htl]))
    have HBB := Lib.hid (hb.trans (Below.mono (show Below wA.heap.size wA _ by first | assumption | exact And.right (by assumption)) hb.size))
    go_wp2
    go_ret
    exact ⟨by first | rfl | (rw [HL.out]; rfl), HBB.out⟩

end Go.Proofs.Ytbngmjmcmdfphaa
