/- Whether a choice is a cover: the contracts of both sides, and that they answer alike. Condition: System and choice read as such. -/
import Derived.Test.YtddalelkgmkdpaaPairCoveredBy
namespace Go.Proofs.Ytddalelkgmkdpaa
open Go.RowKit Go.Shelf

/-- Whether these sets cover all elements. -/
def covB (S : Sys) (T : List Nat) : Bool := ((elsT S.f.t.con T).length : Int) == S.n
theorem covB_like {S U : Sys} (hl : U.Like S) : covB U = covB S := by funext T; unfold covB; rw [hl.1, hl.2.2]

set_option maxHeartbeats 1000000 in
theorem l6Cover_any (S : Sys) (c : Row) (T : List Nat) (w : World) (hS : S.At w) (hc : c.At w) (h8 : ∀ l ∈ S.f.t.con, l.length ≤ 8) (hcl : c.l = up T) (hlt : ∀ m ∈ T, m < S.f.t.con.length) (hfew : T.length ≤ 8) :
    Calls Try.prog 56 #[.agg #[.int .i64 S.n, .slice S.f.t.a S.f.t.R.length S.f.t.c, .slice S.f.o.a S.f.o.l.length S.f.o.c], .slice c.a c.l.length c.c] w fun e w' => e = .returned (.bool (covB S T)) ∧ Below w.heap.size w w' := by
  obtain ⟨wA, hA, hb, bx, hSA, hszA⟩ := laid_sys S w 29 hS
  have HS : Hid (∀ u, Below wA.heap.size wA u → ((u.cell? ⟨w.heap.size, 0, none⟩ = some (.int .i64 S.n) ∧ u.cell? ⟨w.heap.size, 1, none⟩ = some (.slice S.f.t.a S.f.t.R.length S.f.t.c) ∧ u.cell? ⟨w.heap.size, 2, none⟩ = some (.slice S.f.o.a S.f.o.l.length S.f.o.c)) ∧ Below wA.heap.size wA u)) := Lib.hid fun u hu => sys_cells bx u hu
  have s0 := HS.out wA.drew (Below.refl _ _).drew
  have CB := Lib.hid fun u (hu : Below wA.heap.size wA u) => l6Covered_any S c T u (Sys.At.on (show S.At wA from hSA) hu) ((hc.on hb).on hu) h8 hcl hlt hfew
  have HA := Lib.hid hA
  have HE : Hid (∀ k, k = (elsT S.f.t.con T).length → covB S T = ((k : Int) == S.n)) := Lib.hid (fun k hk => by unfold covB; rw [hk])
  clear hS hc bx hSA hA h8 hcl hlt hfew hszA
  go_enter Try.func56, Try.ntmps56
  go_wp2_with fail
  rw [← HA.out]
  go_region_held3 (fun u => ((u.cell? ⟨w.heap.size, 0, none⟩ = some (.int .i64 S.n) ∧ u.cell? ⟨w.heap.size, 1, none⟩ = some (.slice S.f.t.a S.f.t.R.length S.f.t.c) ∧ u.cell? ⟨w.heap.size, 2, none⟩ = some (.slice S.f.o.a S.f.o.l.length S.f.o.c)) ∧ Below wA.heap.size wA u)) (first | exact s0 | exact keep_reg HS.out (by first | assumption | exact And.right (by assumption)) hb1) ((go_at_call 72; refine (show Calls _ _ _ _ _ from CB.out _ (by first | assumption | exact And.right (by assumption))).mono ?_; rintro e u1 ⟨t, rfl, htl, -, -, hb1⟩))
  all_goals
    have HL := Lib.hid (HE.out t.l.length (by rw [htl]))
    have HBB := Lib.hid (hb.trans (Below.mono (show Below wA.heap.size wA _ by first | assumption | exact And.right (by assumption)) hb.size))
    go_wp2
    go_ret
    exact ⟨by first | rfl | (rw [HL.out]; rfl), HBB.out⟩

set_option maxHeartbeats 1000000 in
theorem coversAll_any (S : Sys) (c : Row) (T : List Nat) (w : World) (hS : S.At w) (hc : c.At w) (h8 : ∀ l ∈ S.f.t.con, l.length ≤ 8) (hcl : c.l = up T) (hlt : ∀ m ∈ T, m < S.f.t.con.length) (hfew : T.length ≤ 8) :
    Calls Try.prog 52 #[.agg #[.int .i64 S.n, .slice S.f.t.a S.f.t.R.length S.f.t.c, .slice S.f.o.a S.f.o.l.length S.f.o.c], .slice c.a c.l.length c.c] w fun e w' => e = .returned (.bool (covB S T)) ∧ Below w.heap.size w w' := by
  obtain ⟨wA, hA, hb, bx, hSA, hszA⟩ := laid_sys S w 29 hS
  have HS : Hid (∀ u, Below wA.heap.size wA u → ((u.cell? ⟨w.heap.size, 0, none⟩ = some (.int .i64 S.n) ∧ u.cell? ⟨w.heap.size, 1, none⟩ = some (.slice S.f.t.a S.f.t.R.length S.f.t.c) ∧ u.cell? ⟨w.heap.size, 2, none⟩ = some (.slice S.f.o.a S.f.o.l.length S.f.o.c)) ∧ Below wA.heap.size wA u)) := Lib.hid fun u hu => sys_cells bx u hu
  have s0 := HS.out wA.drew (Below.refl _ _).drew
  have CB := Lib.hid fun u (hu : Below wA.heap.size wA u) => elementsOf_any S c T u (Sys.At.on (show S.At wA from hSA) hu) ((hc.on hb).on hu) h8 hcl hlt hfew
  have HA := Lib.hid hA
  have HE : Hid (∀ k, k = (elsT S.f.t.con T).length → covB S T = ((k : Int) == S.n)) := Lib.hid (fun k hk => by unfold covB; rw [hk])
  clear hS hc bx hSA hA h8 hcl hlt hfew hszA
  go_enter Try.func52, Try.ntmps52
  go_wp2_with fail
  rw [← HA.out]
  go_region_held3 (fun u => ((u.cell? ⟨w.heap.size, 0, none⟩ = some (.int .i64 S.n) ∧ u.cell? ⟨w.heap.size, 1, none⟩ = some (.slice S.f.t.a S.f.t.R.length S.f.t.c) ∧ u.cell? ⟨w.heap.size, 2, none⟩ = some (.slice S.f.o.a S.f.o.l.length S.f.o.c)) ∧ Below wA.heap.size wA u)) (first | exact s0 | exact keep_reg HS.out (by first | assumption | exact And.right (by assumption)) hb1) ((go_at_call 75; refine (show Calls _ _ _ _ _ from CB.out _ (by first | assumption | exact And.right (by assumption))).mono ?_; rintro e u1 ⟨t, rfl, htl, -, -, hb1⟩))
  all_goals
    have HL := Lib.hid (HE.out t.l.length (by rw [htl]))
    have HBB := Lib.hid (hb.trans (Below.mono (show Below wA.heap.size wA _ by first | assumption | exact And.right (by assumption)) hb.size))
    go_wp2
    go_ret
    exact ⟨by first | rfl | (rw [HL.out]; rfl), HBB.out⟩

set_option maxHeartbeats 1000000 in
theorem implIsCover_any (S : Sys) (c : Row) (w : World) (hS : S.At w) (hc : c.At w) (l : Bool) (b : Bool) (h : (twoS S c.l = false ∧ l = false ∧ b = false) ∨ ∃ T, FineS S c T ∧ twoS S c.l = true ∧ l = covB S T ∧ b = true) :
    Calls Try.prog 65 #[.agg #[.int .i64 S.n, .slice S.f.t.a S.f.t.R.length S.f.t.c, .slice S.f.o.a S.f.o.l.length S.f.o.c], .slice c.a c.l.length c.c] w (PBool2 l b w) := by
  obtain ⟨wA, hA, hb, bx, hSA, hszA⟩ := laid_sys S w 29 hS
  have x0 := bx.c0
  have x1 := bx.c1
  have x2 := bx.c2
  rw [hA] at x0 x1 x2
  have HSA : Hid (S.At wA) := Lib.hid hSA
  have HCA := Lib.hid (hc.on hb)
  have HBX := Lib.hid bx
  have HA := Lib.hid hA
  have CG := canChoose_any S c wA hSA (hc.on hb)
  unfold PBool2
  rcases h with ⟨hv, rfl, rfl⟩ | ⟨T, hf, hv, hl, rfl⟩
  · rw [hv] at CG
    have CG1 := Lib.hid CG
    clear hS hc bx hSA hA CG hv
    go_enter Try.func65, Try.ntmps65
    go_wp2_with fail
    rw [← HA.out]
    refine (show Calls _ _ _ _ _ from CG1.out).mono ?_
    rintro e W1 ⟨rfl, hb1⟩
    have hbw := hb.trans (hb1.mono hb.size)
    clear x0 x1 x2
    go_wp2
    go_ret2
    exact ⟨rfl, hbw⟩
  · rw [hv] at CG
    have CG1 := Lib.hid CG
    have CB := Lib.hid fun u (hu : Below wA.heap.size wA u) => coversAll_any S c T u (HSA.out.on hu) (HCA.out.on hu) (good_row8 hf.good) hf.set hf.lt hf.few
    rw [← hl] at CB
    clear hS hc bx hSA hA CG hv hf hl
    go_enter Try.func65, Try.ntmps65
    go_wp2_with fail
    rw [← HA.out]
    refine (show Calls _ _ _ _ _ from CG1.out).mono ?_
    rintro e W1 ⟨rfl, hb1⟩
    have hbw := hb.trans (hb1.mono hb.size)
    have bx1 := HBX.out.on hb1
    have y0 := bx1.c0
    have y1 := bx1.c1
    have y2 := bx1.c2
    have CB1 := Lib.hid (CB.out W1 hb1)
    clear x0 x1 x2 bx1 hb1
    go_wp2_with fail
    refine (show Calls _ _ _ _ _ from CB1.out).mono ?_
    rintro e W2 ⟨rfl, hb2⟩
    go_wp2
    go_ret2
    exact ⟨rfl, hbw.trans (hb2.mono hbw.size)⟩

end Go.Proofs.Ytddalelkgmkdpaa
