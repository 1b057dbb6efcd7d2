/- The cost of an allocation: the program's side. Condition: a valid network and an allocation. -/
import Derived.Test.YtmbgipllkbahpaaNetCost
namespace Go.Proofs.Ytmbgipllkbahpaa
open Go.RowKit

theorem wp_drewTo {P : Program} {C : Code} {Q : Exit → Act → World → Prop} {a : Act} {W : World} {n : Nat} (h : ∀ V, DrewTo W V → Code.wp P C Q a V) : Code.wp P C Q a (W.drewN n) := h _ ⟨n, rfl⟩

set_option maxRecDepth 16000 in
set_option maxHeartbeats 3000000 in
theorem unitCost_any (T Q : Tab) (s : Row) (H : List Nat) (c : Int) (i j : Nat) (w : World) (hT : T.At w) (hs : s.At w) (hn : Net T.con Q.con c) (hh : HubL T.R.length s H) (hi : i < T.R.length) (hj : j < T.R.length) :
    Calls Try.prog 62 #[.agg #[.slice T.a T.R.length T.c, .slice Q.a Q.R.length Q.c, .int .i64 c], .slice s.a s.l.length s.c, .int .i64 i, .int .i64 j] w fun e w' => e = .returned (.int .i64 (unitV T.con H c i j)) ∧ Below w.heap.size w w' := by
  obtain ⟨wA, hA⟩ : ∃ u, u = w.alloc (Obj.cells #[.slice T.a T.R.length T.c, .slice Q.a Q.R.length Q.c, .int .i64 c] 54) := ⟨_, rfl⟩
  have hbA : Below w.heap.size w wA := by rw [hA]; exact below_alloc _ _
  have bx : BoxN wA w.heap.size (.slice T.a T.R.length T.c) (.slice Q.a Q.R.length Q.c) (.int .i64 c) 54 := by rw [hA]; exact BoxN.made _ _ _ _ _
  have hsl : s.l.length = T.R.length := by rw [hh.eq, up_length, hh.len]
  have hn5 : T.R.length ≤ 5 := by have := hn.few; rw [con_length] at this; exact this
  obtain ⟨b, o, ha, hrow⟩ := grd_cells (hT.on hbA) hn.grd (by omega)
  obtain ⟨bh, oh, hah, hch⟩ := up_row (hs.on hbA) hh.eq (by rw [hh.len]; omega)
  rw [hh.len] at hch
  obtain ⟨n, hnn⟩ : ∃ n, n = T.R.length := ⟨_, rfl⟩
  rw [ha, ← hnn] at bx hA
  rw [hah, hsl, ha, ← hnn]
  rw [← hnn] at hrow hh hn5 hi hj hch
  obtain ⟨p, hp⟩ : ∃ p, p = H.getD i 0 := ⟨_, rfl⟩
  obtain ⟨q, hq⟩ : ∃ p, p = H.getD j 0 := ⟨_, rfl⟩
  have hpn := hh.at hi
  have hqn := hh.at hj
  rw [← hp] at hpn
  rw [← hq] at hqn
  have k1 := hch wA (Below.refl _ _) i hi
  have k2 := hch wA (Below.refl _ _) j hj
  rw [← hp] at k1
  rw [← hq] at k2
  obtain ⟨bi, oi, ci, hri⟩ := hrow i hi
  obtain ⟨bj, oj, cj, hrj⟩ := hrow j hj
  obtain ⟨bp, op, cp, hrp⟩ := hrow p hpn
  obtain ⟨x, hx⟩ : ∃ x, x = cel T.con i p := ⟨_, rfl⟩
  obtain ⟨y, hy⟩ : ∃ x, x = cel T.con j q := ⟨_, rfl⟩
  obtain ⟨z, hz⟩ : ∃ x, x = cel T.con p q := ⟨_, rfl⟩
  have D1 := Lib.hid (fun V (hV : DrewTo wA V) => dist_cell b o bi oi n T.c n ci i p x V hi hpn (by omega) (by omega) (hri _ hV.below).1 (by rw [hx]; exact (hri _ hV.below).2 p hpn))
  have D2 := Lib.hid (fun V (hV : DrewTo wA V) => dist_cell b o bj oj n T.c n cj j q y V hj hqn (by omega) (by omega) (hrj _ hV.below).1 (by rw [hy]; exact (hrj _ hV.below).2 q hqn))
  have D3 := Lib.hid (fun V (hV : DrewTo wA V) => dist_cell b o bp op n T.c n cp p q z V hpn hqn (by omega) (by omega) (hrp _ hV.below).1 (by rw [hz]; exact (hrp _ hV.below).2 q hqn))
  have xb := hn.grd.bound i p
  have yb := hn.grd.bound j q
  have zb := hn.disc p q
  rw [← hx] at xb
  rw [← hy] at yb
  rw [← hz] at zb
  have HE : Hid (unitV T.con H c i j = 10 * (x + y) + c * z) := Lib.hid (by unfold unitV; rw [← hp, ← hq, hx, hy, hz])
  rw [HE.out]
  obtain ⟨cz, hcz⟩ : ∃ t, t = c * z := ⟨_, rfl⟩
  rw [← hcz] at zb ⊢
  have e1 : IntKind.i64.wrap (x + y) = x + y := IntWalk.i64_in _ (by omega)
  have e2 : IntKind.i64.wrap (10 * (x + y)) = 10 * (x + y) := IntWalk.i64_in _ (by omega)
  have e3 : IntKind.i64.wrap (c * z) = cz := by rw [← hcz]; exact IntWalk.i64_in _ (by omega)
  have e4 : IntKind.i64.wrap (10 * (x + y) + cz) = 10 * (x + y) + cz := IntWalk.i64_in _ (by omega)
  have hii : (i : Int) < (n : Int) := by omega
  have hji : (j : Int) < (n : Int) := by omega
  have HBX := Lib.hid (fun V (hV : DrewTo wA V) => bx.on hV.below)
  have hni : (n : Int) ≤ 5 := by omega
  have HA := Lib.hid hA
  have HK := Lib.hid (And.intro k1 k2)
  rw [HA.out] at k1 k2
  clear hT hs hn hh hsl hn5 hnn hA bx ha hah hrow hch hp hq hx hy hz hri hrj hrp hcz HE hpn hqn hi hj
  go_enter Try.func62, Try.ntmps62
  go_wp2
  rw [← HA.out]
  rw [← HA.out] at k1 k2
  go_quiet (fail)
  go_wp2
  refine wp_drewTo ?_
  intro V hV
  have E1 := Lib.hid (fun n => D1.out (V.drewN n) (hV.more n))
  have E2 := Lib.hid (fun n => D2.out (V.drewN n) (hV.more n))
  have b0 := (HBX.out V hV).c0
  clear k1 k2
  go_quiet ((go_at_call 52; first | with_reducible exact Calls.quiet_of_same (E1.out _) | with_reducible exact Calls.quiet_of_same (E2.out _)))
  go_wp2
  refine wp_drewTo ?_
  intro V2 hV2
  have hVV : DrewTo wA V2 := by obtain ⟨d, rfl⟩ := hV; obtain ⟨d2, rfl⟩ := hV2; exact ⟨d + d2, by rw [World.drewN_drewN]⟩
  have E3 := Lib.hid (fun n => D3.out (V2.drewN n) (hVV.more n))
  clear b0
  have b0 := (HBX.out V2 hVV).c0
  have b2 := (HBX.out V2 hVV).c2
  go_quiet ((go_at_call 52; exact Calls.quiet_of_same (E3.out _)))
  go_wp2
  go_ret
  exact ⟨rfl, hbA.trans ((hVV.more _).below.mono hbA.size)⟩
end Go.Proofs.Ytmbgipllkbahpaa
