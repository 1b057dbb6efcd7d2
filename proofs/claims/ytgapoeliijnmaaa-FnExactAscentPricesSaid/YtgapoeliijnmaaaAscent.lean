/- The contracts of one raise of the ascent, on both sides. Condition: Field and prices read as such, the prices are fair. -/
import Derived.Test.YtgapoeliijnmaaaPlainAscent
import Derived.Test.YtgapoeliijnmaaaPairAreFair
import Derived.Test.YtgapoeliijnmaaaPairRestCosts
namespace Go.Proofs.Ytgapoeliijnmaaa
open Go.RowKit

theorem l1Least_any (a b : Int) (w : World) :
    Calls Try.prog 45 #[.int .i64 a, .int .i64 b] w fun e w' => e = .returned (.int .i64 (min a b)) ∧ w' = w := by
  by_cases h : a < b
  · go_enter Try.func45, Try.ntmps45
    go_wp2
    go_ret
    exact ⟨by rw [show min a b = a by omega]; rfl, rfl⟩
  · go_enter Try.func45, Try.ntmps45
    go_wp2
    go_ret
    exact ⟨by rw [show min a b = b by omega]; rfl, rfl⟩

set_option maxRecDepth 8000 in
set_option maxHeartbeats 700000 in
theorem l3Next_any (F : Fld) (p : Row) (j : Nat) (w : World) (hF : F.At w) (hp : p.At w) (hq : Asc F p.l) (hj : j < F.t.R.length) :
    Calls Try.prog 46 #[F.val, .slice p.a p.l.length p.c, .int .i64 j] w fun e w' => e = .returned (.int .i64 (nextOf F p.l j)) ∧ Below w.heap.size w w' := by
  obtain ⟨wA, hA, hbA, bx, hFA, _⟩ := laid_fld F w 29 hF
  have hpA := hp.on hbA
  have hsz := good_sizes hq.good
  have hoi : (F.o.l.length : Int) ≤ 7 := by omega
  have hRi : (F.t.R.length : Int) ≤ 7 := by omega
  have hpl := hq.len
  have hpi : (p.l.length : Int) ≤ 7 := by omega
  have hji : (j : Int) < (F.t.R.length : Int) := by omega
  have hjp : j < p.l.length := by omega
  have hjpi : (j : Int) < (p.l.length : Int) := by omega
  have HQ := Lib.hid hq
  have HFA := Lib.hid hFA
  have HPA := Lib.hid hpA
  have HBX := Lib.hid bx
  have HA := Lib.hid hA
  obtain ⟨_, _, p3⟩ := hpA
  rcases p3 with p3 | ⟨bp, op, hpa, hpb, hpc⟩
  · have p3' := congrArg List.length (iv_nil p3); rw [List.length_nil] at p3'; omega
  obtain ⟨x, hx⟩ : ∃ x, x = p.l.getD j 0 := ⟨_, rfl⟩
  have hcx : wA.cell? ⟨bp, op + j, none⟩ = some (.int .i64 x) := by rw [hx, getD_at hjp]; exact hpc j _ (iv_at hjp)
  have hxb : 0 ≤ x ∧ x ≤ 198 := by rw [hx]; exact ⟨hq.pos j, asc_le hq j⟩
  have HX := Lib.hid hx
  obtain ⟨_, _, o3⟩ := hFA.1
  rcases o3 with o3 | ⟨bo, oo, hoa, hob, hoc⟩
  · have o3' := congrArg List.length (iv_nil o3); rw [List.length_nil] at o3'; omega
  have HOC := Lib.hid hoc
  have HOA := Lib.hid hoa
  have HTJ := Lib.hid (row_cells hFA hq.good (DrewTo.refl wA) hj)
  have HPE := Lib.hid hpa
  have hn0 : 0 < F.o.l.length := by omega
  have hn0i : (0 : Int) < (F.o.l.length : Int) := by omega
  have hcx0 := hcx
  rw [hA] at hcx0
  clear hF hp hA hFA bx hpc hx hoc hq hsz hcx hpl
  show Calls _ _ #[.agg #[.slice F.o.a F.o.l.length F.o.c, .slice F.t.a F.t.R.length F.t.c], _, _] w _
  rw [hpa, hoa]
  clear hpa hoa
  have HA1 : Hid (w.alloc (Obj.cells #[.slice (some ⟨bo, oo, none⟩) F.o.l.length F.o.c, .slice F.t.a F.t.R.length F.t.c] 29) = wA) := Lib.hid (by rw [HA.out, ← HOA.out]; rfl)
  have hcx1 : (w.alloc (Obj.cells #[.slice (some ⟨bo, oo, none⟩) F.o.l.length F.o.c, .slice F.t.a F.t.R.length F.t.c] 29)).cell? ⟨bp, op + j, none⟩ = some (.int .i64 x) := by rw [HA1.out, HA.out]; exact hcx0
  clear hcx0
  go_enter Try.func46, Try.ntmps46
  go_wp2
  clear hcx1
  go_loopw [8, 9, 10, 11] (fun sv i _ _ wr => ∃ k : Nat, k ≤ F.o.l.length ∧ i = .int .i64 k ∧ sv = .int .i64 (stepTo F p.l j k) ∧ Below wA.heap.size wA wr) (fun _ i _ _ _ => F.o.l.length - (intOf i).toNat)
  case atStart => exact ⟨0, Nat.zero_le _, rfl, rfl, by rw [HA1.out]; exact Below.refl _ _⟩
  case round =>
    obtain ⟨k, hk, rfl, rfl, hnx⟩ := hrel
    have y0 : wr.cell? ⟨w.heap.size, 0, none⟩ = some (.slice (some ⟨bo, oo, none⟩) F.o.l.length F.o.c) := by rw [← HOA.out]; exact (HBX.out.on hnx).c0
    by_cases hlt : k < F.o.l.length
    · have hlti : (k : Int) < (F.o.l.length : Int) := by omega
      obtain ⟨bt, ot, bi, oi, ci, hta, hci, hri⟩ := HTJ.out
      have y1 : wr.cell? ⟨w.heap.size, 1, none⟩ = some (.slice (some ⟨bt, ot, none⟩) F.t.R.length F.t.c) := by rw [← hta]; exact (HBX.out.on hnx).c1
      have hcr : wr.cell? ⟨bt, ot + j, none⟩ = some (.slice (some ⟨bi, oi, none⟩) F.o.l.length ci) := (hnx.cell (p := ⟨bt, ot + j, none⟩) (World.block_lt_of_cell? _ _ hci)).trans hci
      obtain ⟨y, hy⟩ : ∃ y, y = F.len j k := ⟨_, rfl⟩
      have hr1 := hri k hlt
      have hcy : wr.cell? ⟨bi, oi + k, none⟩ = some (.int .i64 y) := (hnx.cell (p := ⟨bi, oi + k, none⟩) (World.block_lt_of_cell? _ _ hr1)).trans (by rw [hy]; exact hr1)
      have hyb := len_bound HQ.out.good hj k
      rw [← hy] at hyb
      have hgp := gap_pos HQ.out j hlt
      have hgl := gap_le HQ.out hj k
      obtain ⟨s, hs⟩ : ∃ s, s = stepTo F p.l j k := ⟨_, rfl⟩
      obtain ⟨g, hg⟩ : ∃ g, g = gapAt F p.l j k := ⟨_, rfl⟩
      have HNX : Hid (stepTo F p.l j (k + 1) = if s < 0 then g else min s g) := Lib.hid (by
        cases k with
        | zero => rw [step_one hn0, hg, if_pos (by rw [hs]; show (-1 : Int) < 0; omega)]
        | succ k => rw [step_next hlt, hg, hs, if_neg (by have := step_pos HQ.out (j := j) (k := k) (by omega); omega)])
      have HSN : Hid (0 ≤ s ∨ s = -1) := Lib.hid (by
        cases k with
        | zero => right; rw [hs]; rfl
        | succ k => left; rw [hs]; exact step_pos HQ.out (by omega))
      rw [← hs]
      rw [← hg] at hgp hgl
      have w1 : IntKind.i64.wrap (y - x) = y - x := IntWalk.i64_in _ (by omega)
      have e1 : -9223372036854775808 ≤ y - x := by omega
      have e2 : y - x ≤ 9223372036854775807 := by omega
      have HG : Hid (g = if y ≤ x then restAt F p.l k else y - x) := Lib.hid (by rw [hg, hy, HX.out]; rfl)
      have HN := Lib.hid hnx
      have hszr := hnx.size
      have HTE := Lib.hid hta
      have HS' := Lib.hid hs
      rw [hta]
      clear hy hg hs hci hri hr1 hnx
      by_cases hxy : y ≤ x
      · obtain ⟨u, hu⟩ : ∃ u, u = F.o.l.getD k 0 := ⟨_, rfl⟩
        obtain ⟨c, hc⟩ : ∃ v, v = clmTo F 1 p.l k p.l.length := ⟨_, rfl⟩
        have HGC : Hid (g = u - c) := Lib.hid (by rw [HG.out, if_pos hxy, hu, hc]; rfl)
        have hub := getD_bound (good_open HQ.out.good) k
        rw [← hu] at hub
        have hgc := HGC.out
        have hcb : u - c ≤ 99 ∧ 0 ≤ u - c := by omega
        have w2 : IntKind.i64.wrap (u - c) = g := by rw [IntWalk.i64_in _ (by omega), hgc]
        have HCU := Lib.hid (fun v (hv : Below wA.heap.size wA v) => (hv.cell (p := ⟨bo, oo + k, none⟩) hob).trans (by rw [hu, getD_at hlt]; exact HOC.out k _ (iv_at hlt)) : ∀ v, Below wA.heap.size wA v → v.cell? ⟨bo, oo + k, none⟩ = some (.int .i64 u))
        have CC := Lib.hid (fun v (hv : Below wA.heap.size wA v) => by
          have := l3Claim_any F p k 1 v (HFA.out.on hv) (HPA.out.on hv) HQ.out.good (asc_due HQ.out) HQ.out.len hlt (by omega) (by omega)
          rw [← hc, HPE.out] at this; rw [← HOA.out]; exact this : ∀ v, Below wA.heap.size wA v → Calls Try.prog 20 #[.agg #[.slice (some ⟨bo, oo, none⟩) F.o.l.length F.o.c, F.t.val], .slice (some ⟨bp, op, none⟩) p.l.length p.c, .int .i64 k, .int .i64 1] v fun e w' => e = .returned (.int .i64 c) ∧ Below v.heap.size v w')
        have HS : Hid (∀ v, Below wA.heap.size wA v → ((v.cell? ⟨w.heap.size, 0, none⟩ = some (.slice (some ⟨bo, oo, none⟩) F.o.l.length F.o.c) ∧ v.cell? ⟨w.heap.size, 1, none⟩ = some F.t.val ∧ v.cell? ⟨bo, oo + k, none⟩ = some (.int .i64 u)) ∧ Below wA.heap.size wA v)) := Lib.hid fun v hv => ⟨⟨by rw [← HOA.out]; exact (HBX.out.on hv).c0, (HBX.out.on hv).c1, HCU.out v hv⟩, hv⟩
        have s0 := HS.out wr.drew HN.out.drew
        have e3 : -9223372036854775808 ≤ u - c := by omega
        have e4 : u - c ≤ 9223372036854775807 := by omega
        clear hu hc hub hgc hcb
        go_wp2
        clear y0 y1 hcr hcy w1 e1 e2 hyb hgp hgl hxb hszr
        go_region_held3 (fun v => ((v.cell? ⟨w.heap.size, 0, none⟩ = some (.slice (some ⟨bo, oo, none⟩) F.o.l.length F.o.c) ∧ v.cell? ⟨w.heap.size, 1, none⟩ = some F.t.val ∧ v.cell? ⟨bo, oo + k, none⟩ = some (.int .i64 u)) ∧ Below wA.heap.size wA v)) (first | exact s0 | exact keep_reg HS.out (by first | assumption | exact And.right (by assumption)) hb1) ((go_at_call 20; refine (show Calls _ _ _ _ _ from CC.out _ (by first | assumption | exact And.right (by assumption))).mono ?_; rintro e u1 ⟨rfl, hb1⟩))
        refine at_exit (W := wA) (by first | assumption | exact And.right (by assumption)) ?_
        intro W8 hb8
        clear s0 e3 e4 w2
        by_cases hs0 : s < 0
        · have HR : Hid (stepTo F p.l j (k + 1) = g) := Lib.hid (by rw [HNX.out, if_pos hs0])
          go_wp2
          go_roundw
          case rel => exact ⟨k + 1, by omega, by go_num, by rw [HR.out], hb8⟩
          case measure => simp [intOf]; omega
        · by_cases hgs : g < s
          · have HR : Hid (stepTo F p.l j (k + 1) = g) := Lib.hid (by rw [HNX.out, if_neg hs0]; omega)
            go_wp2
            go_roundw
            case rel => exact ⟨k + 1, by omega, by go_num, by rw [HR.out], hb8⟩
            case measure => simp [intOf]; omega
          · have HR : Hid (stepTo F p.l j (k + 1) = s) := Lib.hid (by rw [HNX.out, if_neg hs0]; omega)
            go_wp2
            go_roundw
            case rel => exact ⟨k + 1, by omega, by go_num, by rw [HR.out], hb8⟩
            case measure => simp [intOf]; omega
      · have HGC : Hid (y - x = g) := Lib.hid (by rw [HG.out, if_neg hxy])
        have hgc := HGC.out
        have w1' : IntKind.i64.wrap (y - x) = g := by rw [w1, hgc]
        clear w1 hgc
        rw [show y - x = g from HGC.out] at e1 e2 w1'
        by_cases hs0 : s < 0
        · have HR : Hid (stepTo F p.l j (k + 1) = y - x) := Lib.hid (by rw [HNX.out, if_pos hs0, HGC.out])
          go_wp2
          go_roundw
          case rel => exact ⟨k + 1, by omega, by go_num, by rw [HR.out], HN.out⟩
          case measure => simp [intOf]; omega
        · by_cases hgs : y - x < s
          · have HR : Hid (stepTo F p.l j (k + 1) = y - x) := Lib.hid (by rw [HNX.out, if_neg hs0, ← HGC.out]; omega)
            go_wp2
            go_roundw
            case rel => exact ⟨k + 1, by omega, by go_num, by rw [HR.out], HN.out⟩
            case measure => simp [intOf]; omega
          · have HR : Hid (stepTo F p.l j (k + 1) = s) := Lib.hid (by rw [HNX.out, if_neg hs0, ← HGC.out]; omega)
            go_wp2
            go_roundw
            case rel => exact ⟨k + 1, by omega, by go_num, by rw [HR.out], HN.out⟩
            case measure => simp [intOf]; omega
    · obtain rfl : k = F.o.l.length := by omega
      have HE : Hid (stepTo F p.l j F.o.l.length = nextOf F p.l j) := Lib.hid (step_end hn0)
      go_wp2
      go_ret
      exact ⟨by rw [← HE.out]; rfl, hbA.trans (hnx.mono hbA.size)⟩

end Go.Proofs.Ytgapoeliijnmaaa
