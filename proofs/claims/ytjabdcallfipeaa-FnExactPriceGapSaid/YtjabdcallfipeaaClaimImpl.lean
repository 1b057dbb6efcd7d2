/- The contracts of prices, claims and rests, the program's side. Condition: Field and prices read as such. -/
import Derived.Test.YtjabdcallfipeaaClaims
import Derived.OwnWalk
import Derived.Deep.OwnRows
import Derived.WalkKit
namespace Go.Proofs.Ytjabdcallfipeaa
open Go.RowKit

/-- What make lays. -/
theorem own_made (w : World) (B n : Nat) (e : TypeId) (hB : B ≤ w.heap.size) (hn : n ≤ maxLen) : (w.alloc (.cells (madeCells #[.int .i64 0] n) e)).ownsRow B e 1 (.slice (some ⟨w.heap.size, 0, none⟩) n n) n (iv (List.replicate n 0)) := by
  refine ⟨by simp [iv], .inr ⟨w.heap.size, n, madeCells #[.int .i64 0] n, rfl, hB, heap_alloc_new w _, Nat.le_refl _, hn, by simp [size_madeCells], ?_⟩⟩
  rw [Nat.mul_one, List.take_of_length_le (by simp [size_madeCells])]
  apply List.ext_getElem
  · simp [iv, madeCells]
  · intro i h1 h2; simp [iv, madeCells, Nat.mod_one]

set_option maxHeartbeats 1000000 in
theorem arePricesOf_any (F : Fld) (p : Row) (w : World) (hF : F.At w) (hp : p.At w) :
    Calls Try.prog 59 #[F.val, .slice p.a p.l.length p.c] w fun e w' => e = .returned (.bool (pricesB F p.l)) ∧ Below w.heap.size w w' := by
  obtain ⟨wA, hA, hbA, bx, hFA, hszA⟩ := laid_fld F w 29 hF
  have HPA := Lib.hid (hp.on hbA)
  have HA := Lib.hid hA
  have HBX := Lib.hid bx
  have CG := Lib.hid (implIsField_any F wA hFA)
  obtain ⟨hr1, hr2, _⟩ := hFA.2.1
  rw [tv_length] at hr1
  have hRi : (F.t.R.length : Int) ≤ 9223372036854775807 := by unfold maxLen at hr2; omega
  obtain ⟨hp1, hp2, _⟩ := hp
  rw [iv_length] at hp1
  have hni : (p.l.length : Int) ≤ 9223372036854775807 := by unfold maxLen at hp2; omega
  obtain ⟨g, hg⟩ : ∃ g, g = F.good := ⟨_, rfl⟩
  obtain ⟨v, hv⟩ : ∃ v, v = decide (p.l.length = F.t.R.length) := ⟨_, rfl⟩
  obtain ⟨q, hq⟩ : ∃ v, v = p.l.all (upTo 500) := ⟨_, rfl⟩
  have HV : Hid (pricesB F p.l = (q && g && v)) := Lib.hid (by unfold pricesB; rw [hg, hv, hq])
  have hle := nat_eqB p.l.length F.t.R.length
  rw [← hv] at hle
  rw [← hg] at CG
  have CW := Lib.hid (fun u (hu : Below wA.heap.size wA u) => by have := allWithinM_any 500 p u (HPA.out.on hu); rw [← hq] at this; exact this : ∀ u, Below wA.heap.size wA u → Calls Try.prog 51 #[.slice p.a p.l.length p.c, .int .i64 500] u fun e w' => e = .returned (.bool q) ∧ Below u.heap.size u w')
  rw [HV.out]
  clear hF hA hFA bx hg hr1 hr2 hp1 hp2 hv hq HV HPA
  show Calls _ _ #[.agg #[F.o.val, F.t.val], _] w _
  go_enter Try.func59, Try.ntmps59
  go_wp2_with fail
  rw [show w.alloc (Obj.cells #[F.o.val, F.t.val] 29) = wA from HA.out.symm]
  refine (show Calls _ _ _ _ _ from CG.out).mono ?_
  rintro e W1 ⟨rfl, hb1⟩
  have z1 : W1.cell? ⟨w.heap.size, 1, none⟩ = some (.slice F.t.a F.t.R.length F.t.c) := (HBX.out.on hb1).c1
  have CW1 := Lib.hid (CW.out W1 hb1)
  have R1 := Lib.hid (hbA.trans (hb1.mono hbA.size))
  have hsz1 := R1.out.size
  clear hb1 hbA CW
  cases g with
  | false =>
    go_wp2
    go_ret
    exact ⟨by cases q <;> rfl, R1.out⟩
  | true =>
    cases v with
    | false =>
      go_wp2
      go_ret
      exact ⟨by cases q <;> rfl, R1.out⟩
    | true =>
      go_wp2_with fail
      refine (show Calls _ _ _ _ _ from CW1.out).mono ?_
      rintro e W2 ⟨rfl, hb2⟩
      have R2 := R1.out.trans (hb2.mono hsz1)
      clear hb2
      go_wp2
      go_ret
      exact ⟨by cases q <;> rfl, R2⟩

set_option maxRecDepth 16000 in
set_option maxHeartbeats 2000000 in
theorem claimsFor_any (F : Fld) (p : Row) (w : World) (hF : F.At w) (hp : p.At w) (hg : F.good = true) (hd : Dues 2097152 p.l) (hl : p.l.length = F.t.R.length) :
    Calls Try.prog 72 #[F.val, .slice p.a p.l.length p.c] w fun e w' => ∃ t : Row, e = .returned (.slice t.a t.l.length t.c) ∧ t.l = clmsTo F 1 p.l F.o.l.length ∧ t.Own 3 w' ∧ t.In w.heap.size w'.heap.size w' ∧ Below w.heap.size w w' := by
  obtain ⟨i0, hi, hz0, hz1, hz2⟩ := info_parts infoInt
  obtain ⟨wA, hA, hbA, bx, hFA, hszA⟩ := laid_fld F w 29 hF
  have hpA := hp.on hbA
  have hsz := good_sizes hg
  have hoi : (F.o.l.length : Int) ≤ 7 := by omega
  have hmi : (F.t.R.length : Int) ≤ 7 := by omega
  have HC := Lib.hid fun i (hi : i < F.t.R.length) => row_cells hFA hg (DrewTo.refl wA) hi
  have HLB := Lib.hid fun i (hi : i < F.t.R.length) a => len_bound hg hi a
  have HDU := Lib.hid fun k => due_at hd (by omega) k
  have HCB := Lib.hid fun a k hk => clm_bound (u := 1) hg (by omega) hd (by omega) a k hk
  have HBX := Lib.hid bx
  have HA := Lib.hid hA
  obtain ⟨pa, pc, l⟩ := p
  obtain ⟨h1, h2, h3⟩ := hpA
  simp only at h1 h2 h3 hl hd HDU HCB ⊢
  have hni : (l.length : Int) ≤ 7 := by omega
  have HL := Lib.hid hl
  have HR := Lib.hid h3
  have HFA := Lib.hid hFA
  have y0 : wA.cell? ⟨w.heap.size, 0, none⟩ = some (.slice F.o.a F.o.l.length F.o.c) := bx.c0
  rw [hA] at y0
  have H0 : Hid (((w.alloc (Obj.cells #[F.o.val, F.t.val] 29)).alloc (.cells (madeCells #[.int .i64 0] F.o.l.length) 3)).ownsRow (w.heap.size + 1) 3 1 (.slice (some ⟨w.heap.size + 1, 0, none⟩) F.o.l.length F.o.l.length) F.o.l.length (iv (midway F 1 l F.o.l.length 0 0))) := Lib.hid (by
    have := own_made wA (w.heap.size + 1) F.o.l.length 3 (by omega) (by unfold maxLen; omega)
    rw [hszA] at this
    rw [← hA, mid_zero]; exact this)
  have HB0 : Hid (Below wA.heap.size wA ((w.alloc (Obj.cells #[F.o.val, F.t.val] 29)).alloc (.cells (madeCells #[.int .i64 0] F.o.l.length) 3))) := Lib.hid (by rw [← hA]; exact below_alloc wA _)
  have y1 : ((w.alloc (Obj.cells #[F.o.val, F.t.val] 29)).alloc (.cells (madeCells #[.int .i64 0] F.o.l.length) 3)).cell? ⟨w.heap.size, 1, none⟩ = some (.slice F.t.a F.t.R.length F.t.c) := by rw [← hA]; exact (bx.later _).c1
  clear hF hp hA hFA bx h3 hg h1 h2 hd hl hsz HA HBX HFA
  show Calls _ _ #[.agg #[.slice F.o.a F.o.l.length F.o.c, .slice F.t.a F.t.R.length F.t.c], _] w _
  have hmk := run_make_row' (P := Try.prog) 22 3 (.int .i64 0) 8 Try.underlying22 infoInt rfl .i64 .i64 F.o.l.length (by omega) (by omega)
  go_enter Try.func72, Try.ntmps72
  go_wp2
  go_loopw [6, 7, 8, 9, 17, 24] (fun _ _ _ _ i _ wr => ∃ k : Nat, k ≤ F.t.R.length ∧ i = .int .i64 k ∧ wr.ownsRow (w.heap.size + 1) 3 1 (.slice (some ⟨w.heap.size + 1, 0, none⟩) F.o.l.length F.o.l.length) F.o.l.length (iv (midway F 1 l F.o.l.length k 0)) ∧ Below wA.heap.size wA wr) (fun _ _ _ _ i _ _ => F.t.R.length - (intOf i).toNat)
  case atStart => exact ⟨0, Nat.zero_le _, rfl, H0.out, HB0.out⟩
  case round =>
    obtain ⟨k, hk, rfl, hown0, hnx⟩ := hrel
    clear y0 y1
    by_cases hlt : k < F.t.R.length
    · have hlti : (k : Int) < (F.t.R.length : Int) := by omega
      obtain ⟨bt, ot, bi, oi, ci, hta, hci, hri⟩ := HC.out k hlt
      have hcr : wr.cell? ⟨bt, ot + k, none⟩ = some (.slice (some ⟨bi, oi, none⟩) F.o.l.length ci) := (hnx.cell (p := ⟨bt, ot + k, none⟩) (World.block_lt_of_cell? _ _ hci)).trans hci
      have HRI := Lib.hid hri
      have HN := Lib.hid hnx
      have HO := Lib.hid hown0
      have hszr := hnx.size
      rw [hta]
      clear hci hri hnx hown0 hta
      go_wp2
      go_loopw [8, 9, 24] (fun _ _ i wr2 => ∃ j : Nat, j ≤ F.o.l.length ∧ i = .int .i64 j ∧ wr2.ownsRow (w.heap.size + 1) 3 1 (.slice (some ⟨w.heap.size + 1, 0, none⟩) F.o.l.length F.o.l.length) F.o.l.length (iv (midway F 1 l F.o.l.length k j)) ∧ Below wA.heap.size wA wr2) (fun _ _ i _ => F.o.l.length - (intOf i).toNat)
      case atStart => exact ⟨0, Nat.zero_le _, rfl, HO.out, HN.out⟩
      case round =>
        obtain ⟨j, hj, rfl, hown2, hnx2⟩ := hrel
        clear hcr
        by_cases hltj : j < F.o.l.length
        · have hltji : (j : Int) < (F.o.l.length : Int) := by omega
          have hkl : k < l.length := by rw [HL.out]; exact hlt
          have hkli : (k : Int) < (l.length : Int) := by omega
          rcases HR.out with h3 | ⟨b, o, hpa, hb, hcell⟩
          · have h3' := congrArg List.length (iv_nil h3); rw [List.length_nil] at h3'; omega
          obtain ⟨x, hx⟩ : ∃ x, x = l.getD k 0 := ⟨_, rfl⟩
          have hcx : wr.cell? ⟨b, o + k, none⟩ = some (.int .i64 x) := (hnx2.cell (p := ⟨b, o + k, none⟩) hb).trans (by rw [hx, getD_at hkl]; exact hcell k _ (iv_at hkl))
          obtain ⟨y, hy⟩ : ∃ y, y = F.len k j := ⟨_, rfl⟩
          have hr1 := HRI.out j hltj
          have hcy : wr.cell? ⟨bi, oi + j, none⟩ = some (.int .i64 y) := (hnx2.cell (p := ⟨bi, oi + j, none⟩) (World.block_lt_of_cell? _ _ hr1)).trans (by rw [hy]; exact hr1)
          obtain ⟨s, hs⟩ : ∃ s, s = clmTo F 1 l j k := ⟨_, rfl⟩
          have hml : (midway F 1 l F.o.l.length k j).length = F.o.l.length := mid_length _ _ _ _ _ _
          have hcs : wr.cell? ⟨w.heap.size + 1, j, none⟩ = some (.int .i64 s) := (hown2.cellAt j (by omega)).trans (by rw [iv_at (by rw [hml]; exact hltj), mid_at F 1 l hltj, hs])
          have hf := hown2.frozenAt j
          have hyb := HLB.out k hlt j
          have hxb := HDU.out k
          have hsb := HCB.out j k (by omega)
          rw [← hy] at hyb
          rw [← hx] at hxb
          rw [← hs] at hsb
          obtain ⟨m, hm⟩ : ∃ m, m = max 0 (x - y) := ⟨_, rfl⟩
          have hmb : 0 ≤ m ∧ m ≤ 2097152 := by omega
          have hst := hown2.stored j (.int .i64 (s + m))
          have hset : (iv (midway F 1 l F.o.l.length k j)).set j (.int .i64 (s + m)) = iv (midway F 1 l F.o.l.length k (j + 1)) := by
            rw [← mid_set F 1 l F.o.l.length k j]
            unfold iv
            rw [List.map_set]
            congr 2
            show s + m = clmTo F 1 l j k + max 0 (l.getD k 0 - 1 * F.len k j)
            rw [hs, hm, hx, hy, Int.one_mul]
          rw [hset] at hst
          have R1 := Lib.hid hst.1
          have R2 := Lib.hid (hnx2.setCell (p := ⟨w.heap.size + 1, j, none⟩) (by rw [hszA]; exact Nat.le_refl _) (.int .i64 (s + m)))
          have w2 : IntKind.i64.wrap (x - y) = x - y := IntWalk.i64_in _ (by omega)
          have w3 : IntKind.i64.wrap (s + m) = s + m := IntWalk.i64_in _ (by omega)
          have e1 : (0 : Int) ≤ s + m := by omega
          have e2 : s + m ≤ 9223372036854775807 := by omega
          rw [hpa]
          have HM := Lib.hid hm
          clear hx hy hs hcell hpa hst hset hml hr1 hown2 hnx2 hm
          go_wp2
          go_region
          rw [show (if y < x then x - y else 0) = m by rw [HM.out]; split <;> omega]
          have Q1 := R1.out.drew
          have Q2 := R2.out.drew
          clear hcx hcy hcs hf
          go_wp2
          go_roundw
          case rel => exact ⟨j + 1, by omega, by go_num, Q1, Q2⟩
          case measure => simp [intOf]; omega
        · obtain rfl : j = F.o.l.length := by omega
          rw [mid_next] at hown2
          go_wp2
          go_roundw
          case rel => exact ⟨k + 1, by omega, by go_num, hown2, hnx2⟩
          case measure => simp [intOf]; omega
    · obtain rfl : k = F.t.R.length := by omega
      have hown1 := hown0
      rw [← HL.out, mid_end] at hown1
      go_wp2
      go_ret
      obtain ⟨t, ht, htl, hto, hti⟩ := row_of_ownN (clms_length F 1 l F.o.l.length).symm hown1
      exact ⟨t, congrArg Ending.returned ht, htl, hto, hti.wide (by omega) (Nat.le_refl _), hbA.trans (hnx.mono hbA.size)⟩

end Go.Proofs.Ytjabdcallfipeaa
