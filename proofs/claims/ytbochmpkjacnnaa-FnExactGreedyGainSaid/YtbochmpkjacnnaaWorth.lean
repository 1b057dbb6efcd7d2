/- The contracts of gains, on both sides. Condition: a valid Field, a worth of 0..999, a list of its sites. -/
import Derived.Test.YtbochmpkjacnnaaServe
import Derived.Test.YtbochmpkjacnnaaPlainWorth
namespace Go.Proofs.Ytbochmpkjacnnaa
open Go.RowKit

/-- A struct of three cells in a block of its own: a Field and a worth. -/
def BoxV (w : World) (g : Nat) (F : Fld) (u : Int) (t : TypeId) : Prop := w.heap[g]? = some (Obj.cells #[.slice F.o.a F.o.l.length F.o.c, .slice F.t.a F.t.R.length F.t.c, .int .i64 u] t)
theorem BoxV.lt {w : World} {g : Nat} {F : Fld} {u : Int} {t : TypeId} (h : BoxV w g F u t) : g < w.heap.size := (Array.getElem?_eq_some_iff.1 h).1
theorem BoxV.c0 {w : World} {g : Nat} {F : Fld} {u : Int} {t : TypeId} (h : BoxV w g F u t) : w.cell? ⟨g, 0, none⟩ = some (.slice F.o.a F.o.l.length F.o.c) := by unfold World.cell?; simp only [show w.heap[g]? = _ from h]; rfl
theorem BoxV.c1 {w : World} {g : Nat} {F : Fld} {u : Int} {t : TypeId} (h : BoxV w g F u t) : w.cell? ⟨g, 1, none⟩ = some (.slice F.t.a F.t.R.length F.t.c) := by unfold World.cell?; simp only [show w.heap[g]? = _ from h]; rfl
theorem BoxV.c2 {w : World} {g : Nat} {F : Fld} {u : Int} {t : TypeId} (h : BoxV w g F u t) : w.cell? ⟨g, 2, none⟩ = some (.int .i64 u) := by unfold World.cell?; simp only [show w.heap[g]? = _ from h]; rfl
theorem BoxV.on {w w' : World} {g : Nat} {F : Fld} {u : Int} {t : TypeId} (h : BoxV w g F u t) (b : Below w.heap.size w w') : BoxV w' g F u t := (b.block g h.lt).trans h
theorem BoxV.made (w : World) (F : Fld) (u : Int) (t : TypeId) : BoxV (w.alloc (Obj.cells #[.slice F.o.a F.o.l.length F.o.c, .slice F.t.a F.t.R.length F.t.c, .int .i64 u] t)) w.heap.size F u t := by
  show (w.heap.push _)[w.heap.size]? = _
  simp
/-- A Field with a worth that has been laid as a function's own variable. -/
theorem laid_val (F : Fld) (u : Int) (w : World) (t : TypeId) (hF : F.At w) : ∃ wA, wA = w.alloc (Obj.cells #[.slice F.o.a F.o.l.length F.o.c, .slice F.t.a F.t.R.length F.t.c, .int .i64 u] t) ∧ Below w.heap.size w wA ∧ BoxV wA w.heap.size F u t ∧ F.At wA ∧ wA.heap.size = w.heap.size + 1 :=
  ⟨_, rfl, below_alloc _ _, BoxV.made _ _ _ _, hF.on (below_alloc _ _), size_alloc _ _⟩

theorem mostW_any (a b : Int) (w : World) :
    Calls Try.prog 71 #[.int .i64 a, .int .i64 b] w fun e w' => e = .returned (.int .i64 (max a b)) ∧ w' = w := by
  by_cases h : a > b
  · have hm : Hid (max a b = a) := Lib.hid (by omega)
    go_enter Try.func71, Try.ntmps71
    go_wp2
    go_ret
    exact ⟨by rw [hm.out]; rfl, rfl⟩
  · have hm : Hid (max a b = b) := Lib.hid (by omega)
    go_enter Try.func71, Try.ntmps71
    go_wp2
    go_ret
    exact ⟨by rw [hm.out]; rfl, rfl⟩

/-- What is asked of a Field, a worth and a list of sites. -/
structure Worthy (F : Fld) (u : Int) (s : Row) (T : List Nat) : Prop where
  good : worthB F u = true
  set : s.l = up T
  lt : ∀ m ∈ T, m < F.o.l.length
  few : T.length ≤ 1048576
theorem Worthy.fine {F : Fld} {u : Int} {s : Row} {T : List Nat} (h : Worthy F u s T) (h0 : 0 < T.length) : Fine F s T := ⟨(worthB_iff.1 h.good).1, h.set, h0, h.lt⟩
theorem worthy_of {F : Fld} {u : Int} {s : Row} (h : askG F u s.l = true) (hs : s.l.length ≤ 1048576) : Worthy F u s (nats s.l) := by
  obtain ⟨h1, h2⟩ := askG_iff.1 h
  obtain ⟨T, hT, hl⟩ := set_nat h2
  refine ⟨h1, ?_, ?_, ?_⟩
  · rw [hT, nats_up]
  · rw [hT, nats_up]; exact hl
  · rw [hT, nats_up]; rw [hT, up_length] at hs; exact hs

set_option maxRecDepth 16000 in
set_option maxHeartbeats 1000000 in
theorem l8Gain_any (F : Fld) (u : Int) (s : Row) (T : List Nat) (w : World) (hF : F.At w) (hs : s.At w) (hf : Worthy F u s T) :
    Calls Try.prog 40 #[F.val, .int .i64 u, .slice s.a s.l.length s.c] w fun e w' => e = .returned (.int .i64 (gainT F u T)) ∧ Below w.heap.size w w' := by
  obtain ⟨wA, hA, hbA, bx, hFA, hszA⟩ := laid_fld F w 29 hF
  have HSA := Lib.hid (hs.on hbA)
  have HFA := Lib.hid hFA
  have HBX := Lib.hid bx
  have HA := Lib.hid hA
  obtain ⟨hg, hu0, hu1⟩ := worthB_iff.1 hf.good
  have hsz := good_sizes hg
  have hRi : (F.t.R.length : Int) ≤ 7 := by omega
  have HFI := Lib.hid hf
  have HLB := Lib.hid (gainsL_bound hf.good T)
  have hsl : s.l.length = T.length := by rw [hf.set, up_length]
  have hTi : (T.length : Int) ≤ 1048576 := by have := hf.few; omega
  have HLS := Lib.hid (lens_bound hg T)
  have x0 := bx.c0
  have x1 : wA.cell? ⟨w.heap.size, 1, none⟩ = some (.slice F.t.a F.t.R.length F.t.c) := bx.c1
  rw [hA] at x0 x1
  rw [hsl]
  have HSL := Lib.hid hsl
  clear hF hs hA hFA bx hf hsl
  show Calls _ _ #[.agg #[F.o.val, .slice F.t.a F.t.R.length F.t.c], _, _] w _
  by_cases hT0 : 0 < T.length
  · have hT0i : (0 : Int) < (T.length : Int) := by omega
    go_enter Try.func40, Try.ntmps40
    go_wp2
    clear x0 x1
    go_loopw [7, 8] (fun sv i wr => ∃ k : Nat, k ≤ F.t.R.length ∧ i = .int .i64 k ∧ sv = .int .i64 ((gainsL F u T).take k).sum ∧ Below wA.heap.size wA wr) (fun _ i _ => F.t.R.length - (intOf i).toNat)
    case atStart => exact ⟨0, Nat.zero_le _, rfl, by simp, by rw [HA.out]; exact Below.refl _ _⟩
    case round =>
      obtain ⟨k, hk, rfl, rfl, hnx⟩ := hrel
      have y0 := (HBX.out.on hnx).c0
      have y1 : wr.cell? ⟨w.heap.size, 1, none⟩ = some (.slice F.t.a F.t.R.length F.t.c) := (HBX.out.on hnx).c1
      by_cases hlt : k < F.t.R.length
      · have hlti : (k : Int) < (F.t.R.length : Int) := by omega
        obtain ⟨x, hx⟩ : ∃ x, x = F.t.R[k].l.getD (near F.t.R[k].l T) 0 := ⟨_, rfl⟩
        have cn := l2Nearest_any F s T k wr (HFA.out.on hnx) (HSA.out.on hnx) (worthB_iff.1 HFI.out.good).1 HFI.out.set hT0 HFI.out.lt hlt
        rw [← hx, HSL.out] at cn
        have CN := Lib.hid cn
        have hx2 : (lens F.t.con T)[k]'(by rw [lens_length]; exact hlt) = x := by rw [lens_at F T hlt, hx]
        have hxb := HLS.out x (by rw [← hx2]; exact List.getElem_mem _)
        obtain ⟨z, hz⟩ : ∃ z, z = max (u - x) 0 := ⟨_, rfl⟩
        have hzb : 0 ≤ z ∧ z ≤ 999 := by omega
        obtain ⟨y, hy⟩ : ∃ y, y = ((gainsL F u T).take k).sum := ⟨_, rfl⟩
        have hyb := take_bnd HLB.out k
        have hlk : ((gainsL F u T).take k).length = k := by rw [List.length_take, gainsL_len]; omega
        rw [← hy, hlk] at hyb
        rw [← hy]
        have HS : Hid (((gainsL F u T).take (k + 1)).sum = y + z) := Lib.hid (by rw [gains_step hlt, hy, hz, hx, Int.max_comm])
        have CM := Lib.hid (by have := mostW_any (u - x) 0; rw [← hz] at this; exact this : ∀ W : World, Calls Try.prog 71 #[.int .i64 (u - x), .int .i64 0] W fun e w' => e = .returned (.int .i64 z) ∧ w' = W)
        have e1 : (0 : Int) ≤ y + z := by omega
        have e2 : y + z ≤ 9223372036854775807 := by omega
        have e3 : -9223372036854775808 ≤ u - x := by omega
        have e4 : u - x ≤ 9223372036854775807 := by omega
        clear hx cn hx2 hy hz hlk
        go_wp2_with fail
        refine (show Calls _ _ _ _ _ from CN.out).mono ?_
        rintro e W1 ⟨rfl, hb1⟩
        have R2 := hnx.trans (hb1.mono hnx.size)
        clear hb1 hnx y0 y1
        go_wp2_with fail
        refine (show Calls _ _ _ _ _ from CM.out W1).mono ?_
        rintro e W2 ⟨rfl, rfl⟩
        go_wp2
        go_roundw
        case rel => exact ⟨k + 1, by omega, by go_num, by rw [HS.out], R2⟩
        case measure => simp [intOf]; omega
      · obtain rfl : k = F.t.R.length := by omega
        have HT : Hid (((gainsL F u T).take F.t.R.length).sum = gainT F u T) := Lib.hid (by rw [gains_all, gainT_some F u hT0])
        go_wp2
        go_ret
        exact ⟨by rw [HT.out]; rfl, hbA.trans (hnx.mono hbA.size)⟩
  · obtain rfl : T = [] := List.eq_nil_of_length_eq_zero (by omega)
    have HT : Hid (gainT F u [] = 0) := Lib.hid (gainT_nil F u)
    have HB : Hid (Below w.heap.size w (w.alloc (Obj.cells #[F.o.val, F.t.val] 29))) := Lib.hid (by rw [← HA.out]; exact hbA)
    by_cases hR0 : 0 < F.t.R.length
    · have hR0i : (0 : Int) < (F.t.R.length : Int) := by omega
      go_enter Try.func40, Try.ntmps40
      go_wp2
      go_loopw [7, 8] (fun sv i wr => i = .int .i64 0 ∧ sv = .int .i64 0 ∧ wr = wA) (fun _ i _ => 0)
      case atStart => exact ⟨rfl, rfl, HA.out.symm⟩
      case round =>
        obtain ⟨rfl, rfl, rfl⟩ := hrel
        have y1 : wr.cell? ⟨w.heap.size, 1, none⟩ = some (.slice F.t.a F.t.R.length F.t.c) := HBX.out.c1
        go_wp2
        go_ret
        exact ⟨by rw [HT.out]; rfl, hbA⟩
    · have hR0i : ¬ (0 : Int) < (F.t.R.length : Int) := by omega
      go_enter Try.func40, Try.ntmps40
      go_wp2
      go_loopw [7, 8] (fun sv i wr => i = .int .i64 0 ∧ sv = .int .i64 0 ∧ wr = wA) (fun _ i _ => 0)
      case atStart => exact ⟨rfl, rfl, HA.out.symm⟩
      case round =>
        obtain ⟨rfl, rfl, rfl⟩ := hrel
        have y1 : wr.cell? ⟨w.heap.size, 1, none⟩ = some (.slice F.t.a F.t.R.length F.t.c) := HBX.out.c1
        go_wp2
        go_ret
        exact ⟨by rw [HT.out]; rfl, hbA⟩

set_option maxRecDepth 16000 in
set_option maxHeartbeats 1000000 in
theorem gain_any (F : Fld) (u : Int) (s : Row) (T : List Nat) (w : World) (hF : F.At w) (hs : s.At w) (hf : Worthy F u s T) :
    Calls Try.prog 66 #[.agg #[.slice F.o.a F.o.l.length F.o.c, .slice F.t.a F.t.R.length F.t.c, .int .i64 u], .slice s.a s.l.length s.c] w fun e w' => e = .returned (.int .i64 (gainT F u T)) ∧ Below w.heap.size w w' := by
  obtain ⟨wA, hA, hbA, bx, hFA, hszA⟩ := laid_val F u w 50 hF
  have HSA := Lib.hid (hs.on hbA)
  have HFA := Lib.hid hFA
  have HBX := Lib.hid bx
  have HA := Lib.hid hA
  obtain ⟨hg, hu0, hu1⟩ := worthB_iff.1 hf.good
  have hsz := good_sizes hg
  have hRi : (F.t.R.length : Int) ≤ 7 := by omega
  have HFI := Lib.hid hf
  have HLB := Lib.hid (gainsL_bound hf.good T)
  have hsl : s.l.length = T.length := by rw [hf.set, up_length]
  have hTi : (T.length : Int) ≤ 1048576 := by have := hf.few; omega
  have HLS := Lib.hid (lens_bound hg T)
  have x0 := bx.c0
  have x1 := bx.c1
  rw [hA] at x0 x1
  by_cases hT0 : 0 < T.length
  · have hT0i : (0 : Int) < (s.l.length : Int) := by omega
    have CS := Lib.hid (servedLengths_any F s T wA hFA (hs.on hbA) (hf.fine hT0))
    clear hF hs hA hFA bx hf hsl
    go_enter Try.func66, Try.ntmps66
    go_wp2_with fail
    rw [← HA.out]
    refine (show Calls _ _ _ _ _ from CS.out).mono ?_
    rintro e W1 ⟨t, rfl, htl, _, hti, hb1⟩
    have hbw := hbA.trans (hb1.mono hbA.size)
    have htn : t.l.length = F.t.R.length := by rw [htl, lens_length]
    obtain ⟨h1, h2, h3⟩ := hti.at
    have HR := Lib.hid h3
    have HTL := Lib.hid htl
    have y2 := (HBX.out.on hb1).c2
    have HTN := Lib.hid htn
    rw [htn]
    clear htn htl hti h1 h2 h3 x0 x1
    go_wp2
    go_loopw [5, 7, 16] (fun sv _ i wr => ∃ k : Nat, k ≤ F.t.R.length ∧ i = .int .i64 k ∧ sv = .int .i64 ((gainsL F u T).take k).sum ∧ wr = W1) (fun _ _ i _ => F.t.R.length - (intOf i).toNat)
    case atStart => exact ⟨0, Nat.zero_le _, rfl, by simp, rfl⟩
    case round =>
      obtain ⟨k, hk, rfl, rfl, rfl⟩ := hrel
      by_cases hlt : k < F.t.R.length
      · have hlti : (k : Int) < (F.t.R.length : Int) := by omega
        rcases HR.out with h3 | ⟨b, o, ha, hbb, hcell⟩
        · have h3' := congrArg List.length (iv_nil h3); rw [List.length_nil, HTN.out] at h3'; omega
        obtain ⟨x, hx⟩ : ∃ x, x = F.t.R[k].l.getD (near F.t.R[k].l T) 0 := ⟨_, rfl⟩
        have hx2 : (lens F.t.con T)[k]'(by rw [lens_length]; exact hlt) = x := by rw [lens_at F T hlt, hx]
        have hxb := HLS.out x (by rw [← hx2]; exact List.getElem_mem _)
        have hcl : wr.cell? ⟨b, o + k, none⟩ = some (.int .i64 x) := by
          refine hcell k _ ?_
          rw [iv_at (by rw [HTN.out]; exact hlt)]
          simp only [HTL.out, hx2]
        obtain ⟨z, hz⟩ : ∃ z, z = max 0 (u - x) := ⟨_, rfl⟩
        have hzb : 0 ≤ z ∧ z ≤ 999 := by omega
        obtain ⟨y, hy⟩ : ∃ y, y = ((gainsL F u T).take k).sum := ⟨_, rfl⟩
        have hyb := take_bnd HLB.out k
        have hlk : ((gainsL F u T).take k).length = k := by rw [List.length_take, gainsL_len]; omega
        rw [← hy, hlk] at hyb
        rw [← hy]
        have HS : Hid (((gainsL F u T).take (k + 1)).sum = y + max 0 (u - x)) := Lib.hid (by rw [gains_step hlt, hy, hx])
        have e1 : (0 : Int) ≤ y + max 0 (u - x) := by omega
        have e2 : y + max 0 (u - x) ≤ 9223372036854775807 := by omega
        have e3 : -9223372036854775808 ≤ u - x := by omega
        have e4 : u - x ≤ 9223372036854775807 := by omega
        rw [ha]
        clear hx hx2 hy hz hlk ha hcell
        go_wp2
        go_roundw
        case rel => exact ⟨k + 1, by omega, by go_num, by rw [HS.out]; congr 2; split <;> omega, by first | rfl | trivial⟩
        case measure => simp [intOf]; omega
      · obtain rfl : k = F.t.R.length := by omega
        have HT : Hid (((gainsL F u T).take F.t.R.length).sum = gainT F u T) := Lib.hid (by rw [gains_all, gainT_some F u hT0])
        go_wp2
        go_ret
        exact ⟨by rw [HT.out]; rfl, hbw⟩
  · obtain rfl : T = [] := List.eq_nil_of_length_eq_zero (by omega)
    have hs0 : s.l.length = 0 := by rw [hsl]; rfl
    have HT : Hid (gainT F u [] = 0) := Lib.hid (gainT_nil F u)
    have HB : Hid (Below w.heap.size w (w.alloc (Obj.cells #[.slice F.o.a F.o.l.length F.o.c, .slice F.t.a F.t.R.length F.t.c, .int .i64 u] 50))) := Lib.hid (by rw [← HA.out]; exact hbA)
    rw [hs0]
    clear hF hs hA hFA bx hf hsl hs0
    go_enter Try.func66, Try.ntmps66
    go_wp2
    go_ret
    exact ⟨by rw [HT.out]; rfl, HB.out⟩
end Go.Proofs.Ytbochmpkjacnnaa
