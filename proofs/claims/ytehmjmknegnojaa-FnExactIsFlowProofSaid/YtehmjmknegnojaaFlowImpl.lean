/- The contracts of the test whether lists are a flow, on the program's side. Condition: the arguments read as such. -/
import Derived.Test.YtehmjmknegnojaaPlainFlowD
import Derived.Test.YtehmjmknegnojaaSupply
import Derived.Test.YtehmjmknegnojaaMostImpl
import Derived.OwnWalk
import Derived.Deep.OwnRows
import Derived.WalkKit
namespace Go.Proofs.Ytehmjmknegnojaa
open Go.RowKit

/-- What make lays. -/
theorem own_madeF (w : World) (B n : Nat) (e : TypeId) (hB : B ≤ w.heap.size) (hn : n ≤ maxLen) : (w.alloc (.cells (madeCells #[.int .i64 0] n) e)).ownsRow B e 1 (.slice (some ⟨w.heap.size, 0, none⟩) n n) n (iv (List.replicate n 0)) := by
  refine ⟨by simp [iv], .inr ⟨w.heap.size, n, madeCells #[.int .i64 0] n, rfl, hB, heap_alloc_new w _, Nat.le_refl _, hn, by simp [size_madeCells], ?_⟩⟩
  rw [Nat.mul_one, List.take_of_length_le (by simp [size_madeCells])]
  apply List.ext_getElem
  · simp [iv, madeCells]
  · intro i h1 h2; simp [iv, madeCells, Nat.mod_one]

theorem own_lower {w : World} {B B' : Nat} {e : TypeId} {v : Value} {n : Nat} {xs : List Value} (h : w.ownsRow B e 1 v n xs) (hB : B' ≤ B) : w.ownsRow B' e 1 v n xs := by
  obtain ⟨h1, h2⟩ := id h
  refine ⟨h1, ?_⟩
  rcases h2 with h2 | ⟨g, cap, cur, rfl, hb, r⟩
  · exact .inl h2
  · exact .inr ⟨g, cap, cur, rfl, Nat.le_trans hB hb, r⟩

set_option maxRecDepth 16000 in
set_option maxHeartbeats 2000000 in
theorem openRooms_any (F : Fld) (r n s : Row) (T : List Nat) (w : World) (hr : r.At w) (hs : s.At w) (hT : s.l = up T) (hlt : ∀ m ∈ T, m < r.l.length) (h7 : r.l.length ≤ 7) :
    Calls Try.prog 66 #[.agg #[.slice F.o.a F.o.l.length F.o.c, .slice F.t.a F.t.R.length F.t.c, .slice r.a r.l.length r.c, .slice n.a n.l.length n.c, .slice s.a s.l.length s.c]] w fun e w' => ∃ g, e = .returned (.slice (some ⟨g, 0, none⟩) r.l.length r.l.length) ∧ w.heap.size ≤ g ∧ w'.ownsRow w.heap.size 3 1 (.slice (some ⟨g, 0, none⟩) r.l.length r.l.length) r.l.length (iv (openR r.l s.l)) ∧ Below w.heap.size w w' := by
  obtain ⟨wA, hA, hbA, bx, hszA⟩ := laid_box #[.slice F.o.a F.o.l.length F.o.c, .slice F.t.a F.t.R.length F.t.c, .slice r.a r.l.length r.c, .slice n.a n.l.length n.c, .slice s.a s.l.length s.c] w 59
  have c2 := bx.cell 2 rfl
  rw [hA] at c2
  obtain ⟨m, hm⟩ : ∃ m, m = r.l.length := ⟨_, rfl⟩
  have hmi : (m : Int) ≤ 7 := by omega
  have hsl : s.l.length = T.length := by rw [hT, up_length]
  have hsi : (T.length : Int) ≤ 9223372036854775807 := by have := row_lim hs; omega
  obtain ⟨wB, hB⟩ : ∃ wB, wB = wA.alloc (.cells (madeCells #[.int .i64 0] m) 3) := ⟨_, rfl⟩
  have hbB : Below wA.heap.size wA wB := by rw [hB]; exact below_alloc wA _
  have H0 : Hid (wB.ownsRow (w.heap.size + 1) 3 1 (.slice (some ⟨w.heap.size + 1, 0, none⟩) m m) m (iv (openTo r.l T 0))) := Lib.hid (by
    have := own_madeF wA (w.heap.size + 1) m 3 (by omega) (by unfold maxLen; omega)
    rw [hszA] at this
    rw [hB, openTo_zero, ← hm]; exact this)
  have HC : Hid (∀ k (h : k < T.length), ∃ bs os br or, s.a = some ⟨bs, os, none⟩ ∧ r.a = some ⟨br, or, none⟩ ∧ bs < wA.heap.size ∧ br < wA.heap.size ∧ wA.cell? ⟨bs, os + k, none⟩ = some (.int .i64 (T[k] : Int)) ∧ wA.cell? ⟨br, or + T[k], none⟩ = some (.int .i64 (r.l.getD T[k] 0)) ∧ T[k] < m) := Lib.hid fun k h => by
    have hk := hlt _ (List.getElem_mem h)
    obtain ⟨bs, os, hsa, hbs, hcs⟩ := rowAll (hs.on hbA) (by omega)
    obtain ⟨br, or, hra, hbr, hcr⟩ := rowAll (hr.on hbA) (by omega)
    have h2 := hcs k (by omega)
    rw [getD_at (by omega)] at h2
    have h3 : s.l[k]'(by omega) = (T[k] : Int) := by simp only [hT]; exact up_at h
    rw [h3] at h2
    exact ⟨bs, os, br, or, hsa, hra, hbs, hbr, h2, hcr _ hk, by omega⟩
  have d4 : wB.cell? ⟨w.heap.size, 4, none⟩ = some (.slice s.a s.l.length s.c) := (bx.on hbB).cell 4 rfl
  rw [hB, hA] at d4
  have HBX := Lib.hid bx
  have HA := Lib.hid hA
  have HB := Lib.hid hB
  have HBB := Lib.hid hbB
  have HTT : Hid (openTo r.l T T.length = openR r.l s.l) := Lib.hid (by rw [openTo_all, hT])
  have HM := Lib.hid hm
  have HSL := Lib.hid hsl
  have HL : Hid (∀ k, (openTo r.l T k).length = m) := Lib.hid fun k => by rw [openTo_len, hm]
  rw [hsl] at d4 ⊢
  rw [← hm] at c2 ⊢
  have hmk := run_make_row' (P := Try.prog) 22 3 (.int .i64 0) 8 Try.underlying22 infoInt rfl .i64 .i64 m (by omega) (by omega)
  clear hr hs hT hlt hA bx hB hbB hm hsl h7
  go_enter Try.func66, Try.ntmps66
  go_wp2
  go_loopw [5, 13] (fun _ jv wr => ∃ k : Nat, k ≤ T.length ∧ jv = .int .i64 k ∧ wr.ownsRow (w.heap.size + 1) 3 1 (.slice (some ⟨w.heap.size + 1, 0, none⟩) m m) m (iv (openTo r.l T k)) ∧ Below wA.heap.size wA wr) (fun _ jv _ => T.length - (intOf jv).toNat)
  case atStart =>
    have h0 := H0.out
    have h1 := HBB.out
    have e := HB.out
    rw [HA.out, ← HM.out, HSL.out] at e
    rw [e] at h0 h1
    exact ⟨0, Nat.zero_le _, rfl, h0, h1⟩
  case round =>
    obtain ⟨k, hk, rfl, hown, hnx⟩ := hrel
    clear c2 d4 hmk
    by_cases hlt : k < T.length
    · have hlti : (k : Int) < (T.length : Int) := by omega
      obtain ⟨bs, os, br, or, hsa, hra, hbs, hbr, hc1', hc2', hqm⟩ := HC.out k hlt
      obtain ⟨q, hq⟩ : ∃ q, q = T[k] := ⟨_, rfl⟩
      rw [← hq] at hc1' hc2' hqm
      obtain ⟨x, hx⟩ : ∃ x, x = r.l.getD q 0 := ⟨_, rfl⟩
      rw [← hx] at hc2'
      have hc1 : wr.cell? ⟨bs, os + k, none⟩ = some (.int .i64 (q : Int)) := (hnx.cell (p := ⟨bs, os + k, none⟩) hbs).trans hc1'
      have hc2 : wr.cell? ⟨br, or + q, none⟩ = some (.int .i64 x) := (hnx.cell (p := ⟨br, or + q, none⟩) hbr).trans hc2'
      have z2 : wr.cell? ⟨w.heap.size, 2, none⟩ = some (.slice (some ⟨br, or, none⟩) m r.c) := by have := (HBX.out.on hnx).cell 2 rfl; rw [hra, ← HM.out] at this; exact this
      have hqi : (q : Int) < (m : Int) := by omega
      have hf := hown.frozenAt q
      have hcs : wr.cell? ⟨w.heap.size + 1, q, none⟩ = some (.int .i64 ((openTo r.l T k).getD q 0)) := (hown.cellAt q (by omega)).trans (by rw [iv_at (by rw [HL.out]; exact hqm), getD_at (by rw [HL.out]; exact hqm)])
      have hst := hown.stored q (.int .i64 x)
      have hset : (iv (openTo r.l T k)).set q (.int .i64 x) = iv (openTo r.l T (k + 1)) := by
        rw [← openTo_set r.l T hlt, ← hq, ← hx]; unfold iv; rw [List.map_set]
      rw [hset] at hst
      have R1 := Lib.hid hst.1
      have R2 := Lib.hid (hnx.setCell (p := ⟨w.heap.size + 1, q, none⟩) (by rw [hszA]; exact Nat.le_refl _) (.int .i64 x))
      rw [hsa]
      clear hsa hc1' hc2' hq hx hst hset hown hnx
      go_wp2
      go_roundw
      case rel => exact ⟨k + 1, by omega, by go_num, R1.out, R2.out⟩
      case measure => simp [intOf]; omega
    · obtain rfl : k = T.length := by omega
      have HR : Hid (wr.ownsRow w.heap.size 3 1 (.slice (some ⟨w.heap.size + 1, 0, none⟩) m m) m (iv (openR r.l s.l))) := Lib.hid (by
        rw [HTT.out] at hown; exact own_lower hown (Nat.le_succ _))
      go_wp2
      go_ret
      exact ⟨w.heap.size + 1, rfl, Nat.le_succ _, HR.out, hbA.trans (hnx.mono hbA.size)⟩
end Go.Proofs.Ytehmjmknegnojaa
