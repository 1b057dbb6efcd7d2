/- The contract of the least sum of a length and a price, on the model's side. Condition: a valid Field, a valid set with at least one site, prices of as many sites. -/
import Derived.Test.YtehmjmknegnojaaPlainFlowP
namespace Go.Proofs.Ytehmjmknegnojaa
open Go.RowKit

set_option maxRecDepth 16000 in
set_option maxHeartbeats 2000000 in
theorem l7Offer_any (F : Fld) (s p : Row) (T : List Nat) (i : Nat) (w : World) (hF : F.At w) (hs : s.At w) (hp : p.At w) (hf : Fine F s T) (hpl : p.l.length = F.o.l.length) (hpb : p.l.all (upTo 999) = true) (hi : i < F.t.R.length) :
    Calls Try.prog 71 #[F.val, .slice s.a s.l.length s.c, .slice p.a p.l.length p.c, .int .i64 i] w fun e w' => e = .returned (.int .i64 (offer F.t.R[i].l p.l T)) ∧ Below w.heap.size w w' := by
  obtain ⟨wA, hA, hbA, bx, hFA, _⟩ := laid_fld F w 29 hF
  have hsA := hs.on hbA
  have hpA := hp.on hbA
  have hsz := good_sizes hf.good
  obtain ⟨r, hr⟩ : ∃ r, r = F.t.R[i] := ⟨_, rfl⟩
  have hrm : r ∈ F.t.R := by rw [hr]; exact List.getElem_mem hi
  have hgr := good_row hf.good hrm
  have hsl : s.l.length = T.length := by rw [hf.set, up_length]
  have h0 := hf.some
  obtain ⟨bt, ot, hta, hbt, hct⟩ := tabAll hFA.2 (by omega)
  obtain ⟨bs, os, hsa, hbs, hcs⟩ := rowAll hsA (by omega)
  obtain ⟨bp, op, hpa, hbp, hcp⟩ := rowAll hpA (by omega)
  obtain ⟨br, or, hra, hbr, hcr⟩ := rowAll (hFA.2.2 r hrm) (by rw [hgr.1]; omega)
  have hci := hct i hi
  rw [← hr, hra] at hci
  have HS : Hid (∀ k (h : k < T.length), wA.cell? ⟨bs, os + k, none⟩ = some (.int .i64 (T[k] : Int)) ∧ T[k] < F.o.l.length) := Lib.hid fun k h => by
    refine ⟨?_, hf.lt _ (List.getElem_mem h)⟩
    have h2 := hcs k (by rw [hsl]; exact h)
    rw [getD_at (by rw [hsl]; exact h)] at h2
    have h3 : s.l[k]'(by rw [hsl]; exact h) = (T[k] : Int) := by
      have h4 := hf.set
      simp only [h4]; exact up_at h
    rw [h3] at h2; exact h2
  have HP : Hid (∀ m, m < F.o.l.length → wA.cell? ⟨bp, op + m, none⟩ = some (.int .i64 (p.l.getD m 0)) ∧ 0 ≤ p.l.getD m 0 ∧ p.l.getD m 0 ≤ 999) := Lib.hid fun m hm => ⟨hcp m (by rw [hpl]; exact hm), upTo_at hpb (by rw [hpl]; exact hm)⟩
  have HR : Hid (∀ m, m < F.o.l.length → wA.cell? ⟨br, or + m, none⟩ = some (.int .i64 (r.l.getD m 0)) ∧ 0 ≤ r.l.getD m 0 ∧ r.l.getD m 0 ≤ 99) := Lib.hid fun m hm => ⟨hcr m (by rw [hgr.1]; exact hm), getD_bound hgr.2 _⟩
  have x1 : wA.cell? ⟨w.heap.size, 1, none⟩ = some (.slice F.t.a F.t.R.length F.t.c) := bx.c1
  rw [hta] at x1
  have hii : (i : Int) < (F.t.R.length : Int) := by omega
  have hTi : (T.length : Int) ≤ 9223372036854775807 := by have := row_lim hsA; omega
  have h0i : (0 : Int) < (T.length : Int) := by omega
  obtain ⟨n, hn⟩ : ∃ n, n = F.o.l.length := ⟨_, rfl⟩
  have hni : (n : Int) ≤ 7 := by omega
  rw [hsa, hpa, hsl, hpl, ← hr]
  rw [← hn] at HS HP HR hpl ⊢
  rw [hgr.1, ← hn] at hci
  obtain ⟨t0, ht0⟩ : ∃ t, t = T[0] := ⟨_, rfl⟩
  obtain ⟨hs0, hl0⟩ := HS.out 0 h0
  rw [Nat.add_zero, ← ht0] at hs0
  rw [← ht0] at hl0
  obtain ⟨x, hx⟩ : ∃ x, x = r.l.getD t0 0 := ⟨_, rfl⟩
  obtain ⟨y, hy⟩ : ∃ y, y = p.l.getD t0 0 := ⟨_, rfl⟩
  obtain ⟨hr0, hr1⟩ := HR.out t0 hl0
  obtain ⟨hp0, hp1⟩ := HP.out t0 hl0
  rw [← hx] at hr0 hr1
  rw [← hy] at hp0 hp1
  have HM : Hid (Lib.minOf ((offersOf r.l p.l T).take 1) = x + y) := Lib.hid (by rw [offers_one h0, mn_one, hx, hy, ht0])
  have hl0i : (t0 : Int) < (n : Int) := by omega
  have e1 : IntKind.i64.wrap (x + y) = x + y := IntWalk.i64_in _ (by omega)
  have HA := Lib.hid hA
  have HX1 := Lib.hid x1
  have HCI := Lib.hid hci
  have HN := Lib.hid hn
  clear hF hs hp hf hA bx hFA hsA hpA hsz hr hrm hgr hsl hta hct hsa hcs hpa hcp hra hcr ht0 hx hy hpb hn
  show Calls _ _ #[.agg #[.slice F.o.a F.o.l.length F.o.c, .slice F.t.a F.t.R.length F.t.c], _, _, _] w _
  go_enter Try.func71, Try.ntmps71
  go_wp2_with fail
  rw [show w.alloc (Obj.cells #[Value.slice F.o.a F.o.l.length F.o.c, Value.slice F.t.a F.t.R.length F.t.c] 29) = wA from HA.out.symm]
  go_quiet (fail)
  clear x1 hci hs0 hr0 hp0
  go_wp2
  go_loopw [9, 10] (fun bv iv wr => ∃ k : Nat, 1 ≤ k ∧ k ≤ T.length ∧ iv = .int .i64 k ∧ bv = .int .i64 (Lib.minOf ((offersOf r.l p.l T).take k)) ∧ DrewTo wA wr) (fun _ iv _ => T.length - (intOf iv).toNat)
  case atStart => exact ⟨1, Nat.le_refl _, h0, rfl, by rw [HM.out], ⟨_, rfl⟩⟩
  case round =>
    obtain ⟨k, hk1, hk, rfl, rfl, hdw⟩ := hrel
    by_cases hlt : k < T.length
    · have hlti : (k : Int) < (T.length : Int) := by omega
      obtain ⟨m, hm⟩ : ∃ m, m = T[k] := ⟨_, rfl⟩
      obtain ⟨hsk, hml⟩ := HS.out k hlt
      rw [← hm] at hsk hml
      obtain ⟨a, ha⟩ : ∃ x, x = r.l.getD m 0 := ⟨_, rfl⟩
      obtain ⟨b, hb⟩ : ∃ y, y = p.l.getD m 0 := ⟨_, rfl⟩
      obtain ⟨hra, hrb⟩ := HR.out m hml
      obtain ⟨hpa, hpb⟩ := HP.out m hml
      rw [← ha] at hra hrb
      rw [← hb] at hpa hpb
      have hmi : (m : Int) < (n : Int) := by omega
      have c1 : wr.cell? ⟨w.heap.size, 1, none⟩ = some (.slice (some ⟨bt, ot, none⟩) F.t.R.length F.t.c) := by rw [hdw.cell]; exact HX1.out
      have c2 : wr.cell? ⟨bt, ot + i, none⟩ = some (.slice (some ⟨br, or, none⟩) n r.c) := by rw [hdw.cell]; exact HCI.out
      have c3 : wr.cell? ⟨bs, os + k, none⟩ = some (.int .i64 (m : Int)) := by rw [hdw.cell]; exact hsk
      have c4 : wr.cell? ⟨br, or + m, none⟩ = some (.int .i64 a) := by rw [hdw.cell]; exact hra
      have c5 : wr.cell? ⟨bp, op + m, none⟩ = some (.int .i64 b) := by rw [hdw.cell]; exact hpa
      obtain ⟨q, hq⟩ : ∃ q, q = Lib.minOf ((offersOf r.l p.l T).take k) := ⟨_, rfl⟩
      have HST : Hid (Lib.minOf ((offersOf r.l p.l T).take (k + 1)) = min q (a + b)) := Lib.hid (by
        rw [offers_step hlt, mn_snoc (by rw [List.length_take, offers_len]; omega), hq, ha, hb, hm])
      have e2 : IntKind.i64.wrap (a + b) = a + b := IntWalk.i64_in _ (by omega)
      have CL := Lib.hid fun u => leastF_any q (a + b) u
      rw [← hq]
      clear hm ha hb hra hpa hsk hq
      go_wp2
      go_quiet ((go_at_call 83; exact Calls.quiet_of_same (CL.out _)))
      clear c1 c2 c3 c4 c5
      go_wp2
      go_roundw
      case rel => exact ⟨k + 1, by omega, by omega, by go_num, by rw [HST.out], hdw.more _⟩
      case measure => simp [intOf]; omega
    · obtain rfl : k = T.length := by omega
      have HE : Hid (Lib.minOf ((offersOf r.l p.l T).take T.length) = offer r.l p.l T) := Lib.hid (by rw [offers_all]; rfl)
      go_wp2
      go_ret
      exact ⟨by rw [HE.out]; rfl, hbA.trans (hdw.below.mono hbA.size)⟩
end Go.Proofs.Ytehmjmknegnojaa
