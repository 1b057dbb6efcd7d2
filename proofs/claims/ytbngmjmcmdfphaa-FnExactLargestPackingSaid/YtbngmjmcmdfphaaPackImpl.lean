/- Whether a choice is a packing, as the program has it. Condition: System and choice read as such. -/
import Derived.Test.YtbngmjmcmdfphaaPlainPack
namespace Go.Proofs.Ytbngmjmcmdfphaa
open Go.RowKit Go.Shelf

set_option maxRecDepth 16000 in
set_option maxHeartbeats 1500000 in
theorem isPacking_any (S : Sys) (c : Row) (T : List Nat) (w : World) (hS : S.At w) (hc : c.At w) (hf : FineS S c T) :
    Calls Try.prog 41 #[.agg #[.int .i64 S.n, .slice S.f.t.a S.f.t.R.length S.f.t.c, .slice S.f.o.a S.f.o.l.length S.f.o.c], .slice c.a c.l.length c.c] w fun e w' => e = .returned (.bool (packB S.f.t.con T)) ∧ Below w.heap.size w w' := by
  obtain ⟨wA, hA, hb, bx, hSA, hszA⟩ := laid_sys S w 29 hS
  have HTA := Lib.hid hSA.2
  have HCA := Lib.hid (hc.on hb)
  have HBX := Lib.hid bx
  have HSET := Lib.hid hf.set
  have HCL := Lib.hid (con_length S.f.t)
  have HLT := Lib.hid (fun m hm => by have := hf.lt m hm; rw [con_length] at this; exact this : ∀ m ∈ T, m < S.f.t.R.length)
  obtain ⟨-, -, -, g4, -, -, -⟩ := good_n hf.good
  have hRi : (S.f.t.R.length : Int) ≤ 8 := by have := HCL.out; omega
  have H8 := Lib.hid (good_row8 hf.good)
  obtain ⟨n, hn⟩ : ∃ n, n = c.l.length := ⟨_, rfl⟩
  have HTN : Hid (T.length = n) := Lib.hid (by rw [hn, hf.set, up_length])
  have hn8 : n ≤ 8 := by have := HTN.out; have := hf.few; omega
  have hni : (n : Int) ≤ 8 := by omega
  obtain ⟨q, hq⟩ : ∃ q : Nat → Nat, q = fun k => (flatS S.f.t.con (T.take k)).length := ⟨_, rfl⟩
  have HQS : Hid (∀ k, (hk : k < T.length) → q (k + 1) = q k + (S.f.t.con.getD T[k] []).length) := Lib.hid (fun k hk => by rw [hq]; simp only; rw [flatS_step _ _ hk, List.length_append])
  have HQ0 : Hid (q 0 = 0) := Lib.hid (by rw [hq]; rfl)
  have HQB : Hid (∀ k, q k ≤ 64) := Lib.hid (fun k => by
    rw [hq]; simp only
    have h1 := flat_bound (d := S.f.t.con) (n := 8) (good_row8 hf.good) (T.take k)
    have h2 := hf.few
    rw [List.length_take] at h1
    omega)
  have HEM : Hid (∀ k, (hk : k < T.length) → S.f.t.con.getD T[k] [] = [] → packB S.f.t.con T = false) := Lib.hid (fun k hk h => pack_empty hk h)
  obtain ⟨z, hz⟩ : ∃ z, z = (elsT S.f.t.con T).length := ⟨_, rfl⟩
  have HEND : Hid (∀ k, k = n → (∀ j, (hj : j < T.length) → j < k → S.f.t.con.getD T[j] [] ≠ []) → packB S.f.t.con T = ((z : Int) == (q k : Int))) := Lib.hid (fun k hk h => by
    rw [pack_count _ _ (fun j hj => h j hj (by have := HTN.out; omega)), hz, hq]
    simp only
    rw [List.take_of_length_le (by rw [HTN.out, hk]; exact Nat.le_refl _)]
    by_cases e : (elsT S.f.t.con T).length = (flatS S.f.t.con T).length
    · rw [e]; simp
    · have e' : ¬ ((elsT S.f.t.con T).length : Int) = ((flatS S.f.t.con T).length : Int) := by omega
      rw [beq_eq_false_iff_ne.2 e, beq_eq_false_iff_ne.2 e'])
  have CB := Lib.hid (fun u (hu : Below wA.heap.size wA u) => (elementsOf_any S c T u (Sys.At.on (show S.At wA from hSA) hu) ((hc.on hb).on hu) (good_row8 hf.good) hf.set hf.lt hf.few).mono (R' := fun e w' => ∃ a cc, e = .returned (.slice a z cc) ∧ Below u.heap.size u w') (fun e w' ⟨t, h1, h2, _, _, h5⟩ => ⟨t.a, t.c, by rw [h1, hz]; rw [h2], h5⟩))
  have HA := Lib.hid hA
  have HB := Lib.hid hb
  rw [← hn] at CB ⊢
  clear hS hc bx hSA hf hn g4 hq hz hszA hb
  go_enter Try.func41, Try.ntmps41
  go_wp2_with fail
  try rw [← HA.out]
  go_loopw [5, 7, 10] (fun cv _ ix wr => ∃ k : Nat, k ≤ n ∧ ix = .int .i64 k ∧ cv = .int .i64 (q k : Int) ∧ Hid (∀ j, (hj : j < T.length) → j < k → S.f.t.con.getD T[j] [] ≠ []) ∧ Below wA.heap.size wA wr) (fun _ _ ix _ => n - (intOf ix).toNat)
  case atStart => exact ⟨0, Nat.zero_le _, rfl, by rw [HQ0.out]; rfl, Lib.hid (fun j _ h => by omega), by rw [HA.out]; exact Below.refl _ _⟩
  case round =>
    obtain ⟨k, hk, rfl, rfl, HNE, hnx⟩ := hrel
    have HNX := Lib.hid hnx
    clear hnx
    have x0 := (HBX.out.on HNX.out).c0
    have x1 := (HBX.out.on HNX.out).c1
    have x2 := (HBX.out.on HNX.out).c2
    have HBR := Lib.hid (HB.out.trans (HNX.out.mono HB.out.size))
    by_cases hltk : k < n
    · have hlti : (k : Int) < (n : Int) := by omega
      have hkT : k < T.length := by rw [HTN.out]; exact hltk
      obtain ⟨b, o, ha, hcl⟩ := up_cells HCA.out HNX.out HSET.out hkT
      obtain ⟨m, hm⟩ : ∃ m, m = T[k] := ⟨_, rfl⟩
      have HQK := Lib.hid (HQS.out k hkT)
      have HEK := Lib.hid (HEM.out k hkT)
      have hqk := HQB.out k
      have hqk1 := HQB.out (k + 1)
      have hmR : m < S.f.t.R.length := HLT.out m (by rw [hm]; exact List.getElem_mem _)
      have hmi : (m : Int) < (S.f.t.R.length : Int) := by omega
      obtain ⟨bt, ot, r, hta, hcr, hrat, hrl, hrm⟩ := tab_cells HTA.out HNX.out hmR
      have HRL : Hid (S.f.t.con.getD T[k] [] = r.l) := Lib.hid (by rw [← hm]; exact hrl)
      have hr8 : r.l.length ≤ 8 := H8.out r.l (by unfold Tab.con; exact List.mem_map_of_mem hrm)
      obtain ⟨y, hy⟩ : ∃ y, y = r.l.length := ⟨_, rfl⟩
      obtain ⟨s, hs⟩ : ∃ s, s = q k := ⟨_, rfl⟩
      have HS1 : Hid (q (k + 1) = s + y) := Lib.hid (by rw [HQK.out, HRL.out, hs, hy])
      have HYE : Hid (y = 0 → packB S.f.t.con T = false) := Lib.hid (fun h => HEK.out (by rw [HRL.out]; exact List.eq_nil_of_length_eq_zero (by omega)))
      have HYN : Hid (y ≠ 0 → S.f.t.con.getD T[k] [] ≠ []) := Lib.hid (fun h e => h (by rw [HRL.out] at e; rw [hy, e]; rfl))
      rw [← hm] at hcl
      rw [← hy] at hcr
      rw [← hs] at hqk ⊢
      have hyi : (y : Int) ≤ 8 := by omega
      have hsi : (s : Int) ≤ 64 := by omega
      rw [hta] at x1
      rw [ha]
      clear hm ha hta hrl hrm hrat hy hs hr8 hqk1
      by_cases h0 : y = 0
      · subst h0
        have HE := Lib.hid (HYE.out rfl)
        go_wp2
        go_ret
        exact ⟨by rw [HE.out]; rfl, HBR.out⟩
      · have hee : ((y : Int) == 0) = false := by simp; omega
        have hee2 : ¬ ((y : Int) = 0) := by omega
        have HN2 : Hid (∀ j, (hj : j < T.length) → j < k + 1 → S.f.t.con.getD T[j] [] ≠ []) := Lib.hid (fun j hj h => by
          rcases Nat.lt_succ_iff_lt_or_eq.1 h with h | rfl
          · exact HNE.out j hj h
          · exact HYN.out h0)
        have e1 : -9223372036854775808 ≤ (s : Int) + (y : Int) := by omega
        have e2 : (s : Int) + (y : Int) ≤ 9223372036854775807 := by omega
        clear h0
        go_wp2
        go_roundw
        case rel => exact ⟨k + 1, by omega, by go_num, by rw [HS1.out]; first | done | go_num, HN2, HNX.out⟩
        case measure => simp [intOf] <;> omega
    · obtain rfl : k = n := by omega
      have HE := Lib.hid (HEND.out k rfl HNE.out)
      obtain ⟨s, hs⟩ : ∃ s, s = q k := ⟨_, rfl⟩
      rw [← hs] at HE ⊢
      clear hs
      have CB1 := Lib.hid (CB.out wr HNX.out)
      go_wp2_with fail
      refine (show Calls _ _ _ _ _ from CB1.out).mono ?_
      rintro e W1 ⟨a1, c1, rfl, hb1⟩
      have HBB := Lib.hid (HBR.out.trans (hb1.mono HBR.out.size))
      clear hb1
      go_wp2
      go_ret
      exact ⟨by first | rfl | (rw [HE.out]; rfl) | (rw [HE.out]), HBB.out⟩
end Go.Proofs.Ytbngmjmcmdfphaa
