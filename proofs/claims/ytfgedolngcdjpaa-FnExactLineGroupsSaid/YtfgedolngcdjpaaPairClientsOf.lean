/- Both sides of ClientsOf answer alike. Condition: Field and set read as such. -/
import Derived.Test.YtfgedolngcdjpaaGroups
namespace Go.Proofs.Ytfgedolngcdjpaa
open Go.RowKit Go.Maps

theorem own_base {w : World} {B B' : Nat} {e : TypeId} {v : Value} {n : Nat} {xs : List Value} (h : w.ownsRow B e 1 v n xs) (hB : B' ≤ B) : w.ownsRow B' e 1 v n xs := by
  obtain ⟨h1, h2⟩ := id h
  refine ⟨h1, ?_⟩
  rcases h2 with h2 | ⟨g, cap, cur, rfl, hg, r⟩
  · exact .inl h2
  · exact .inr ⟨g, cap, cur, rfl, Nat.le_trans hB hg, r⟩
theorem Grows.base {B B' : Nat} {w : World} {v : Value} {Q : List Row} (h : Grows B w v Q) (hB : B' ≤ B) : Grows B' w v Q := ⟨own_base h.own hB, h.lots, fun r hr => (h.ins r hr).wide hB (Nat.le_refl _), h.off⟩
theorem rise_pairwise (n : Int) : ∀ (T : List Nat) (lo : Int), rise n lo (up T) = true → (∀ m ∈ T, lo < (m : Int)) ∧ T.Pairwise (· < ·)
  | [], _, _ => ⟨by simp, List.Pairwise.nil⟩
  | x :: r, lo, h => by
    simp only [up, List.map_cons, rise, Bool.and_eq_true, decide_eq_true_eq] at h
    obtain ⟨h1, h2⟩ := rise_pairwise n r (x : Int) h.2
    refine ⟨fun m hm => ?_, List.pairwise_cons.2 ⟨fun m hm => by have := h1 m hm; omega, h2⟩⟩
    rcases List.mem_cons.1 hm with e | hm
    · rw [e]; exact h.1.1
    · have := h1 m hm; omega
theorem set_lt {n : Nat} {T : List Nat} (h : setB n (up T) = true) {j k : Nat} (hjk : j < k) (hk : k < T.length) : T[j] < T[k] := List.pairwise_iff_getElem.1 (rise_pairwise n T (-1) h).2 j k (by omega) hk hjk

theorem zeroInts (u : World) : (zeroValue 22).run Try.prog u = .ok (.slice none 0 0) u := by kernel_rfl

set_option maxHeartbeats 2000000 in
theorem implClients_any (F : Fld) (s : Row) (w : World) (hF : F.At w) (hs : s.At w) (hsm : s.l.length ≤ 1048576) (d : List (List Int)) (b : Bool) (hv : Clis F s d b) :
    Calls Try.prog 31 #[F.val, .slice s.a s.l.length s.c] w (PTab d b w) := by
  obtain ⟨i0, hi, hz0, hz1, hz2⟩ := info_parts infoInt
  obtain ⟨j0, hj, hj0, hj1, hj2⟩ := info_parts infoInts
  have hmm := @run_makeMap Try.prog
  obtain ⟨wA, hA, hbA, bx, hFA, hszA⟩ := laid_fld F w 37 hF
  have HSA := Lib.hid (hs.on hbA)
  have HFA := Lib.hid hFA
  have HBX := Lib.hid bx
  have HA := Lib.hid hA
  clear hF hs hA hFA bx
  show Calls _ _ #[.agg #[F.o.val, F.t.val], _] w _
  rcases hv with ⟨hv, rfl, rfl⟩ | ⟨T, hf, hv, rfl, rfl⟩
  · have CT := Lib.hid (implServed_any F s wA HFA.out HSA.out [] false (.inl ⟨hv, rfl, rfl⟩))
    clear hv
    go_enter Try.func31, Try.ntmps31
    go_wp2_with fail
    rw [show w.alloc (Obj.cells #[F.o.val, F.t.val] 37) = wA from HA.out.symm]
    refine (show Calls _ _ _ _ _ from CT.out).mono ?_
    rintro e W1 ⟨t, rfl, -, -, -, hb1⟩
    have hbw := hbA.trans (hb1.mono hbA.size)
    have HE := Lib.hid (tab_empty W1)
    have hb2 := below_alloc W1 (.cells #[] 22)
    go_wp2
    go_ret2
    exact tab_end HE.out rfl hbw.size (hbw.trans (hb2.mono hbw.size))
  · have CT := Lib.hid (implServed_any F s wA HFA.out HSA.out (served F.t.con T) true (.inr ⟨T, hf, hv, rfl, rfl⟩))
    have hti : (T.length : Int) ≤ 1048576 := by have := set_few hf hsm; omega
    have hsl : s.l.length = T.length := by rw [hf.set, up_length]
    have hsz := good_sizes hf.good
    have HFI := Lib.hid hf
    have HSL := Lib.hid hsl
    have HSET : Hid (setB F.o.l.length (up T) = true) := Lib.hid (by rw [← hf.set]; exact (twoB_iff.1 hv).2.1)
    clear hv hf hsm hsl
    go_enter Try.func31, Try.ntmps31
    go_wp2_with fail
    rw [show w.alloc (Obj.cells #[F.o.val, F.t.val] 37) = wA from HA.out.symm]
    refine (show Calls _ _ _ _ _ from CT.out).mono ?_
    rintro e W1 ⟨t, rfl, htl, -, hti2, hb1⟩
    have hbw := hbA.trans (hb1.mono hbA.size)
    have hb01 := hb1
    have htn : t.l.length = F.t.R.length := by rw [htl, served_length]
    obtain ⟨n, hn⟩ : ∃ n, n = t.l.length := ⟨_, rfl⟩
    have hni : (n : Int) ≤ 7 := by omega
    have HTA := Lib.hid hti2.at
    have HTL := Lib.hid htl
    have HN := Lib.hid (hn.trans htn)
    have HN2 := Lib.hid hn
    rw [← hn]
    clear htl hti2 htn hn hb1
    go_wp2
    go_loopw [9, 10, 26] (fun _ _ i wr => ∃ (k : Nat) (D : Dat), k ≤ n ∧ i = .int .i64 k ∧ wr.ownsGroups Try.prog 3 (W1.heap.size + 1) 3 .i64 W1.heap.size k D ∧ Says D (fun q => cliTo F.t.con T q k) ∧ Below W1.heap.size W1 wr ∧ W1.heap.size + 1 ≤ wr.heap.size) (fun _ _ i _ => n - (intOf i).toNat)
    case atStart => exact ⟨0, .map [], Nat.zero_le _, rfl, World.ownsGroups_made _ _ _ _ _, says_start _ _, (Below.refl _ _).alloc (Nat.le_refl _) _, by rw [size_alloc]; exact Nat.le_refl _⟩
    case round =>
      obtain ⟨k, D, hk, rfl, hown, hsay, hnx, hws⟩ := hrel
      by_cases hlt : k < n
      · have hlti : (k : Int) < (n : Int) := by omega
        have hltR : k < F.t.R.length := by rw [← HN.out]; exact hlt
        obtain ⟨_, _, h3⟩ := HTA.out
        rcases h3 with h3 | ⟨bb, o, ha, hbb, hcell⟩
        · have h3' := congrArg List.length (iv_nil h3); rw [← HN2.out, List.length_nil] at h3'; omega
        obtain ⟨q, hq⟩ : ∃ q, q = near F.t.R[k].l T := ⟨_, rfl⟩
        have hcq : wr.cell? ⟨bb, o + k, none⟩ = some (.int .i64 (q : Int)) := by
          refine (hnx.cell (p := ⟨bb, o + k, none⟩) hbb).trans (hcell k _ ?_)
          have h5 : t.l[k]'(by rw [← HN2.out]; exact hlt) = (q : Int) := by
            have h6 : (t.l)[k]? = (served F.t.con T)[k]? := by rw [HTL.out]
            rw [List.getElem?_eq_getElem (by rw [← HN2.out]; exact hlt), List.getElem?_eq_getElem (by rw [served_length]; exact hltR), served_at F T hltR, ← hq] at h6
            exact Option.some.inj h6
          rw [iv_at (by rw [← HN2.out]; exact hlt), h5]
        have hq7 : q < 7 := by
          have h7 := near_mem (row := F.t.R[k].l) HFI.out.some T.length (Nat.le_refl _)
          have h8 := HFI.out.lt _ h7
          have : q = nearTo F.t.R[k].l T T.length := hq
          omega
        have hkey : keyOf Try.prog 3 (.int .i64 (q : Int)) = some (.int .i64 (q : Int)) := keyOf_int_mk Try.underlying3 (WalkArith.wf_i64 (by omega))
        have HQ2 : Hid (near (F.t.con.getD k []) T = q) := Lib.hid (by rw [con_getD F hltR, hq])
        have HSAY := Lib.hid hsay
        rw [ha]
        clear hq hcell ha hsay
        go_wp2_with (first
          | (at_lookup; refine wpList_lookup_groups _ rfl _ _ 69 rfl 3 22 3 .i64 (int_keyed Try.underlying3) Try.underlying69 (zeroInts _) (W1.heap.size + 1) W1.heap.size k _ rfl hown (by unfold maxLen; omega) _ _ rfl hkey ?_; intro v zs hat hoi hzl hback)
          | (at_builtin; refine wpList_append_own_at _ rfl _ _ 22 rfl (W1.heap.size + 1) 3 i0 (.int .i64 0) 1 8 Try.underlying22 hi hz0 hz1 hz2 rfl (by decide) _ _ _ rfl (hoi.1.alloc _) ⟨wr.heap.size, 0, none⟩ 1 1 [.int .i64 k] rfl rfl (cell_one_new _ _ _) (ints_oneCell .i64 [(k : Int)]) (by unfold maxLen; omega) (by omega) (by simp; omega) ?_; intro v' w1 hown' hgrow hnil hloc)
          | (at_mapUpdate; refine wpList_mapUpdate_back _ rfl _ _ _ 69 rfl hback rfl rfl rfl ((World.grownBy_alloc _ _ _).trans hgrow) (hoi.appended hown' (WalkArith.wf_i64 (by omega))) (by simp; omega) (hloc.imp id (fun h => ⟨_, h, by simp⟩)) ?_; intro w2 hown2 hgrow2))
        have hall := (World.grownBy_alloc wr _ _).trans hgrow
        have hoi2 := hoi.appended hown' (WalkArith.wf_i64 (by omega))
        have HS2 := Lib.hid (says_step HSAY.out HQ2.out hoi hat hoi2)
        have HO2 := Lib.hid hown2
        have HB2 : Below W1.heap.size W1 w2 := hnx.groups hoi hall hgrow2 hnx.size (Nat.le_succ _) (Nat.le_refl _)
        have hws2 : W1.heap.size + 1 ≤ w2.heap.size := Nat.le_trans hws (Nat.le_trans hall.size hgrow2.size)
        clear hown' hoi hat hback hnil hloc hown2 hgrow2 hall hoi2 hgrow hcq
        go_roundw
        case rel => exact ⟨k + 1, _, by omega, by go_num, HO2.out, HS2.out, HB2, hws2⟩
        case measure => simp [intOf]; omega
      · obtain rfl : k = n := by omega
        obtain ⟨R, hR⟩ := held_of hown hsay zeroInts
        have HR := Lib.hid hR
        have HNX := Lib.hid hnx
        have HE := Lib.hid ((tab_empty wr).base (B' := W1.heap.size + 1) hws)
        have hbe := below_alloc wr (.cells #[] 22)
        clear hown hsay hnx
        go_wp2
        go_loopw [11, 13, 43] (fun out _ i u => ∃ (k : Nat) (Q : List Row), k ≤ T.length ∧ i = .int .i64 k ∧ Q = (T.take k).map R ∧ Grows (W1.heap.size + 1) u out Q ∧ (∀ g, out.ownBlock = some g → wr.heap.size ≤ g) ∧ Below wr.heap.size wr u) (fun _ _ i _ => T.length - (intOf i).toNat)
        case atStart => exact ⟨0, [], Nat.zero_le _, rfl, rfl, HE.out, fun g hg => by simp [Value.ownBlock] at hg; omega, hbe⟩
        case round =>
          obtain ⟨k, Q, hk, rfl, hQ, hgr, hob, hnu⟩ := hrel
          clear hbe
          by_cases hlt : k < T.length
          · have hlti : (k : Int) < (s.l.length : Int) := by rw [HSL.out]; omega
            obtain ⟨q, hq⟩ : ∃ q, q = T[k] := ⟨_, rfl⟩
            have hq7 : q < 7 := by have := HFI.out.lt q (by rw [hq]; exact List.getElem_mem hlt); omega
            have hqi : (q : Int) ≤ 9223372036854775807 := by omega
            have hrun := HR.out.run q wr hqi (hnu.block W1.heap.size (by omega))
            have hOn := (HR.out.own q hqi).on hnu
            have hIn0 := (HR.out.ins q hqi).on hnu
            have hIn := hIn0.wide (Nat.le_refl _) hnu.size
            have hbAu := (hb01.trans (HNX.out.mono hb01.size)).trans (hnu.mono (Nat.le_trans hb01.size HNX.out.size))
            obtain ⟨_, _, h3⟩ := HSA.out
            rcases h3 with h3 | ⟨bb, o, ha, hbb, hcell⟩
            · have h3' := congrArg List.length (iv_nil h3); rw [HSL.out, List.length_nil] at h3'; omega
            have hcq : wr.cell? ⟨bb, o + k, none⟩ = some (.int .i64 (q : Int)) := by
              refine (hbAu.cell (p := ⟨bb, o + k, none⟩) hbb).trans (hcell k _ ?_)
              rw [HFI.out.set, iv_at (by rw [up_length]; exact hlt), up_at hlt, hq]
            have hap : ∀ r ∈ Q, r.Apart (R q) := fun r hr => by
              rw [hQ] at hr
              obtain ⟨m, hm, rfl⟩ := List.mem_map.1 hr
              obtain ⟨j, hj, hjm⟩ := List.getElem_of_mem hm
              rw [List.length_take] at hj
              have h9 : T[j]'(by omega) = m := by rw [← hjm]; simp
              have h10 := set_lt HSET.out (j := j) (k := k) (by omega) hlt
              have h11 := HFI.out.lt m (List.mem_of_mem_take hm)
              exact HR.out.apart m q (by omega) hqi (by rw [← h9, hq]; omega)
            have hoff : (R q).l ≠ [] → ∀ x, (R q).a = some x → u11.ownBlock ≠ some x.block := fun hl x hx he => by
              have h12 := hob _ he
              obtain ⟨_, _, p3⟩ := hIn0
              rcases p3 with p3 | ⟨b', o', e', _, hhi, _, _⟩
              · exact hl (iv_nil p3)
              · rw [hx] at e'; simp only [Option.some.injEq] at e'; subst e'; simp only at h12; omega
            have HQ2 : Hid (Q ++ [R q] = (T.take (k + 1)).map R) := Lib.hid (by rw [hQ, List.take_succ_eq_append_getElem hlt, List.map_append, hq]; rfl)
            have HQL : Hid (Q.length = k) := Lib.hid (by rw [hQ, List.length_map, List.length_take]; omega)
            have hown := hgr.own
            have hQ8 : Q.length ≤ 1048576 := by have := HQL.out; omega
            have hsu := hnu.size
            have HG := Lib.hid hgr
            have HON := Lib.hid hOn
            have HIN := Lib.hid hIn
            have HAP := Lib.hid hap
            have HOF := Lib.hid hoff
            have HOB := Lib.hid hob
            have HNU := Lib.hid hnu
            have hrw : W1.heap.size + 1 ≤ wr.heap.size := Nat.le_trans hws hsu
            obtain ⟨y, hy⟩ : ∃ y, y = R q := ⟨_, rfl⟩
            rw [← hy] at hrun HON HIN HAP HOF HQ2
            rw [ha]
            clear hq hcell ha hQ hgr hOn hIn hIn0 hap hoff hob hnu hy hR hbAu
            go_wp2_with (at_builtin; refine wpList_append_own_at _ rfl _ _ 23 rfl (W1.heap.size + 1) 22 j0 (.slice none 0 0) 1 24 Try.underlying23 hj hj0 hj1 hj2 rfl (by decide) _ _ _ rfl (hown.alloc _) ⟨wr.heap.size, 0, none⟩ 1 1 [.slice y.a y.l.length y.c] rfl rfl (one_cell _ _ _) (by simp [Value.oneCell']) (by unfold maxLen; omega) (by omega) (by simp; omega) ?_; intro v' w1 hown' hgrow hnil hloc)
            have hba := below_alloc wr (.cells #[.slice y.a y.l.length y.c] 22)
            have hloc2 : v'.ownBlock = u11.ownBlock ∨ ∃ g', v'.ownBlock = some g' ∧ (wr.alloc (.cells #[.slice y.a y.l.length y.c] 22)).heap.size ≤ g' := hloc.imp id fun h => ⟨_, h, Nat.le_refl _⟩
            have R1 := Lib.hid ((HG.out.on hba).append (HON.out.on hba) ((HIN.out.on hba).wide (Nat.le_refl _) hba.size) HAP.out HOF.out hown' hgrow hloc2)
            have R3 : Hid (∀ g, v'.ownBlock = some g → _ ≤ g) := Lib.hid fun g hg => by
              rcases hloc with h | h
              · exact HOB.out g (show u11.ownBlock = some g from h.symm.trans hg)
              · rw [hg] at h; simp only [Option.some.injEq] at h; rw [h, size_alloc]; exact Nat.le_trans hsu (Nat.le_succ _)
            have R2 := (HNU.out.alloc hsu (.cells #[.slice y.a y.l.length y.c] 22)).grown hgrow (by rw [size_alloc]; omega) (fun j hj' => HOB.out j hj')
            clear hown' hgrow hown hnil hloc hloc2 hba
            go_wp2
            go_roundw
            case rel => exact ⟨k + 1, Q ++ [y], by omega, by go_num, HQ2.out, by have := R1.out; exact this, R3.out, R2⟩
            case measure => simp [intOf]; omega
          · obtain rfl : k = T.length := by omega
            have hnl : ¬ ((T.length : Int) < (s.l.length : Int)) := by rw [HSL.out]; omega
            have HM : Hid (Q.map Row.l = T.map fun m => cliTo F.t.con T m F.t.R.length) := Lib.hid (by
              rw [hQ, List.take_length, List.map_map]
              refine List.map_congr_left fun m hm => ?_
              have h7 := HFI.out.lt m hm
              have h8 := HR.out.is m (by omega)
              simp only [Function.comp]
              rw [h8, HN.out])
            have HG := Lib.hid hgr
            clear hQ hgr
            go_wp2
            go_ret2
            exact tab_end HG.out HM.out (by have := hbw.size; omega) ((hbw.trans (HNX.out.mono hbw.size)).trans (hnu.mono (Nat.le_trans hbw.size HNX.out.size)))

theorem clis_like {F G : Fld} {s t : Row} {d : List (List Int)} {b : Bool} (h : Clis F s d b) (hl : G.Like F) (hs : t.l = s.l) : Clis G t d b := by
  have hR : G.t.R.length = F.t.R.length := by have := congrArg List.length hl.2; rw [con_length, con_length] at this; exact this
  rcases h with ⟨h1, h2, h3⟩ | ⟨T, h1, h3, h4, h5⟩
  · exact .inl ⟨by rw [twoB_like hl hs, h1], h2, h3⟩
  · exact .inr ⟨T, fine_like h1 hl hs, by rw [twoB_like hl hs, h3], by rw [hl.2, hR]; exact h4, h5⟩
theorem tot_le {α : Type} (l : List α) (f : α → List Int) (n : Nat) (h : ∀ x ∈ l, (f x).length ≤ n) : tot (l.map f) ≤ n * l.length := by
  induction l with
  | nil => simp [tot]
  | cons x r ih =>
    have h1 := h x List.mem_cons_self
    have h2 := ih fun y hy => h y (List.mem_cons_of_mem _ hy)
    have e : tot ((x :: r).map f) = (f x).length + tot (r.map f) := by simp [tot]
    rw [e, List.length_cons, Nat.mul_add]
    omega
theorem clis_some (F : Fld) (s : Row) : ∃ (d : List (List Int)) (b : Bool), Clis F s d b ∧ (d.length ≤ 1048576 ∧ tot d ≤ 1048576) := by
  by_cases h : twoB F s = true
  · obtain ⟨T, hf⟩ := fine_of h
    have hset : setB F.o.l.length (up T) = true := by rw [← hf.set]; exact (twoB_iff.1 h).2.1
    have hT : T.length ≤ 7 := by
      have hp := (rise_pairwise F.o.l.length T (-1) hset).2
      have hlt : ∀ m ∈ T, m < 7 := fun m hm => by have := hf.lt m hm; have := good_sizes hf.good; omega
      have key : ∀ k (hk : k < T.length), k ≤ T[k] := fun k => by
        induction k with
        | zero => intro _; exact Nat.zero_le _
        | succ k ih => intro hk; have := ih (by omega); have := List.pairwise_iff_getElem.1 hp k (k + 1) (by omega) hk (by omega); omega
      by_cases h0 : 7 < T.length
      · have := key 7 h0; have := hlt _ (List.getElem_mem h0); omega
      · omega
    have hR := (good_sizes hf.good).2.2
    refine ⟨_, _, .inr ⟨T, hf, h, rfl, rfl⟩, by rw [List.length_map]; omega, ?_⟩
    have := tot_le T (fun m => cliTo F.t.con T m F.t.R.length) 7 (fun m _ => Nat.le_trans (cli_len _ _ _ _) hR)
    omega
  · exact ⟨_, _, .inl ⟨by simpa using h, rfl, rfl⟩, by simp, by simp [tot]⟩
theorem clientsOf_pair (F : Fld) (s : Row) (_ : F.Small) (hsm : s.l.length ≤ 1048576) : ∃ (d : List (List Int)) (b : Bool) (_ : d.length ≤ 1048576 ∧ tot d ≤ 1048576),
    (∀ (G : Fld) (t : Row) (W : World), G.At W → t.At W → G.Like F → t.l = s.l → Calls Try.prog 28 #[G.val, .slice t.a t.l.length t.c] W (PTab d b W)) ∧
    (∀ (G : Fld) (t : Row) (W : World), G.At W → t.At W → G.Like F → t.l = s.l → Calls Try.prog 31 #[G.val, .slice t.a t.l.length t.c] W (PTab d b W)) := by
  obtain ⟨d, b, h, hd⟩ := clis_some F s
  exact ⟨d, b, hd, fun G t W hG ht hl hs => specClients_any G t W hG ht (by rw [hs]; exact hsm) d b (clis_like h hl hs), fun G t W hG ht hl hs => implClients_any G t W hG ht (by rw [hs]; exact hsm) d b (clis_like h hl hs)⟩
end Go.Proofs.Ytfgedolngcdjpaa
