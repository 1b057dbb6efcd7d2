/- The Field with some clients alone, and the cost of a set of clients, as the model has them. Condition: a valid Field and a list of its clients. -/
import Derived.Test.YtfplcgakpildmaaPlainCosts
import Derived.Test.YtfplcgakpildmaaGrow
import Derived.Deep.AppendLies
import Derived.Deep.RegionLaw
import Derived.RangeFuncNested
namespace Go.Proofs.Ytfplcgakpildmaa
open Go.RowKit

/-- The rows of some clients. -/
def rowsT (F : Fld) (T : List Nat) : List Row := T.map fun j => F.t.R.getD j ⟨none, 0, []⟩
theorem rowsT_snoc (F : Fld) (T : List Nat) {k : Nat} (h : k < T.length) : tv (rowsT F (T.take (k + 1))) = tv (rowsT F (T.take k)) ++ [(F.t.R.getD T[k] ⟨none, 0, []⟩).val] := by
  unfold rowsT tv; rw [List.take_succ_eq_append_getElem h, List.map_append, List.map_append]; rfl

set_option maxRecDepth 16000 in
set_option maxHeartbeats 2000000 in
theorem l9Part_any (F : Fld) (s : Row) (T : List Nat) (w : World) (hF : F.At w) (hs : s.At w) (hT : s.l = up T) (hb : ∀ j ∈ T, j < F.t.R.length) (h7 : T.length ≤ 7) :
    Calls Try.prog 63 #[.agg #[.slice F.o.a F.o.l.length F.o.c, .slice F.t.a F.t.R.length F.t.c], .slice s.a s.l.length s.c] w fun e w' => ∃ (a : Option Addr) (c : Nat), e = .returned (.agg #[.slice F.o.a F.o.l.length F.o.c, .slice a T.length c]) ∧ (partF F a c T).At w' ∧ Below w.heap.size w w' := by
  obtain ⟨i0, hi, hz0, hz1, hz2⟩ := info_parts infoInts
  obtain ⟨wA, hA⟩ : ∃ wA, wA = (w.alloc (Obj.cells #[.slice F.o.a F.o.l.length F.o.c, .slice F.t.a F.t.R.length F.t.c] 29)).alloc (Obj.cells #[.slice none 0 0, .slice none 0 0] 29) := ⟨_, rfl⟩
  obtain ⟨wE, hE⟩ : ∃ wE, wE = wA.alloc (.cells #[] 22) := ⟨_, rfl⟩
  obtain ⟨wR, hR⟩ : ∃ wR, wR = wE.alloc (Obj.cells #[.slice F.o.a F.o.l.length F.o.c, .slice (some ⟨w.heap.size + 1 + 1, 0, none⟩) 0 0] 29) := ⟨_, rfl⟩
  have hbA : Below w.heap.size w wA := by rw [hA]; exact (below_alloc _ _).alloc (by rw [size_alloc]; omega) _
  have hsA : wA.heap.size = w.heap.size + 1 + 1 := by rw [hA, size_alloc, size_alloc]
  have hsE : wE.heap.size = w.heap.size + 1 + 1 + 1 := by rw [hE, size_alloc, hsA]
  have hsR : wR.heap.size = w.heap.size + 1 + 1 + 1 + 1 := by rw [hR, size_alloc, hsE]
  have hbE : Below wA.heap.size wA wE := by rw [hE]; exact below_alloc _ _
  have hbR : Below wE.heap.size wE wR := by rw [hR]; exact below_alloc _ _
  have b0 : Box2 wA w.heap.size (.slice F.o.a F.o.l.length F.o.c) (.slice F.t.a F.t.R.length F.t.c) 29 := by rw [hA]; exact (Box2.made w _ _ _).later _
  have b1 : Box2 wA (w.heap.size + 1) (.slice none 0 0) (.slice none 0 0) 29 := by
    rw [hA]
    have := Box2.made (w.alloc (Obj.cells #[.slice F.o.a F.o.l.length F.o.c, .slice F.t.a F.t.R.length F.t.c] 29)) (.slice none 0 0) (.slice none 0 0) 29
    rw [size_alloc] at this; exact this
  have bR : Box2 wR (w.heap.size + 1 + 1 + 1) (.slice F.o.a F.o.l.length F.o.c) (.slice (some ⟨w.heap.size + 1 + 1, 0, none⟩) 0 0) 29 := by rw [hR, ← hsE]; exact Box2.made _ _ _ _
  have o0 : wR.ownsRow (w.heap.size + 1 + 1) 22 1 (.slice (some ⟨w.heap.size + 1 + 1, 0, none⟩) 0 0) 0 (tv []) := by
    have h := World.ownsRow_made (e := 22) (base := w.heap.size + 1 + 1) (size := 1) wA #[] 0 (by rw [hsA]; exact Nat.le_refl _) (by decide) rfl
    rw [hsA, ← hE] at h
    rw [hR]; exact h.alloc _
  have hbAR : Below wA.heap.size wA wR := hbE.trans (hbR.mono hbE.size)
  rw [hsA] at hbAR
  have z0 := b0.c0
  rw [hA] at z0
  have HF := Lib.hid hF
  have HS := Lib.hid hs
  have HB0 := Lib.hid b0
  have HB1 := Lib.hid b1
  have HBR := Lib.hid bR
  have HO0 := Lib.hid o0
  have HAR := Lib.hid hbAR
  have HBA := Lib.hid hbA
  have HSA := Lib.hid hsA
  have HSR := Lib.hid hsR
  have HW : Hid (wR = (((w.alloc (Obj.cells #[.slice F.o.a F.o.l.length F.o.c, .slice F.t.a F.t.R.length F.t.c] 29)).alloc (Obj.cells #[.slice none 0 0, .slice none 0 0] 29)).alloc (.cells #[] 22)).alloc (Obj.cells #[.slice F.o.a F.o.l.length F.o.c, .slice (some ⟨w.heap.size + 1 + 1, 0, none⟩) 0 0] 29)) := Lib.hid (by rw [hR, hE, hA])
  have HTB := Lib.hid hb
  have HSL : Hid (s.l.length = T.length) := Lib.hid (by rw [hT, up_length])
  have HSU := Lib.hid hT
  obtain ⟨n, hn⟩ : ∃ n, n = T.length := ⟨_, rfl⟩
  have HN := Lib.hid hn
  have hni : (n : Int) ≤ 7 := by omega
  rw [hT, up_length, ← hn]
  clear hF hs hA hE hR hbA hsA hsE hsR hbE hbR b0 b1 bR o0 hbAR hT hb h7 hn
  go_enter Try.func63, Try.ntmps63
  go_wp2
  go_loopw [6] (fun iv' wr => ∃ (k : Nat) (v : Value), k ≤ n ∧ iv' = .int .i64 k ∧ wr.ownsRow (w.heap.size + 1 + 1) 22 1 v k (tv (rowsT F (T.take k))) ∧ Box2 wr (w.heap.size + 1 + 1 + 1) (.slice F.o.a F.o.l.length F.o.c) v 29 ∧ v.ownBlock ≠ some (w.heap.size + 1 + 1 + 1) ∧ Below (w.heap.size + 1 + 1) wA wr ∧ w.heap.size + 1 + 1 + 1 + 1 ≤ wr.heap.size) (fun iv' _ => n - (intOf iv').toNat)
  case atStart => exact ⟨0, _, Nat.zero_le _, rfl, by rw [← HW.out]; exact HO0.out, by rw [← HW.out]; exact HBR.out, by simp [Value.ownBlock], by rw [← HW.out]; exact HAR.out, by rw [← HW.out]; exact Nat.le_of_eq HSR.out.symm⟩
  case round =>
    obtain ⟨k, v, hk, rfl, hown0, hbx, hvne, hnx, hszr⟩ := hrel
    have hsa := HSA.out
    have hbw : Below w.heap.size w wr := HBA.out.trans (hnx.mono (by omega))
    by_cases hlt : k < n
    · have hlti : (k : Int) < (n : Int) := by omega
      have hkT : k < T.length := by rw [← HN.out]; exact hlt
      obtain ⟨j, hj⟩ : ∃ j, j = T[k] := ⟨_, rfl⟩
      have hjm : j < F.t.R.length := HTB.out j (by rw [hj]; exact List.getElem_mem hkT)
      have hji : (j : Int) < (F.t.R.length : Int) := by omega
      obtain ⟨bs, os, hsa2, hcs⟩ : ∃ b o, s.a = some ⟨b, o, none⟩ ∧ wr.cell? ⟨b, o + k, none⟩ = some (.int .i64 (j : Int)) := by
        have hks : k < s.l.length := by rw [HSL.out]; exact hkT
        rcases (HS.out.on hbw).2.2 with h3 | ⟨b, o, h5, _, h7⟩
        · have := congrArg List.length (iv_nil h3); rw [List.length_nil] at this; omega
        · exact ⟨b, o, h5, by rw [h7 k _ (iv_at hks)]; simp only [HSU.out, hj, up, List.getElem_map]⟩
      obtain ⟨x, hx⟩ : ∃ x, x = F.t.R[j] := ⟨_, rfl⟩
      obtain ⟨bt, ot, hta, hct⟩ : ∃ b o, F.t.a = some ⟨b, o, none⟩ ∧ wr.cell? ⟨b, o + j, none⟩ = some (.slice x.a x.l.length x.c) := by
        rcases (HF.out.on hbw).2.1.2.2 with h3 | ⟨b, o, h5, _, h7⟩
        · have := congrArg List.length h3; rw [tv_length, List.length_nil] at this; omega
        · exact ⟨b, o, h5, by rw [h7 j _ (tv_at hjm), hx]⟩
      have HST : Hid (tv (rowsT F (T.take (k + 1))) = tv (rowsT F (T.take k)) ++ [.slice x.a x.l.length x.c]) := Lib.hid (by
        rw [rowsT_snoc F T hkT, ← hj, show F.t.R.getD j ⟨none, 0, []⟩ = x by rw [List.getD_eq_getElem?_getD, List.getElem?_eq_getElem hjm, hx]; rfl]; rfl)
      have y1 : wr.cell? ⟨w.heap.size, 1, none⟩ = some (.slice (some ⟨bt, ot, none⟩) F.t.R.length F.t.c) := by rw [← hta]; exact (hnx.block _ (by omega)).trans HB0.out |> Box2.c1
      have c1 : wr.cell? ⟨w.heap.size + 1 + 1 + 1, 1, none⟩ = some v := hbx.c1
      have hd0 : Below wr.heap.size wr wr.drew := (Below.refl _ _).drew
      have hown := owns_below hown0 hd0
      have HBX := Lib.hid hbx
      have HVN := Lib.hid hvne
      have HNX := Lib.hid hnx
      have c4 : (wr.alloc (.cells #[.slice x.a x.l.length x.c] 22)).cell? ⟨w.heap.size + 1 + 1 + 1, 1, none⟩ = some v := (hbx.on (below_alloc _ _)).c1
      have HBT : Hid (w.heap.size + 1 + 1 + 1 < (wr.drew.alloc (.cells #[.slice x.a x.l.length x.c] 22)).heap.size) := Lib.hid (by rw [size_alloc]; show _ < wr.heap.size + 1; omega)
      have HBS : Hid (w.heap.size + 1 + 1 ≤ (wr.drew.alloc (.cells #[.slice x.a x.l.length x.c] 22)).heap.size) := Lib.hid (by rw [size_alloc]; show _ ≤ wr.heap.size + 1; omega)
      have hrm : (F.t.R.length : Int) ≤ 9223372036854775807 := by obtain ⟨q1, q2, _⟩ := HF.out.2.1; rw [tv_length] at q1; unfold maxLen at q2; omega
      rw [hsa2]
      clear hj hx hta hsa2 hbw hown0 hbx hvne hnx hd0
      go_wp2
      go_region_law (refine step_append_lies _ rfl (.tmp 18) (.tmp 27) 23 rfl (w.heap.size + 1 + 1) 22 i0 (.slice none 0 0) 1 24 Try.underlying23 hi hz0 hz1 hz2 rfl (by decide) _ _ _ rfl (hown.alloc _) ⟨wr.heap.size, 0, none⟩ 1 1 [.slice x.a x.l.length x.c] rfl rfl (one_cell wr.drew _ _) (by simp [Value.oneCell']) (by omega) (by unfold maxLen; omega) (by omega) HBS.out _ rfl ?_; intro g cap w1 hown' hgrow hat hlt1; have hbx1 : Box2 w1 (w.heap.size + 1 + 1 + 1) (.slice F.o.a F.o.l.length F.o.c) v 29 := (hgrow.block (w.heap.size + 1 + 1 + 1) HBT.out (fun e => HVN.out e.symm)).trans ((HBX.out.on (Below.refl _ _).drew).on (below_alloc _ _)); have c2 := hbx1.c1; have f2 := hbx1.fr 1)
      all_goals (
        have hvn' : (Value.slice (some ⟨g, 0, none⟩) (k + 1) cap).ownBlock ≠ some (w.heap.size + 1 + 1 + 1) := by
          rcases hat with h | h
          · exact fun e => HVN.out (h.trans e)
          · intro e
            simp only [Value.ownBlock, Option.some.injEq] at e
            have h2 : (wr.alloc (Obj.cells #[Value.slice x.a x.l.length x.c] 22)).heap.size = wr.heap.size + 1 := size_alloc _ _
            have h3 : g = (wr.alloc (Obj.cells #[Value.slice x.a x.l.length x.c] 22)).heap.size := h
            omega
        have hst := set_touch w1 (w.heap.size + 1 + 1 + 1) 1 (.slice (some ⟨g, 0, none⟩) (k + 1) cap)
        have R2 := Lib.hid (hbx1.set1 (.slice (some ⟨g, 0, none⟩) (k + 1) cap))
        have R1 : Hid ((w1.setCell ⟨w.heap.size + 1 + 1 + 1, 1, none⟩ (.slice (some ⟨g, 0, none⟩) (k + 1) cap)).ownsRow (w.heap.size + 1 + 1) 22 1 (.slice (some ⟨g, 0, none⟩) (k + 1) cap) (k + 1) (tv (rowsT F (T.take (k + 1))))) := Lib.hid (by
          rw [HST.out]
          exact hown'.kept (row := some (w.heap.size + 1 + 1 + 1)) ⟨rfl, rfl, rfl, by simp [World.setCell], fun j _ hne => Below.heap_setCell w1 ⟨w.heap.size + 1 + 1 + 1, 1, none⟩ _ j (fun e => hne (by rw [e]))⟩ (.inr hvn'))
        have R3 := Lib.hid ((((HNX.out.drew).alloc (by show _ ≤ wr.heap.size; omega) _).grown hgrow HBS.out (fun j hj => (hown.lt j hj).1)).setCell (p := ⟨w.heap.size + 1 + 1 + 1, 1, none⟩) (by show w.heap.size + 1 + 1 ≤ w.heap.size + 1 + 1 + 1; omega) (.slice (some ⟨g, 0, none⟩) (k + 1) cap))
        have R4 : w.heap.size + 1 + 1 + 1 + 1 ≤ (w1.setCell ⟨w.heap.size + 1 + 1 + 1, 1, none⟩ (.slice (some ⟨g, 0, none⟩) (k + 1) cap)).heap.size := by
          have h1 : (wr.alloc (Obj.cells #[Value.slice x.a x.l.length x.c] 22)).heap.size ≤ w1.heap.size := hgrow.size
          have h2 := hst.size
          rw [size_alloc] at h1
          omega
        have HVX := Lib.hid hvn'
        clear hst hvn' hown hown' hgrow hat hbx1 c1 c2 c4 f2 hlt1 y1 hcs hct
        go_wp2
        go_roundw
        case rel => exact ⟨k + 1, _, by omega, by go_num, R1.out, R2.out, HVX.out, R3.out, R4⟩
        case measure => simp [intOf]; omega)
    · obtain rfl : k = n := by omega
      have hbx1 : Box2 wr (w.heap.size + 1) (.slice none 0 0) (.slice none 0 0) 29 := (hnx.block _ (by omega)).trans HB1.out
      have hlen : (rowsT F T).length = k := by unfold rowsT; rw [List.length_map, HN.out]
      rw [HN.out, List.take_length] at hown0
      have hv : ∃ (a : Option Addr) (c : Nat), v = .slice a k c ∧ RowIn (w.heap.size + 1 + 1) wr.heap.size wr a c (tv (rowsT F T)) := by
        rcases hown0.2 with ⟨rfl, h0⟩ | ⟨g, cap, cur, rfl, hbg, hcur, hnc, hcm, hcs, htake⟩
        · exact ⟨none, 0, by rw [HN.out, h0], by rw [tv_length, hlen, HN.out, h0]; exact Nat.le_refl _, Nat.zero_le _, .inl (List.eq_nil_of_length_eq_zero (by rw [tv_length, hlen, HN.out, h0]))⟩
        · refine ⟨some ⟨g, 0, none⟩, cap, by rw [HN.out], by rw [tv_length, hlen, HN.out]; exact hnc, hcm, .inr ⟨g, 0, rfl, hbg, (Array.getElem?_eq_some_iff.1 hcur).1, (Array.getElem?_eq_some_iff.1 hcur).1, fun j y hj => ?_⟩⟩
          have := hown0.cells (g := g) rfl j y hj
          rw [Nat.zero_add]
          by_cases e : j = 0 <;> simp_all [Addr.add]
      obtain ⟨a, c, rfl, hrow⟩ := hv
      have x0 := hbx.c0
      have x1 := hbx.c1
      have y0 := hbx1.c0
      have y1 := hbx1.c1
      have f0 := hbx1.fr 0
      have f1 := hbx1.fr 1
      have HX1 := Lib.hid hbx1
      have HROW := Lib.hid hrow
      have HBW := Lib.hid hbw
      clear hown0 hbx hvne hnx hbx1 hrow hlen
      go_wp2
      obtain ⟨wF, hF⟩ : ∃ wF, wF = (wr.setCell ⟨w.heap.size + 1, 0, none⟩ (.slice F.o.a F.o.l.length F.o.c)).setCell ⟨w.heap.size + 1, 1, none⟩ (.slice a k c) := ⟨_, rfl⟩
      rw [← hF]
      have bF : Box2 wF (w.heap.size + 1) (.slice F.o.a F.o.l.length F.o.c) (.slice a k c) 29 := by rw [hF]; exact (HX1.out.set0 _).set1 _
      have tF : Touch (w.heap.size + 1) (w.heap.size + 1 + 1) wr wF := by
        rw [hF]
        exact ((Touch.refl _ _ wr).set (by omega) (by omega) _ _).set (by omega) (by omega) _ _
      have r0 := bF.c0
      have r1 := bF.c1
      clear x0 x1 y0 y1 f0 f1 hF
      refine bodyPost_ret (v := .agg #[.slice F.o.a F.o.l.length F.o.c, .slice a k c]) (by simp [results, Try.results63, go_sem, r0, r1]) rfl ?_
      have hbf : Below w.heap.size w wF := HBW.out.trans (tF.below (by omega) (by omega))
      exact ⟨a, c, by rw [HN.out], ⟨HF.out.1.on hbf, (HROW.out.touch tF (.inr (Nat.le_refl _))).at, fun r hr => (HF.out.2.2 r (partF_mem HTB.out r hr)).on hbf⟩, hbf⟩
end Go.Proofs.Ytfplcgakpildmaa
