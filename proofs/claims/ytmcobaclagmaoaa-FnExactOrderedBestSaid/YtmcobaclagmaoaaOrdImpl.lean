/- The ordered value on the program's side. Condition: a valid Field, a set of its sites, a weight for each client. -/
import Derived.Test.YtmcobaclagmaoaaOrdSpec
namespace Go.Proofs.Ytmcobaclagmaoaa
open Go.RowKit Go.Shelf

theorem rowAllW {r : Row} {w : World} (hr : r.At w) (h0 : 0 < r.l.length) : ∃ b o, r.a = some ⟨b, o, none⟩ ∧ ∀ m, m < r.l.length → w.cell? ⟨b, o + m, none⟩ = some (.int .i64 (r.l.getD m 0)) := by
  obtain ⟨_, _, h3⟩ := hr
  rcases h3 with h3 | ⟨b, o, ha, _, hc⟩
  · have := congrArg List.length (iv_nil h3); rw [List.length_nil] at this; omega
  · exact ⟨b, o, ha, fun m hm => by rw [getD_at hm]; exact hc m _ (iv_at hm)⟩

set_option maxHeartbeats 1000000 in
theorem sumProdW_any (r q : Row) (w : World) (hr : r.At w) (hq : q.At w) (hl : r.l.length ≤ q.l.length) (h7 : r.l.length ≤ 1000) (hqi : (q.l.length : Int) ≤ 9223372036854775807) (hd : DotsW r.l q.l) :
    Calls Try.prog 61 #[.slice r.a r.l.length r.c, .slice q.a q.l.length q.c] w fun e w' => e = .returned (.int .i64 (dotW r.l q.l r.l.length)) ∧ w' = w := by
  have hri : (r.l.length : Int) ≤ 1000 := by omega
  have HC : Hid (∀ k, k < r.l.length → ∃ b o b2 o2, r.a = some ⟨b, o, none⟩ ∧ q.a = some ⟨b2, o2, none⟩ ∧ w.cell? ⟨b, o + k, none⟩ = some (.int .i64 (r.l.getD k 0)) ∧ w.cell? ⟨b2, o2 + k, none⟩ = some (.int .i64 (q.l.getD k 0))) := Lib.hid fun k hk => by
    obtain ⟨b, o, h1, h2⟩ := rowAllW hr (by omega)
    obtain ⟨b2, o2, h3, h4⟩ := rowAllW hq (by omega)
    exact ⟨b, o, b2, o2, h1, h3, h2 k hk, h4 k (by omega)⟩
  have HD := Lib.hid hd
  clear hr hq hd
  go_enter Try.func61, Try.ntmps61
  go_wp2
  go_loopw [5, 6, 7, 10] (fun sv _ _ jv wr => ∃ k : Nat, k ≤ r.l.length ∧ jv = .int .i64 k ∧ sv = .int .i64 (dotW r.l q.l k) ∧ w = wr) (fun _ _ _ jv _ => r.l.length - (intOf jv).toNat)
  case atStart => exact ⟨0, Nat.zero_le _, rfl, by rw [dotW_zero], rfl⟩
  case round =>
    obtain ⟨k, hk, rfl, rfl, rfl⟩ := hrel
    by_cases hlt : k < r.l.length
    · have hlti : (k : Int) < (r.l.length : Int) := by omega
      have hlqi : (k : Int) < (q.l.length : Int) := by omega
      obtain ⟨b, o, b2, o2, hra, hqa, hc1, hc2⟩ := HC.out k hlt
      have hm := HD.out.at k
      have hs := HD.out.sum k
      have HS : Hid (dotW r.l q.l (k + 1) = dotW r.l q.l k + r.l.getD k 0 * q.l.getD k 0) := Lib.hid (dotW_step _ _ _)
      obtain ⟨x, hx⟩ : ∃ x, x = r.l.getD k 0 := ⟨_, rfl⟩
      obtain ⟨y, hy⟩ : ∃ y, y = q.l.getD k 0 := ⟨_, rfl⟩
      obtain ⟨s, hs'⟩ : ∃ s, s = dotW r.l q.l k := ⟨_, rfl⟩
      rw [← hx, ← hy] at hm
      rw [← hs'] at hs ⊢
      rw [← hs', ← hx, ← hy] at HS
      rw [← hx] at hc1
      rw [← hy] at hc2
      obtain ⟨z, hz⟩ : ∃ z, z = x * y := ⟨_, rfl⟩
      rw [← hz] at hm HS
      have e1 : IntKind.i64.wrap (x * y) = z := by rw [← hz]; exact IntWalk.i64_in _ (by omega)
      have e2 : IntKind.i64.wrap (s + z) = s + z := IntWalk.i64_in _ (by omega)
      rw [hra, hqa]
      clear hra hqa hx hy hs' hz
      go_wp2
      go_roundw
      case rel => exact ⟨k + 1, by omega, by go_num, by rw [HS.out], by first | rfl | trivial⟩
      case measure => simp [intOf]; omega
    · obtain rfl : k = r.l.length := by omega
      go_wp2
      go_ret
      exact ⟨rfl, by first | rfl | trivial⟩

set_option maxRecDepth 16000 in
set_option maxHeartbeats 1500000 in
theorem orderedValue_any (F : Fld) (s r : Row) (T : List Nat) (w : World) (hF : F.At w) (hs : s.At w) (hr : r.At w) (hf : Fine F s T) (hrn : r.l.length = F.t.R.length) (hrb : ∀ x ∈ r.l, 0 ≤ x ∧ x ≤ 99) :
    Calls Try.prog 32 #[.agg #[.slice F.o.a F.o.l.length F.o.c, .slice F.t.a F.t.R.length F.t.c], .slice s.a s.l.length s.c, .slice r.a r.l.length r.c] w fun e w' => e = .returned (.int .i64 (ordT F r.l T)) ∧ Below w.heap.size w w' := by
  obtain ⟨wA, hA, hbA, bx, hFA, hszA⟩ := laid_fld F w 29 hF
  have C1 := Lib.hid (show Calls Try.prog 59 #[.agg #[.slice F.o.a F.o.l.length F.o.c, .slice F.t.a F.t.R.length F.t.c], .slice s.a s.l.length s.c] wA _ from servedLengths_any F s T wA hFA (hs.on hbA) hf)
  have HA : Hid (wA = w.alloc (Obj.cells #[.slice F.o.a F.o.l.length F.o.c, .slice F.t.a F.t.R.length F.t.c] 29)) := Lib.hid hA
  have hsz := good_sizes hf.good
  have HG := Lib.hid hf.good
  have HR := Lib.hid (hr.on hbA)
  have HRB := Lib.hid hrb
  have HRN := Lib.hid hrn
  have x0 : (w.alloc (Obj.cells #[.slice F.o.a F.o.l.length F.o.c, .slice F.t.a F.t.R.length F.t.c] 29)).cell? ⟨w.heap.size, 0, none⟩ = some (.slice F.o.a F.o.l.length F.o.c) := by rw [← HA.out]; exact bx.c0
  have x1 : (w.alloc (Obj.cells #[.slice F.o.a F.o.l.length F.o.c, .slice F.t.a F.t.R.length F.t.c] 29)).cell? ⟨w.heap.size, 1, none⟩ = some (.slice F.t.a F.t.R.length F.t.c) := by rw [← HA.out]; exact bx.c1
  obtain ⟨m, hm⟩ : ∃ m, m = F.t.R.length := ⟨_, rfl⟩
  have HM := Lib.hid hm
  have hm7 : m ≤ 7 := by omega
  clear hF hs hr hA hFA bx hf hrn hrb hszA hsz hm
  go_enter Try.func32, Try.ntmps32
  go_wp2_with fail
  rw [← HA.out]
  refine (show Calls _ _ _ _ _ from C1.out).mono ?_
  rintro e W1 ⟨t, rfl, htl, hto, hti, hb1⟩
  have htn : t.l.length = m := by rw [htl, lens_length, ← HM.out]
  have HTL := Lib.hid htl
  have CS := Lib.hid (sortRow_any t wA.heap.size W1 hto hti (by omega) hb1.size)
  have HTN := Lib.hid htn
  have HB1 := Lib.hid hb1
  clear x0 x1 htl hto hti htn hb1
  go_wp2_with fail
  refine (show Calls _ _ _ _ _ from CS.out).mono ?_
  rintro e W2 ⟨rfl, -, hsi, hb2⟩
  have hbw2 := HB1.out.trans (hb2.mono (Nat.le_refl _))
  have CP := Lib.hid (by
    have := sumProdW_any r ⟨t.a, t.c, sortA t.l⟩ W2 (HR.out.on hbw2) hsi.at (by simp only [sortA_len]; rw [HTN.out, HRN.out, HM.out]; exact Nat.le_refl _) (by rw [HRN.out, ← HM.out]; omega) (by simp only [sortA_len]; rw [HTN.out]; omega) ⟨HRB.out, fun x hx => by simp only [HTL.out] at hx; exact sorted_bound HG.out T x hx⟩
    simp only [sortA_len] at this
    exact this)
  have HE : Hid (dotW r.l (sortA t.l) r.l.length = ordT F r.l T) := Lib.hid (by unfold ordT; rw [HTL.out, HRN.out, con_length])
  have HFIN := Lib.hid (hbA.trans (hbw2.mono hbA.size))
  clear hsi hb2 hbw2
  go_wp2_with fail
  refine (show Calls _ _ _ _ _ from CP.out).mono ?_
  rintro e W3 ⟨rfl, rfl⟩
  go_wp2
  go_ret
  exact ⟨by rw [← HE.out]; rfl, HFIN.out⟩

set_option maxRecDepth 16000 in
set_option maxHeartbeats 1500000 in
theorem areWeights_any (F : Fld) (r : Row) (w : World) (hF : F.At w) (hr : r.At w) (hg : F.good = true) :
    Calls Try.prog 31 #[.agg #[.slice F.o.a F.o.l.length F.o.c, .slice F.t.a F.t.R.length F.t.c], .slice r.a r.l.length r.c] w fun e w' => e = .returned (.bool (rowB F.t.R.length r.l)) ∧ Below w.heap.size w w' := by
  obtain ⟨wA, hA, hbA, bx, hFA, hszA⟩ := laid_fld F w 29 hF
  have CG := Lib.hid (show Calls Try.prog 47 #[.agg #[.slice F.o.a F.o.l.length F.o.c, .slice F.t.a F.t.R.length F.t.c]] wA fun e w' => e = .returned (.bool true) ∧ Below wA.heap.size wA w' from by have := implIsField_any F wA hFA; rw [hg] at this; exact this)
  have HA : Hid (wA = w.alloc (Obj.cells #[.slice F.o.a F.o.l.length F.o.c, .slice F.t.a F.t.R.length F.t.c] 29)) := Lib.hid hA
  have HBX := Lib.hid bx
  have hlim : (r.l.length : Int) ≤ 9223372036854775807 := by obtain ⟨q1, q2, _⟩ := hr; rw [iv_length] at q1; unfold maxLen at q2; omega
  have HR := Lib.hid (hr.on hbA)
  have x0 : (w.alloc (Obj.cells #[.slice F.o.a F.o.l.length F.o.c, .slice F.t.a F.t.R.length F.t.c] 29)).cell? ⟨w.heap.size, 0, none⟩ = some (.slice F.o.a F.o.l.length F.o.c) := by rw [← HA.out]; exact bx.c0
  have x1 : (w.alloc (Obj.cells #[.slice F.o.a F.o.l.length F.o.c, .slice F.t.a F.t.R.length F.t.c] 29)).cell? ⟨w.heap.size, 1, none⟩ = some (.slice F.t.a F.t.R.length F.t.c) := by rw [← HA.out]; exact bx.c1
  obtain ⟨v, hv⟩ : ∃ v, v = r.l.all (upTo 99) := ⟨_, rfl⟩
  have CW := Lib.hid (fun u (hu : Below wA.heap.size wA u) => (by have := allWithin_any r u ((hr.on hbA).on hu); rw [← hv] at this; exact this : Calls Try.prog 58 #[.slice r.a r.l.length r.c, .int .i64 99] u fun e w' => e = .returned (.bool v) ∧ Below u.heap.size u w'))
  by_cases hl : r.l.length = F.t.R.length
  · have hli : ((r.l.length : Int) == (F.t.R.length : Int)) = true := by rw [nat_eqB, hl]; simp
    have HE : Hid (rowB F.t.R.length r.l = v) := Lib.hid (by unfold rowB; rw [hl, ← hv]; simp)
    rw [HE.out]
    clear hF hr hA hFA bx hg hszA hl hv HE
    go_enter Try.func31, Try.ntmps31
    go_wp2_with fail
    rw [← HA.out]
    refine (show Calls _ _ _ _ _ from CG.out).mono ?_
    rintro e W ⟨rfl, hb⟩
    clear x0 x1
    have y1 : W.cell? ⟨w.heap.size, 1, none⟩ = some (.slice F.t.a F.t.R.length F.t.c) := (HBX.out.on hb).c1
    have hbw := hbA.trans (hb.mono hbA.size)
    go_wp2_with fail
    refine (show Calls _ _ _ _ _ from CW.out W hb).mono ?_
    rintro e W2 ⟨rfl, hb2⟩
    clear y1
    go_wp2
    go_ret
    exact ⟨rfl, hbw.trans (hb2.mono hbw.size)⟩
  · have hli : ((r.l.length : Int) == (F.t.R.length : Int)) = false := by rw [nat_eqB]; simp [hl]
    have HE : Hid (rowB F.t.R.length r.l = false) := Lib.hid (by unfold rowB; rw [decide_eq_false hl, Bool.and_false])
    rw [HE.out]
    clear hF hr hA hFA bx hg hszA hl hv HE CW
    go_enter Try.func31, Try.ntmps31
    go_wp2_with fail
    rw [← HA.out]
    refine (show Calls _ _ _ _ _ from CG.out).mono ?_
    rintro e W ⟨rfl, hb⟩
    clear x0 x1
    have y1 : W.cell? ⟨w.heap.size, 1, none⟩ = some (.slice F.t.a F.t.R.length F.t.c) := (HBX.out.on hb).c1
    have hbw := hbA.trans (hb.mono hbA.size)
    go_wp2
    go_ret
    exact ⟨rfl, hbw⟩
end Go.Proofs.Ytmcobaclagmaoaa
