/- The contract of the least sums of lengths and prices, on the program's side. Condition: a valid Field, a valid set with at least one site, prices of as many sites. -/
import Derived.Test.YtehmjmknegnojaaPlainFlowP
import Derived.Test.YtehmjmknegnojaaPost
import Derived.Deep.AppendLies
namespace Go.Proofs.Ytehmjmknegnojaa
open Go.RowKit

/-- The least sums of all clients. -/
def mostL (F : Fld) (p : List Int) (T : List Nat) : List Int := F.t.con.map fun row => offer row p T
theorem most_len (F : Fld) (p : List Int) (T : List Nat) : (mostL F p T).length = F.t.R.length := by unfold mostL Tab.con; rw [List.length_map, List.length_map]
theorem most_step (F : Fld) (p : List Int) (T : List Nat) {k : Nat} (h : k < F.t.R.length) : (mostL F p T).take (k + 1) = (mostL F p T).take k ++ [offer F.t.R[k].l p T] := by
  rw [List.take_succ_eq_append_getElem (by rw [most_len]; exact h)]
  congr 2
  simp [mostL, Tab.con]
/-- The least of a list that reads as such. -/
theorem minR_any (r : Row) (w : World) (hr : r.At w) (h0 : 0 < r.l.length) (hn : r.l.length ≤ 1048576) :
    Calls Try.prog 68 #[.slice r.a r.l.length r.c] w fun e w' => e = .returned (.int .i64 (Lib.minOf r.l)) ∧ w' = w := by
  obtain ⟨b, o, ha, _, hc⟩ := rowAll hr h0
  rw [ha]
  have := Try.slices_Min_int b o r.l.length r.c r.l w h0 (Nat.le_refl _) (by omega) hc
  rw [List.take_length] at this
  exact this

set_option maxRecDepth 16000 in
set_option maxHeartbeats 2000000 in
theorem mostPrices_any (F : Fld) (s p : Row) (T : List Nat) (w : World) (hF : F.At w) (hs : s.At w) (hp : p.At w) (hf : Fine F s T) (hpl : p.l.length = F.o.l.length) (hpb : p.l.all (upTo 999) = true) (hsm : s.l.length ≤ 1048576) :
    Calls Try.prog 74 #[F.val, .slice s.a s.l.length s.c, .slice p.a p.l.length p.c] w fun e w' => ∃ t : Row, e = .returned (.slice t.a t.l.length t.c) ∧ t.l = mostL F p.l T ∧ t.Own 3 w' ∧ t.In w.heap.size w'.heap.size w' ∧ Below w.heap.size w w' := by
  obtain ⟨i0, hi, hz0, hz1, hz2⟩ := info_parts infoInt
  obtain ⟨wA, hA, hbA, bx, hFA, hszA⟩ := laid_fld F w 29 hF
  have hsA := hs.on hbA
  have hpA := hp.on hbA
  have hsz := good_sizes hf.good
  have hsl : s.l.length = T.length := by rw [hf.set, up_length]
  have h0 := hf.some
  have hTi : (T.length : Int) ≤ 9223372036854775807 := by have := row_lim hsA; omega
  have hT20 : T.length ≤ 1048576 := by omega
  obtain ⟨bs, os, hsa, hbs, hcs⟩ := rowAll hsA (by omega)
  obtain ⟨bp, op, hpa, hbp, hcp⟩ := rowAll hpA (by omega)
  obtain ⟨n, hn⟩ : ∃ n, n = F.o.l.length := ⟨_, rfl⟩
  have hni : (n : Int) ≤ 7 := by omega
  have hRi : (F.t.R.length : Int) ≤ 7 := by omega
  have HS : Hid (∀ k (h : k < T.length), wA.cell? ⟨bs, os + k, none⟩ = some (.int .i64 (T[k] : Int)) ∧ T[k] < n) := Lib.hid fun k h => by
    refine ⟨?_, by rw [hn]; exact hf.lt _ (List.getElem_mem h)⟩
    have h2 := hcs k (by rw [hsl]; exact h)
    rw [getD_at (by rw [hsl]; exact h)] at h2
    have h3 : s.l[k]'(by rw [hsl]; exact h) = (T[k] : Int) := by
      have h4 := hf.set
      simp only [h4]; exact up_at h
    rw [h3] at h2; exact h2
  have HP : Hid (∀ m, m < n → wA.cell? ⟨bp, op + m, none⟩ = some (.int .i64 (p.l.getD m 0)) ∧ 0 ≤ p.l.getD m 0 ∧ p.l.getD m 0 ≤ 999) := Lib.hid fun m hm => ⟨hcp m (by rw [hpl, ← hn]; exact hm), upTo_at hpb (by rw [hpl, ← hn]; exact hm)⟩
  have HT : Hid (∀ k (h : k < F.t.R.length), ∃ bt ot br or, F.t.a = some ⟨bt, ot, none⟩ ∧ bt < wA.heap.size ∧ br < wA.heap.size ∧ F.t.R[k].a = some ⟨br, or, none⟩ ∧ F.t.R[k].l.length = n ∧ wA.cell? ⟨bt, ot + k, none⟩ = some (.slice (some ⟨br, or, none⟩) n F.t.R[k].c) ∧ ∀ m, m < n → wA.cell? ⟨br, or + m, none⟩ = some (.int .i64 (F.t.R[k].l.getD m 0)) ∧ 0 ≤ F.t.R[k].l.getD m 0 ∧ F.t.R[k].l.getD m 0 ≤ 99) := Lib.hid fun k h => by
    obtain ⟨bt, ot, hta, hbt, hct⟩ := tabAll hFA.2 (by omega)
    have hrm : F.t.R[k] ∈ F.t.R := List.getElem_mem h
    have hgr := good_row hf.good hrm
    obtain ⟨br, or, hra, hbr, hcr⟩ := rowAll (hFA.2.2 _ hrm) (by rw [hgr.1]; omega)
    have hk := hct k h
    rw [hra, hgr.1, ← hn] at hk
    exact ⟨bt, ot, br, or, hta, hbt, hbr, hra, by rw [hgr.1, hn], hk, fun m hm => ⟨hcr m (by rw [hgr.1, ← hn]; exact hm), getD_bound hgr.2 _⟩⟩
  have HBW := Lib.hid (show bs < wA.heap.size ∧ bp < wA.heap.size from ⟨hbs, hbp⟩)
  have hown0 := empty_own wA
  have hb0 := below_alloc wA (.cells #[] 3)
  have x1 : (wA.alloc (.cells #[] 3)).cell? ⟨w.heap.size, 1, none⟩ = some (.slice F.t.a F.t.R.length F.t.c) := ((Box2.later bx _)).c1
  have H0 := Lib.hid hown0
  have HB0 := Lib.hid hb0
  have HA := Lib.hid hA
  rw [hA] at x1
  rw [hsa, hpa, hsl, hpl, ← hn]
  clear hF hs hp hf hA bx hFA hsA hpA hsl hsa hcs hpa hcp hpb hn hbs hbp hown0 hb0 hsz hpl
  show Calls _ _ #[.agg #[.slice F.o.a F.o.l.length F.o.c, .slice F.t.a F.t.R.length F.t.c], _, _] w _
  go_enter Try.func74, Try.ntmps74
  go_wp2
  go_loopw [7, 9, 10, 12, 17, 24] (fun out _ _ _ jv _ wr => ∃ k : Nat, k ≤ F.t.R.length ∧ jv = .int .i64 k ∧ wr.ownsRow wA.heap.size 3 1 out k (iv ((mostL F p.l T).take k)) ∧ Below wA.heap.size wA wr) (fun _ _ _ _ jv _ _ => F.t.R.length - (intOf jv).toNat)
  case atStart =>
    have e := HA.out
    have h0 := H0.out
    have h1 := HB0.out
    clear HA H0 HB0 HS HP HT HBW
    subst e
    have hsz : (w.alloc (Obj.cells #[F.o.val, F.t.val] 29)).heap.size = w.heap.size + 1 := size_alloc _ _
    rw [hsz] at h0
    exact ⟨0, Nat.zero_le _, rfl, by rw [List.take_zero, hsz]; exact h0, h1⟩
  case round =>
    obtain ⟨k, hk, rfl, hown, hnx⟩ := hrel
    obtain ⟨V, rfl⟩ : ∃ V, V = wr := ⟨_, rfl⟩
    clear x1
    by_cases hlt : k < F.t.R.length
    · have hlti : (k : Int) < (F.t.R.length : Int) := by omega
      obtain ⟨bt, ot, br, or, hta, hbt, hbr, hra, hrl, hct, hcr⟩ := HT.out k hlt
      obtain ⟨r, hr⟩ : ∃ r, r = F.t.R[k] := ⟨_, rfl⟩
      rw [← hr] at hra hrl hct hcr
      have hcl : V.cell? ⟨bt, ot + k, none⟩ = some (.slice (some ⟨br, or, none⟩) n r.c) := (hnx.cell (p := ⟨bt, ot + k, none⟩) hbt).trans hct
      have HCR : Hid (∀ W, Below wA.heap.size wA W → ∀ m, m < n → W.cell? ⟨br, or + m, none⟩ = some (.int .i64 (r.l.getD m 0)) ∧ 0 ≤ r.l.getD m 0 ∧ r.l.getD m 0 ≤ 99) := Lib.hid fun W hW m hm => ⟨(hW.cell (p := ⟨br, or + m, none⟩) hbr).trans (hcr m hm).1, (hcr m hm).2⟩
      have HO := Lib.hid hown
      have HN := Lib.hid hnx
      have hszr := hnx.size
      have HI0 := Lib.hid (empty_own V)
      have HIB := Lib.hid (below_alloc V (.cells #[] 3))
      have HRL : Hid (F.t.R[k].l = r.l) := Lib.hid (by rw [hr])
      have hgsz : V.heap.size < (V.alloc (.cells #[] 3)).heap.size := by rw [size_alloc]; omega
      rw [hta]
      clear hta hct hcr hra hrl hr hown hnx
      go_wp2
      go_loopw [10, 12, 24] (fun sv _ jv wi => ∃ j : Nat, j ≤ T.length ∧ jv = .int .i64 j ∧ wi.ownsRow V.heap.size 3 1 sv j (iv ((offersOf r.l p.l T).take j)) ∧ Below V.heap.size V wi) (fun _ _ jv _ => T.length - (intOf jv).toNat)
      case atStart => exact ⟨0, Nat.zero_le _, rfl, HI0.out, HIB.out⟩
      case round =>
        obtain ⟨j, hj, rfl, hown, hni⟩ := hrel
        clear hcl
        by_cases hjt : j < T.length
        · have hjti : (j : Int) < (T.length : Int) := by omega
          obtain ⟨m, hm⟩ : ∃ m, m = T[j] := ⟨_, rfl⟩
          obtain ⟨hsk, hml⟩ := HS.out j hjt
          rw [← hm] at hsk hml
          obtain ⟨x, hx⟩ : ∃ x, x = r.l.getD m 0 := ⟨_, rfl⟩
          obtain ⟨y, hy⟩ : ∃ y, y = p.l.getD m 0 := ⟨_, rfl⟩
          have hB := HN.out.trans (hni.mono hszr)
          obtain ⟨hrc, hrb⟩ := HCR.out wr hB m hml
          obtain ⟨hpc, hpb⟩ := HP.out m hml
          rw [← hx] at hrc hrb
          rw [← hy] at hpc hpb
          have hmi : (m : Int) < (n : Int) := by omega
          have c1 : wr.cell? ⟨bs, os + j, none⟩ = some (.int .i64 (m : Int)) := (hB.cell (p := ⟨bs, os + j, none⟩) HBW.out.1).trans hsk
          have c2 : wr.cell? ⟨bp, op + m, none⟩ = some (.int .i64 y) := (hB.cell (p := ⟨bp, op + m, none⟩) HBW.out.2).trans hpc
          have HST : Hid ((offersOf r.l p.l T).take (j + 1) = (offersOf r.l p.l T).take j ++ [x + y]) := Lib.hid (by rw [offers_step hjt, hx, hy, hm])
          have e2 : IntKind.i64.wrap (x + y) = x + y := IntWalk.i64_in _ (by omega)
          have hsz2 := hni.size
          have hd0 : Below V.heap.size V wr.drew := hni.drew
          have hownd := owns_below hown (Below.refl wr.heap.size wr).drew
          have HBS : Hid (V.heap.size ≤ (wr.drew.alloc (.cells #[.int .i64 (x + y)] 3)).heap.size) := Lib.hid (by rw [size_alloc]; show _ ≤ wr.heap.size + 1; omega)
          have HD := Lib.hid hd0
          clear hm hx hy hsk hpc hB hown hni hd0
          go_wp2
          go_region_law (refine step_append_lies _ rfl (.tmp 28) (.tmp 38) 22 rfl V.heap.size 3 i0 (.int .i64 0) 1 8 Try.underlying22 hi hz0 hz1 hz2 rfl (by decide) _ _ _ rfl (hownd.alloc _) ⟨wr.heap.size, 0, none⟩ 1 1 [.int .i64 (x + y)] rfl rfl (one_cell wr.drew _ _) (by simp [Value.oneCell']) (by omega) (by unfold maxLen; omega) (by omega) HBS.out _ rfl ?_; intro g cap w1 hown' hgrow hat hlt1)
          all_goals (
            have R1 : Hid (w1.ownsRow V.heap.size 3 1 (.slice (some ⟨g, 0, none⟩) (j + 1) cap) (j + 1) (iv ((offersOf r.l p.l T).take (j + 1)))) := Lib.hid (by rw [HST.out]; simpa [iv] using hown')
            have R2 : Hid (Below V.heap.size V w1) := Lib.hid ((HD.out.alloc HD.out.size _).grown hgrow HBS.out (fun j hj => (hownd.lt j hj).1))
            clear hown' hgrow hownd hat hlt1 hrc c1 c2
            go_wp2
            go_roundw
            case rel => exact ⟨j + 1, by omega, by go_num, R1.out, R2.out⟩
            case measure => simp [intOf]; omega)
        · obtain rfl : j = T.length := by omega
          rw [offers_all] at hown
          rw [← offers_len r.l p.l T] at hown
          obtain ⟨t, htv, htl, hto, hti⟩ := row_of_own hown
          have htn : t.l.length = T.length := by rw [htl, offers_len]
          have CM0 := minR_any t wr hti.at (by omega) (by omega)
          rw [htl] at CM0
          have CM : Hid (Calls Try.prog 68 #[.slice t.a t.l.length t.c] wr fun e w' => e = .returned (.int .i64 (offer r.l p.l T)) ∧ w' = wr) := Lib.hid (by rw [htl]; exact CM0)
          obtain ⟨q, hq⟩ : ∃ q, q = offer r.l p.l T := ⟨_, rfl⟩
          have HL : Hid ((mostL F p.l T).take (k + 1) = (mostL F p.l T).take k ++ [q]) := Lib.hid (by rw [most_step F p.l T hlt, HRL.out, hq])
          rw [← hq] at CM
          have hownp := owns_below HO.out hni
          have hB := HN.out.trans (hni.mono hszr)
          have hszp := hni.size
          have HTV := Lib.hid htv
          subst htv
          clear htl hto hti htn CM0 hq hown hni HTV
          go_wp2_with fail
          refine (show Calls _ _ _ wr _ from CM.out).mono ?_
          rintro e W1 ⟨rfl, rfl⟩
          go_wp2_with (at_builtin; refine wpList_append_own _ rfl _ _ 22 rfl wA.heap.size 3 i0 (.int .i64 0) 1 8 Try.underlying22 hi hz0 hz1 hz2 rfl (by decide) _ _ _ rfl (hownp.alloc _) ⟨W1.heap.size, 0, none⟩ 1 1 [.int .i64 q] rfl rfl (one_cell _ _ _) (by simp [Value.oneCell']) (by unfold maxLen; omega) (by omega) (by simp; omega) ?_; intro v' w1 hown' hgrow _)
          have R1 : w1.ownsRow wA.heap.size 3 1 v' (k + 1) (iv ((mostL F p.l T).take (k + 1))) := by rw [HL.out]; simpa [iv] using hown'
          have R2 : Below wA.heap.size wA w1 := (hB.alloc (by omega) _).grown hgrow (by simp; omega) (fun j hj => (hownp.lt j hj).1)
          clear hown' hgrow hownp hB
          go_wp2
          go_roundw
          case rel => exact ⟨k + 1, by omega, by go_num, R1, R2⟩
          case measure => simp [intOf]; omega
    · obtain rfl : k = F.t.R.length := by omega
      go_wp2
      go_ret
      rw [List.take_of_length_le (by rw [most_len]; exact Nat.le_refl _)] at hown
      rw [← most_len F p.l T] at hown
      obtain ⟨t, ht, htl, hto, hti⟩ := row_of_own hown
      exact ⟨t, congrArg Ending.returned ht, htl, hto, hti.wide hbA.size (Nat.le_refl _), hbA.trans (hnx.mono hbA.size)⟩
end Go.Proofs.Ytehmjmknegnojaa
