/- The sites to which clients are nearest, each once: the contracts of both sides. Condition: a valid Field, clients that are there. -/
import Derived.Test.YtlnompeojhaigaaDedup
import Derived.Test.YtlnompeojhaigaaAway
import Derived.Test.YtlnompeojhaigaaNext
import Derived.Test.YtlnompeojhaigaaBits
import Derived.Test.YtlnompeojhaigaaNear
namespace Go.Proofs.Ytlnompeojhaigaa
open Go.RowKit Go.Shelf

theorem bits_all7 : ∀ n ≤ 7, bitsT n (2 ^ n - 1) = List.range n := by decide +kernel
/-- The nearest sites of some clients, in their order. -/
def nearsL (F : Fld) (T : List Nat) : List Int := T.map fun j => ((near (F.t.con.getD j []) (List.range F.o.l.length) : Nat) : Int)
def sitesN (F : Fld) (T : List Nat) : List Int := if T = [] then [0] else putAll (nearsL F T)
theorem nears_len (F : Fld) (T : List Nat) : (nearsL F T).length = T.length := List.length_map _
theorem nears_at {F : Fld} {T : List Nat} {k : Nat} (h : k < T.length) (hT : T[k] < F.t.R.length) : (nearsL F T)[k]'(by rw [nears_len]; exact h) = ((near F.t.R[T[k]].l (List.range F.o.l.length) : Nat) : Int) := by
  unfold nearsL
  rw [List.getElem_map]
  congr 2
  rw [List.getD_eq_getElem?_getD, List.getElem?_eq_getElem (by rw [con_length]; exact hT), Option.getD_some, con_at F.t hT]
theorem nears_like {F G : Fld} (h : F.Like G) (T : List Nat) : nearsL F T = nearsL G T := by unfold nearsL; rw [h.1, h.2]
theorem sitesN_like {F G : Fld} (h : F.Like G) (T : List Nat) : sitesN F T = sitesN G T := by unfold sitesN; rw [nears_like h]
theorem sitesN_len (F : Fld) (T : List Nat) : (sitesN F T).length ≤ T.length + 1 := by
  unfold sitesN
  split
  · simp
  · have := putAll_len (nearsL F T) []
    rw [nears_len] at this
    simp only [List.length_nil] at this
    show (putAll (nearsL F T)).length ≤ _
    unfold putAll; omega
theorem sitesN_put {F : Fld} {T : List Nat} (h : T ≠ []) : sitesN F T = putAll (nearsL F T) ∧ putAll (nearsL F T) ≠ [] := by
  unfold sitesN
  rw [if_neg h]
  refine ⟨rfl, fun e => ?_⟩
  cases T with
  | nil => exact h rfl
  | cons a t =>
    have := (putAll_mem (nearsL F (a :: t)) _).2 (List.mem_cons_self ..)
    rw [e] at this; simp at this

theorem zero_row (w : World) : ∃ t : Row, Value.slice (some ⟨w.heap.size, 0, none⟩) 1 1 = .slice t.a t.l.length t.c ∧ t.l = [0] ∧ t.Own 3 (w.alloc (.cells #[.int .i64 0] 3)) ∧ t.In w.heap.size (w.alloc (.cells #[.int .i64 0] 3)).heap.size (w.alloc (.cells #[.int .i64 0] 3)) := by
  have h : (w.alloc (.cells #[.int .i64 0] 3)).ownsRow w.heap.size 3 1 (.slice (some ⟨w.heap.size, 0, none⟩) 1 1) ([0] : List Int).length (iv [0]) := World.ownsRow_lit w #[.int .i64 0] 1 (Nat.le_refl _) (by decide) rfl
  exact row_of_own h

set_option maxRecDepth 8000 in
set_option maxHeartbeats 2000000 in
theorem nearestSites_any (F : Fld) (s : Row) (T : List Nat) (w : World) (hF : F.At w) (hs : s.At w) (hg : F.good = true) (hsl : s.l = up T) (hT : ∀ j ∈ T, j < F.t.R.length) (hsm : s.l.length ≤ 1048576) :
    Calls Try.prog 75 #[F.val, .slice s.a s.l.length s.c] w fun e w' => ∃ t : Row, e = .returned (.slice t.a t.l.length t.c) ∧ t.l = sitesN F T ∧ t.Own 3 w' ∧ t.In w.heap.size w'.heap.size w' ∧ Below w.heap.size w w' := by
  obtain ⟨i0, hi, hz0, hz1, hz2⟩ := info_parts infoInt
  obtain ⟨wA, hA, hbA, bx, hFA, hszA⟩ := laid_fld F w 29 hF
  have HSA := Lib.hid (hs.on hbA)
  have HFA := Lib.hid hFA
  have HBX := Lib.hid bx
  have HA := Lib.hid hA
  have HG := Lib.hid hg
  have HSL := Lib.hid hsl
  have HTT := Lib.hid hT
  have hsz := good_sizes hg
  obtain ⟨n, hn⟩ : ∃ n, n = s.l.length := ⟨_, rfl⟩
  have HTN : Hid (T.length = n) := Lib.hid (by rw [hn, hsl, up_length])
  have hni : (n : Int) ≤ 1048576 := by omega
  obtain ⟨o, ho⟩ : ∃ o, o = F.o.l.length := ⟨_, rfl⟩
  have HO := Lib.hid ho
  have hoi : (o : Int) ≤ 7 := by omega
  have ho7 : o ≤ 7 := by omega
  have ho1 : 1 ≤ o := by omega
  have x0 : wA.cell? ⟨w.heap.size, 0, none⟩ = some (.slice F.o.a o F.o.c) := by rw [ho]; exact bx.c0
  rw [hA] at x0
  have hmi : (F.t.R.length : Int) ≤ 7 := by omega
  by_cases h0 : T = []
  · have heq : ((n : Int) == 0) = true := by have := HTN.out; rw [h0] at this; simp at this; simp [← this]
    obtain ⟨t, ht, htl, hto, hti⟩ := zero_row wA
    have HE : Hid (sitesN F T = [0]) := Lib.hid (by unfold sitesN; rw [if_pos h0])
    have hwA := hbA.size
    have HB := Lib.hid (hbA.trans ((below_alloc wA (.cells #[.int .i64 0] 3)).mono hwA))
    have HT9 := Lib.hid (show Value.slice (some ⟨w.heap.size + 1, 0, none⟩) 1 1 = .slice t.a t.l.length t.c by rw [← hszA]; exact ht)
    clear hF hs hA bx hFA hg hsl hT hsz h0 hszA ht
    show Calls _ _ #[.agg #[F.o.val, F.t.val], _] w _
    rw [← hn]
    clear hn ho
    go_enter Try.func75, Try.ntmps75
    go_wp2
    go_ret
    rw [show w.alloc (Obj.cells #[F.o.val, F.t.val] 29) = wA from HA.out.symm]
    exact ⟨t, congrArg Ending.returned HT9.out, by rw [HE.out]; exact htl, hto, hti.wide hwA (Nat.le_refl _), HB.out⟩
  have heq : ((n : Int) == 0) = false := by have := HTN.out; have := List.length_pos_iff.2 h0; simp; omega
  have CNB := Lib.hid (numbers_any o wA ho7)
  have HE := Lib.hid (show sitesN F T = Lib.compact (sortA (nearsL F T)) by rw [compact_put]; exact (sitesN_put h0).1)
  clear hF hs hA bx hFA hg hsl hT hsz h0 hszA
  show Calls _ _ #[.agg #[F.o.val, F.t.val], _] w _
  rw [← hn]
  clear hn ho
  go_enter Try.func75, Try.ntmps75
  go_wp2_with fail
  rw [show w.alloc (Obj.cells #[F.o.val, F.t.val] 29) = wA from HA.out.symm]
  refine (show Calls _ _ _ _ _ from CNB.out).mono ?_
  rintro e W2 ⟨A, rfl, hAl, -, hAi, hb2⟩
  have HAL := Lib.hid hAl
  have HAI := Lib.hid hAi.at
  have HB2 := Lib.hid hb2
  have hown0 := Lib.hid (empty_own W2)
  have hbel0 := Lib.hid (below_alloc W2 (.cells #[] 3))
  have hsz2 := hb2.size
  clear hAl hAi hb2 x0
  go_wp2
  go_loopw [6, 8, 20] (fun out _ jv wr => ∃ k : Nat, k ≤ n ∧ jv = .int .i64 k ∧ wr.ownsRow W2.heap.size 3 1 out k (iv ((nearsL F T).take k)) ∧ Below W2.heap.size W2 wr) (fun _ _ jv _ => n - (intOf jv).toNat)
  case atStart => exact ⟨0, Nat.zero_le _, rfl, by rw [List.take_zero]; exact hown0.out, hbel0.out⟩
  case round =>
    obtain ⟨k, hk, rfl, hown, hnx⟩ := hrel
    have HOW := Lib.hid hown
    have HNX := Lib.hid hnx
    have hszr := hnx.size
    have HBA : Hid (Below wA.heap.size wA wr) := Lib.hid (HB2.out.trans (hnx.mono hsz2))
    clear hown
    by_cases hlt : k < n
    · have hlti : (k : Int) < (n : Int) := by omega
      have hkT : k < T.length := by rw [HTN.out]; exact hlt
      obtain ⟨b, of, ha, hcl, _⟩ := cli_cells HSA.out HSL.out HBA.out hkT
      obtain ⟨j, hj⟩ : ∃ j, j = T[k] := ⟨_, rfl⟩
      rw [← hj] at hcl
      have hjm : j < F.t.R.length := HTT.out j (by rw [hj]; exact List.getElem_mem _)
      have hji : (j : Int) < (F.t.R.length : Int) := by omega
      rcases HFA.out.2.1.2.2 with h3 | ⟨bt, ot, hta, hbt, hct⟩
      · have h3' := congrArg List.length h3; rw [tv_length, List.length_nil] at h3'; omega
      obtain ⟨r, hr⟩ : ∃ r, r = F.t.R[j] := ⟨_, rfl⟩
      have hrm : r ∈ F.t.R := by rw [hr]; exact List.getElem_mem hjm
      have hgr := good_row HG.out hrm
      have y1 : wr.cell? ⟨w.heap.size, 1, none⟩ = some (.slice (some ⟨bt, ot, none⟩) F.t.R.length F.t.c) := by rw [← hta]; exact (HBX.out.on HBA.out).c1
      have hcr : wr.cell? ⟨bt, ot + j, none⟩ = some (.slice r.a r.l.length r.c) := (HBA.out.cell (p := ⟨bt, ot + j, none⟩) hbt).trans (by rw [hr]; exact hct j _ (tv_at hjm))
      obtain ⟨q, hq⟩ : ∃ q, q = near r.l (List.range o) := ⟨_, rfl⟩
      have CN := Lib.hid (by
        have := nearest_law r A (List.range o) wr ((HFA.out.2.2 r hrm).on HBA.out) (HAI.out.on hnx) HAL.out (by rw [List.length_range]; exact ho1) (fun m hm => by rw [hgr.1, ← HO.out]; exact List.mem_range.1 hm)
        rw [← hq] at this; exact this)
      have HST : Hid ((nearsL F T).take (k + 1) = (nearsL F T).take k ++ [((q : Nat) : Int)]) := Lib.hid (by
        rw [List.take_succ_eq_append_getElem (by rw [nears_len]; exact hkT), nears_at hkT (by rw [← hj]; exact hjm)]
        congr 2
        rw [hq, hr, HO.out]
        simp only [← hj])
      rw [ha]
      clear hj ha hq hr hrm hgr hta hct hkT hnx
      go_wp2_with fail
      refine (show Calls _ _ _ _ _ from CN.out).mono ?_
      rintro e W8 ⟨rfl, hb8⟩
      have HB8 := Lib.hid (HNX.out.trans (hb8.mono hszr))
      have hown := owns_below HOW.out hb8
      have hsz8 := HB8.out.size
      clear hb8 y1 hcr hcl
      go_wp2_with (at_builtin; refine wpList_append_own _ rfl _ _ 22 rfl W2.heap.size 3 i0 (.int .i64 0) 1 8 Try.underlying22 hi hz0 hz1 hz2 rfl (by decide) _ _ _ rfl (hown.alloc _) ⟨W8.heap.size, 0, none⟩ 1 1 [.int .i64 ((q : Nat) : Int)] rfl rfl (one_cell _ _ _) (by simp [Value.oneCell']) (by unfold maxLen; omega) (by omega) (by simp; omega) ?_; intro v' w1 hown' hgrow _)
      have R1 : w1.ownsRow W2.heap.size 3 1 v' (k + 1) (iv ((nearsL F T).take (k + 1))) := by rw [HST.out]; simpa [iv] using hown'
      have R2 : Below W2.heap.size W2 w1 := (HB8.out.alloc (by omega) _).grown hgrow (by simp; omega) (fun j hj => (hown.lt j hj).1)
      clear hown' hgrow hown
      go_wp2
      go_roundw
      case rel => exact ⟨k + 1, by omega, by go_num, R1, R2⟩
      case measure => simp [intOf]; omega
    · obtain rfl : k = n := by omega
      have hfull : (nearsL F T).take k = nearsL F T := List.take_of_length_le (by rw [nears_len, HTN.out]; exact Nat.le_refl _)
      have h9 := HOW.out
      rw [hfull] at h9
      have hkl : k = (nearsL F T).length := by rw [nears_len, HTN.out]
      obtain ⟨t, rfl, htl, hto, hti⟩ := rowN_of_own hkl h9
      have htn : t.l.length ≤ 1048576 := by rw [htl, nears_len, HTN.out]; omega
      have CS := Lib.hid (sortRow_any t W2.heap.size wr hto hti htn hszr)
      have HTL := Lib.hid htl
      clear hfull h9 hkl htl hto hti hnx
      go_wp2_with fail
      refine (show Calls _ _ _ _ _ from CS.out).mono ?_
      rintro e W3 ⟨rfl, hso, hsi, hb3⟩
      have hsl3 : (sortA t.l).length = t.l.length := sortA_len _
      have CC := Lib.hid (by
        have := compactRow_any ⟨t.a, t.c, sortA t.l⟩ W2.heap.size W3 hso hsi (by simp only; rw [hsl3]; exact htn) (Nat.le_trans hszr hb3.size)
        simp only at this
        rw [hsl3] at this; exact this)
      have HB3 := Lib.hid hb3
      clear hso hsi hb3 hsl3
      go_wp2_with fail
      refine (show Calls _ _ _ _ _ from CC.out).mono ?_
      rintro e W4 ⟨c, rfl, hcl4, hco, hci, hb4⟩
      have HC4 := Lib.hid hcl4
      have HB4 := Lib.hid hb4
      have hwA := hbA.size
      clear hcl4 hb4
      go_wp2
      go_ret
      exact ⟨c, rfl, by rw [HC4.out, HE.out, HTL.out], hco, hci.wide (Nat.le_trans hwA hsz2) (Nat.le_refl _), hbA.trans ((HB2.out.trans (((HNX.out.trans HB3.out).trans HB4.out).mono hsz2)).mono hwA)⟩

set_option maxRecDepth 16000 in
set_option maxHeartbeats 4000000 in
theorem l5Nearest_any (F : Fld) (s : Row) (T : List Nat) (w : World) (hF : F.At w) (hs : s.At w) (hg : F.good = true) (hsl : s.l = up T) (hT : ∀ j ∈ T, j < F.t.R.length) (hsm : s.l.length ≤ 1048576) :
    Calls Try.prog 74 #[F.val, .slice s.a s.l.length s.c] w fun e w' => ∃ t : Row, e = .returned (.slice t.a t.l.length t.c) ∧ t.l = sitesN F T ∧ t.Own 3 w' ∧ t.In w.heap.size w'.heap.size w' ∧ Below w.heap.size w w' := by
  obtain ⟨wA, hA, hbA, bx, hFA, hszA⟩ := laid_fld F w 29 hF
  have HSA := Lib.hid (hs.on hbA)
  have HFA := Lib.hid hFA
  have HBX := Lib.hid bx
  have HG := Lib.hid hg
  have HSL := Lib.hid hsl
  have HTT := Lib.hid hT
  have hsz := good_sizes hg
  obtain ⟨n, hn⟩ : ∃ n, n = s.l.length := ⟨_, rfl⟩
  have HTN : Hid (T.length = n) := Lib.hid (by rw [hn, hsl, up_length])
  have hni : (n : Int) ≤ 1048576 := by omega
  obtain ⟨o, ho⟩ : ∃ o, o = F.o.l.length := ⟨_, rfl⟩
  have HO := Lib.hid ho
  have hoi : (o : Int) ≤ 7 := by omega
  have ho7 : o ≤ 7 := by omega
  have ho1 : 1 ≤ o := by omega
  obtain ⟨m, hm⟩ : ∃ m, m = 2 ^ o := ⟨_, rfl⟩
  have hpi : (2 : Int) ^ o = (m : Int) := by rw [hm]; push_cast; rfl
  have hm1 : 1 ≤ m := by rw [hm]; exact Nat.one_le_two_pow
  have hm2 : m ≤ 128 := by
    rw [hm]
    have : 2 ^ o ≤ 2 ^ 7 := Nat.pow_le_pow_right (by omega) ho7
    simpa using this
  obtain ⟨c, hc⟩ : ∃ c, c = m - 1 := ⟨_, rfl⟩
  have hci : (m : Int) - 1 = (c : Int) := by omega
  have w1 : IntKind.i64.wrap (c : Int) = (c : Int) := IntWalk.i64_in _ (by omega)
  have w2 : IntKind.i64.wrap (m : Int) = (m : Int) := IntWalk.i64_in _ (by omega)
  have hc8 : c < 128 := by omega
  have HBI : Hid (bitsT o c = List.range o) := Lib.hid (by rw [hc, hm]; exact bits_all7 o ho7)
  have hmi : (m : Int) ≤ 128 := by omega
  obtain ⟨w0, hw0⟩ : ∃ u, u = wA.alloc (.cells #[] 3) := ⟨_, rfl⟩
  have hb0 : Below wA.heap.size wA w0 := by rw [hw0]; exact below_alloc _ _
  have H0 : Hid (LRow wA.heap.size w0 (.slice (some ⟨w.heap.size + 1, 0, none⟩) 0 0) [] (w.heap.size + 1) 0) := Lib.hid ⟨rfl, by have := empty_own wA; rw [← hw0, hszA] at this; rw [hszA]; exact this⟩
  have HW0 : Hid (w0 = (w.alloc (Obj.cells #[F.o.val, F.t.val] 29)).alloc (.cells #[] 3)) := Lib.hid (by rw [hw0, hA])
  have HS0 : Hid (∀ u, Below w0.heap.size w0 u → ((u.cell? ⟨w.heap.size, 0, none⟩ = some (.slice F.o.a o F.o.c) ∧ u.cell? ⟨w.heap.size, 1, none⟩ = some F.t.val) ∧ Below w0.heap.size w0 u)) := Lib.hid fun u hu => ⟨⟨by rw [HO.out]; exact ((HBX.out.on hb0).on hu).c0, ((HBX.out.on hb0).on hu).c1⟩, hu⟩
  have s0 := HS0.out w0.drew (Below.refl _ _).drew
  have HB0 := Lib.hid hb0
  have CB := Lib.hid (fun u => l2Bits_any o c u ho7 hc8)
  have hwA := hbA.size
  have HN0 : Hid (n = 0 ↔ T = []) := Lib.hid (by have := HTN.out; constructor <;> intro h; exact List.eq_nil_of_length_eq_zero (by omega); rw [h] at this; simpa using this.symm)
  have hmR : (F.t.R.length : Int) ≤ 7 := by omega
  clear hF hs hA bx hFA hg hsl hT hsz hszA hw0 hb0 hm hc ho
  show Calls _ _ #[.agg #[F.o.val, F.t.val], _] w _
  rw [← hn]
  clear hn
  go_enter Try.func74, Try.ntmps74
  go_wp2_with fail
  rw [← HW0.out]
  go_region_held3 (fun u => ((u.cell? ⟨w.heap.size, 0, none⟩ = some (.slice F.o.a o F.o.c) ∧ u.cell? ⟨w.heap.size, 1, none⟩ = some F.t.val) ∧ Below w0.heap.size w0 u)) (first | exact s0 | exact keep_reg HS0.out (by first | assumption | exact And.right (by assumption)) hb1) ((go_at_call 102; refine (show Calls _ _ _ _ _ from CB.out _).mono ?_; rintro e u1 ⟨A, rfl, hAl, hAo, hAi, hb1⟩; have HAL := Lib.hid hAl; have HAI := Lib.hid hAi.at; clear hAl hAo hAi))
  all_goals
    have HBX1 := Lib.hid (show Below w0.heap.size w0 u1 by first | assumption | exact And.right (by assumption))
    have HAI1 := Lib.hid (show A.At u1 from HAI.out)
    go_wp2
    go_loopw [5, 7] (fun out jv wr => ∃ k g cap : Nat, k ≤ n ∧ jv = .int .i64 k ∧ out = .slice (some ⟨g, 0, none⟩) (putAll ((nearsL F T).take k)).length cap ∧ Hid (LRow wA.heap.size wr out (putAll ((nearsL F T).take k)) g cap) ∧ Below u1.heap.size u1 wr) (fun _ jv _ => n - (intOf jv).toNat)
    case atStart => exact ⟨0, _, _, Nat.zero_le _, rfl, rfl, Lib.hid (H0.out.on HBX1.out), Below.refl _ _⟩
    case round =>
      obtain ⟨k, g, cap, hk, rfl, rfl, HL, hnx⟩ := hrel
      have HNX := Lib.hid hnx
      have hszr := hnx.size
      have HB9 : Hid (Below w0.heap.size w0 wr) := Lib.hid (HBX1.out.trans (hnx.mono HBX1.out.size))
      have HBA : Hid (Below wA.heap.size wA wr) := Lib.hid (HB0.out.trans (HB9.out.mono HB0.out.size))
      by_cases hlt : k < n
      · have hlti : (k : Int) < (n : Int) := by omega
        have hkT : k < T.length := by rw [HTN.out]; exact hlt
        obtain ⟨b, of, ha, hcl, _⟩ := cli_cells HSA.out HSL.out HBA.out hkT
        obtain ⟨j, hj⟩ : ∃ j, j = T[k] := ⟨_, rfl⟩
        rw [← hj] at hcl
        have hjm : j < F.t.R.length := HTT.out j (by rw [hj]; exact List.getElem_mem _)
        obtain ⟨q, hq⟩ : ∃ q, q = near F.t.R[j].l (List.range o) := ⟨_, rfl⟩
        obtain ⟨L, hL⟩ : ∃ L, L = putAll ((nearsL F T).take k) := ⟨_, rfl⟩
        have HST : Hid (putAll ((nearsL F T).take (k + 1)) = putS L ((q : Nat) : Int)) := Lib.hid (by
          rw [putAll_step (by rw [nears_len]; exact hkT), nears_at hkT (by rw [← hj]; exact hjm), hL]
          congr 3
          rw [hq, HO.out]
          simp only [← hj])
        have hL7 : L.length ≤ 1048576 := by
          have := putAll_len ((nearsL F T).take k) []
          rw [List.length_take, nears_len] at this
          simp only [List.length_nil] at this
          rw [hL]; unfold putAll; omega
        have hLr : L.Pairwise (· < ·) := by rw [hL]; exact putAll_rises _
        rw [← hL] at HL ⊢
        have D1 := Lib.hid (fun u (hu : Below wr.heap.size wr u) => by
          have := l2Site_any F A (List.range o) j u ((HFA.out.on HBA.out).on hu) ((HAI1.out.on HNX.out).on hu) HG.out (by rw [HAL.out, HBI.out]) (by rw [List.length_range]; exact ho1) (fun m hm => by rw [← HO.out]; exact List.mem_range.1 hm) hjm
          rw [← hq] at this; exact this : ∀ u, Below wr.heap.size wr u → Calls Try.prog 59 #[.agg #[F.o.val, F.t.val], .int .i64 j, .slice A.a A.l.length A.c] u fun e w' => e = .returned (.int .i64 ((q : Nat) : Int)) ∧ Below u.heap.size u w')
        have D2 := Lib.hid (fun u (hu : Below wr.heap.size wr u) => l1PutS_any wA.heap.size g cap L ((q : Nat) : Int) u (owns_below HL.out.own hu) hL7 hLr (Nat.le_trans HBA.out.size hu.size))
        have hblt := World.block_lt_of_cell? wr _ hcl
        have HS : Hid (∀ u, Below wr.heap.size wr u → ((u.cell? ⟨w.heap.size, 0, none⟩ = some F.o.val ∧ u.cell? ⟨w.heap.size, 1, none⟩ = some F.t.val ∧ u.cell? ⟨b, of + k, none⟩ = some (.int .i64 (j : Int))) ∧ Below wr.heap.size wr u)) := Lib.hid fun u hu => ⟨⟨((HBX.out.on HBA.out).on hu).c0, ((HBX.out.on HBA.out).on hu).c1, (hu.cell (p := ⟨b, of + k, none⟩) hblt).trans hcl⟩, hu⟩
        have s0 := HS.out wr.drew (Below.refl _ _).drew
        rw [ha]
        clear hj ha hq hL hjm hkT hcl hLr hnx
        go_wp2_with fail
        go_region_held3 (fun u => ((u.cell? ⟨w.heap.size, 0, none⟩ = some F.o.val ∧ u.cell? ⟨w.heap.size, 1, none⟩ = some F.t.val ∧ u.cell? ⟨b, of + k, none⟩ = some (.int .i64 (j : Int))) ∧ Below wr.heap.size wr u)) (first | exact s0 | exact keep_reg HS.out (by first | assumption | exact And.right (by assumption)) hb1) (first | (go_at_call 59; refine (show Calls _ _ _ _ _ from D1.out _ (by first | assumption | exact And.right (by assumption))).mono ?_; rintro e u2 ⟨rfl, hb1⟩) | (go_at_call 87; refine (show Calls _ _ _ _ _ from D2.out _ (by first | assumption | exact And.right (by assumption))).mono ?_; rintro e u3 ⟨v3, g3, cap3, rfl, hl3, hb1⟩; have HL3 := Lib.hid hl3; clear hl3))
        all_goals
          have HBF := Lib.hid (show Below wr.heap.size wr u3 by first | assumption | exact And.right (by assumption))
          have HV3 := Lib.hid HL3.out.val
          have HBN := Lib.hid (HNX.out.trans (HBF.out.mono hszr))
          go_wp2
          go_roundw
          case rel => exact ⟨k + 1, g3, cap3, by omega, by go_num, by rw [HST.out]; exact HV3.out, by rw [HST.out]; exact HL3, HBN.out⟩
          case measure => simp [intOf]; omega
      · obtain rfl : k = n := by omega
        obtain ⟨L, hL⟩ : ∃ L, L = putAll (nearsL F T) := ⟨_, rfl⟩
        have hfull : (nearsL F T).take k = nearsL F T := List.take_of_length_le (by rw [nears_len, HTN.out]; exact Nat.le_refl _)
        rw [hfull, ← hL] at HL ⊢
        have HLL := Lib.hid hL
        obtain ⟨t, ht, htl, hto, hti⟩ := HL.out.row
        have HTL := Lib.hid htl
        have HT9 := Lib.hid ht
        have HBW := Lib.hid (hbA.trans (HBA.out.mono hbA.size))
        by_cases hT0 : T = []
        · have hL0 : L = [] := by rw [hL, hT0]; rfl
          have heq : ((L.length : Int) == 0) = true := by rw [hL0]; rfl
          have hd : decide ((L.length : Int) = 0) = true := by rw [hL0]; rfl
          obtain ⟨y, hy, hyl, hyo, hyi⟩ := zero_row wr
          have HE : Hid (sitesN F T = [0]) := Lib.hid (by unfold sitesN; rw [if_pos hT0])
          have HY := Lib.hid hy
          have hwr := HBW.out.size
          have HBY := Lib.hid (HBW.out.trans ((below_alloc wr (.cells #[.int .i64 0] 3)).mono hwr))
          clear hL hL0 hT0 htl hto hti ht hnx hfull hy
          go_wp2
          go_ret
          exact ⟨y, congrArg Ending.returned HY.out, by rw [HE.out]; exact hyl, hyo, hyi.wide hwr (Nat.le_refl _), HBY.out⟩
        · have hp := sitesN_put (F := F) hT0
          have hL0 : L ≠ [] := by rw [hL]; exact hp.2
          have heq : ((L.length : Int) == 0) = false := by have := List.length_pos_iff.2 hL0; simp; omega
          have HE : Hid (sitesN F T = L) := Lib.hid (by rw [hL]; exact hp.1)
          clear hL hL0 hT0 htl ht hnx hfull hp
          go_wp2
          go_ret
          exact ⟨t, congrArg Ending.returned HT9.out, by rw [HE.out]; exact HTL.out, hto, hti.wide hwA (Nat.le_refl _), HBW.out⟩
end Go.Proofs.Ytlnompeojhaigaa
