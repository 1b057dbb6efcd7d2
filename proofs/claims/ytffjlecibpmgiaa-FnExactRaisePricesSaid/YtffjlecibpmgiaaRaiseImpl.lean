/- RaisePrices, as the program has it. Condition: the System reads as such. -/
import Derived.Test.YtffjlecibpmgiaaPlainRaise
import Derived.Test.YtffjlecibpmgiaaSetRests
import Derived.Test.YtffjlecibpmgiaaSetsWith
import Derived.Test.YtffjlecibpmgiaaPlainPick
import Derived.Test.YtffjlecibpmgiaaSysPost
namespace Go.Proofs.Ytffjlecibpmgiaa
open Go.RowKit Go.Shelf

/-- An answer of two lists and a bool, each list in memory of its own. -/
def PInts2 (l l2 : List Int) (b : Bool) (W : World) (e : Ending) (w' : World) : Prop :=
  ∃ (s t : Row) (mid : Nat), e = .returned (.tuple #[.slice s.a s.l.length s.c, .slice t.a t.l.length t.c, .bool b]) ∧ s.l = l ∧ t.l = l2 ∧ s.Own 3 w' ∧ t.Own 3 w' ∧ s.In W.heap.size mid w' ∧ t.In mid w'.heap.size w' ∧ W.heap.size ≤ mid ∧ mid ≤ w'.heap.size ∧ Below W.heap.size W w'

theorem paid1_any (x : Int) (w : World) :
    Calls Try.prog 71 #[.int .i64 x] w fun e w' => e = .returned (.bool (decide (x = 0))) ∧ Below w.heap.size w w' := by
  by_cases h : x = 0
  · subst h
    go_enter Try.func71, Try.ntmps71
    go_wp2
    go_ret
    exact ⟨by simp, Below.refl _ _⟩
  · have h1 : (x == 0) = false := by simp [h]
    have hd : decide (x = 0) = false := by simp [h]
    rw [hd]
    clear hd
    go_enter Try.func71, Try.ntmps71
    go_wp2
    go_ret
    exact ⟨by simp, Below.refl _ _⟩

set_option maxRecDepth 8000 in
set_option maxHeartbeats 2000000 in
theorem placesWhere_paid (r : Row) (P : Int → Bool) (w : World) (hr : r.At w) (hs : r.l.length ≤ 1048576)
    (hP : ∀ x ∈ r.l, ∀ u, Below w.heap.size w u → Calls Try.prog 71 #[.int .i64 x] u fun e w' => e = .returned (.bool (P x)) ∧ Below u.heap.size u w') :
    Calls Try.prog 70 #[.slice r.a r.l.length r.c, .func (.func 71) #[] #[]] w fun e w' => ∃ t : Row, e = .returned (.slice t.a t.l.length t.c) ∧ t.l = places P r.l r.l.length ∧ t.Own 3 w' ∧ t.In w.heap.size w'.heap.size w' ∧ Below w.heap.size w w' := by
  obtain ⟨i0, hi, hz0, hz1, hz2⟩ := info_parts infoInt
  obtain ⟨a, c, l⟩ := r
  obtain ⟨h1, h2, h3⟩ := hr
  simp only at h1 h2 h3 hP hs ⊢
  have hni : (l.length : Int) ≤ 1048576 := by omega
  have HR := Lib.hid h3
  have HP := Lib.hid hP
  have hown0 := empty_own w
  have hb0 := below_alloc w (.cells #[] 3)
  have H0 := Lib.hid hown0
  have HB0 := Lib.hid hb0
  clear h3 hP hown0 hb0
  go_enter Try.func70, Try.ntmps70
  go_wp2
  go_loopw [5, 6, 7, 11] (fun out _ _ i wr => ∃ k : Nat, k ≤ l.length ∧ i = .int .i64 k ∧ wr.ownsRow w.heap.size 3 1 out (places P l k).length (iv (places P l k)) ∧ Below w.heap.size w wr) (fun _ _ _ i _ => l.length - (intOf i).toNat)
  case atStart => exact ⟨0, Nat.zero_le _, rfl, H0.out, HB0.out⟩
  case round =>
    obtain ⟨k, hk, rfl, hown0, hnx⟩ := hrel
    by_cases hlt : k < l.length
    · have hlti : (k : Int) < (l.length : Int) := by omega
      rcases HR.out with h3 | ⟨b, o, rfl, hb, hcell⟩
      · have h3' := congrArg List.length (iv_nil h3); rw [List.length_nil] at h3'; omega
      obtain ⟨x, hx⟩ : ∃ x, x = l[k] := ⟨_, rfl⟩
      have hcl : wr.cell? ⟨b, o + k, none⟩ = some (.int .i64 x) := (hnx.cell (p := ⟨b, o + k, none⟩) hb).trans (by rw [hx]; exact hcell k _ (iv_at hlt))
      have HX : Hid (l.getD k 0 = x) := Lib.hid (by rw [getD_at hlt, hx])
      have cp := HP.out x (by rw [hx]; exact List.getElem_mem hlt) wr hnx
      obtain ⟨v, hv⟩ : ∃ v, v = P x := ⟨_, rfl⟩
      rw [← hv] at cp
      have CP := Lib.hid cp
      have HV := Lib.hid hv
      have HO := Lib.hid hown0
      have HN := Lib.hid hnx
      have hszr := hnx.size
      have hpl := places_len P l k
      clear hx hcell cp hv hown0 hnx
      go_wp2_with fail
      refine (show Calls _ _ _ _ _ from CP.out).mono ?_
      rintro e W1 ⟨rfl, hb1⟩
      have hnx1 := HN.out.trans (hb1.mono hszr)
      have hown := owns_below HO.out hb1
      have hsz1 := hb1.size
      clear hb1 hcl
      cases v with
      | false =>
        have HE : Hid (places P l (k + 1) = places P l k) := Lib.hid (places_no (by rw [HX.out, ← HV.out]))
        have HOW := Lib.hid hown
        clear hown
        go_wp2
        go_roundw
        case rel => exact ⟨k + 1, by omega, by go_num, by rw [HE.out]; exact HOW.out, hnx1⟩
        case measure => simp [intOf]; omega
      | true =>
        have HE : Hid (places P l (k + 1) = places P l k ++ [(k : Int)]) := Lib.hid (places_yes (by rw [HX.out, ← HV.out]))
        have HX2 := Lib.hid hnx1
        clear hnx1
        go_wp2_with (at_builtin; refine wpList_append_own _ rfl _ _ 23 rfl w.heap.size 3 i0 (.int .i64 0) 1 8 Try.underlying23 hi hz0 hz1 hz2 rfl (by decide) _ _ _ rfl (hown.alloc _) ⟨W1.heap.size, 0, none⟩ 1 1 [.int .i64 (k : Int)] rfl rfl (one_cell _ _ _) (by simp [Value.oneCell']) (by unfold maxLen; omega) (by omega) (by simp; omega) ?_; intro v' w1 hown' hgrow _)
        have R1 : w1.ownsRow w.heap.size 3 1 v' (places P l (k + 1)).length (iv (places P l (k + 1))) := by rw [HE.out]; exact own_snoc rfl hown'
        have R2 : Below w.heap.size w w1 := (HX2.out.alloc (by omega) _).grown hgrow (by simp; omega) (fun j hj => (hown.lt j hj).1)
        clear hown' hgrow hown
        go_wp2
        go_roundw
        case rel => exact ⟨k + 1, by omega, by go_num, R1, R2⟩
        case measure => simp [intOf]; omega
    · obtain rfl : k = l.length := by omega
      go_wp2
      go_ret
      obtain ⟨t, ht, htl, hto, hti⟩ := row_of_own hown0
      exact ⟨t, congrArg Ending.returned ht, htl, hto, hti, hnx⟩


set_option maxRecDepth 16000 in
set_option maxHeartbeats 2000000 in
theorem raiseFor_any (S : Sys) (p : Row) (x n : Nat) (w : World) (hS : S.At w) (hp : p.At w) (hg : S.good = true) (hn : S.n = n) (hP : PricesN n p.l) (hR : RestOK S p.l) :
    Calls Try.prog 69 #[.agg #[.int .i64 S.n, .slice S.f.t.a S.f.t.R.length S.f.t.c, .slice S.f.o.a S.f.o.l.length S.f.o.c], .slice p.a p.l.length p.c, .int .i64 (x : Int)] w fun e w' => e = .returned (.int .i64 (raiseV S p.l x)) ∧ Below w.heap.size w w' := by
  obtain ⟨wA, hA, hb, bx, hSA, hszA⟩ := laid_sys S w 28 hS
  have HPA := Lib.hid (hp.on hb)
  have HSA := Lib.hid (show S.At wA from hSA)
  have HBX := Lib.hid bx
  have HA := Lib.hid hA
  have h8 := good_row8 hg
  obtain ⟨n', hn', hn8, hm8, -, -, -⟩ := good_n hg
  have hcl := con_length S.f.t
  have CW := Lib.hid (setsWith_any S (x : Int) wA hSA h8 (by omega))
  have CR := Lib.hid fun u (hu : Below wA.heap.size wA u) => setRests_any S p 1 n u (HSA.out.on hu) (HPA.out.on hu) hg hn hP (by omega) (by omega)
  have HL : Hid (withEl S.f.t.con (x : Int) = picks (fun l => l.contains (x : Int)) S.f.t.con S.f.t.con.length) := Lib.hid rfl
  have HM : Hid (∀ y ∈ withEl S.f.t.con (x : Int), ∃ i : Nat, y = i ∧ i < S.f.t.con.length) := Lib.hid fun y hy => by
    rw [HL.out] at hy
    obtain ⟨i, h1, h2, _⟩ := (picks_mem _ _ _ _).1 hy
    exact ⟨i, h1, h2⟩
  have HV : Hid (raiseV S p.l x = if withEl S.f.t.con (x : Int) = [] then 0 else leastR (restS S p.l 1) (withEl S.f.t.con (x : Int))) := Lib.hid rfl
  have HB8 : Hid ((withEl S.f.t.con (x : Int)).length ≤ 8) := Lib.hid (by rw [HL.out]; exact Nat.le_trans (picks_len _ _ _) hm8)
  have HRO := Lib.hid hR
  have HRL : Hid ((restsS S p.l 1).length = S.f.t.con.length) := Lib.hid (restsS_len _ _ _)
  have HRG : Hid (∀ i, (h : i < S.f.t.con.length) → (restsS S p.l 1).getD i 0 = restS S p.l 1 i) := Lib.hid fun i h => by
    rw [List.getD_eq_getElem?_getD, List.getElem?_eq_getElem (by rw [restsS_len]; exact h), Option.getD_some, restsS_get _ _ _ h]
  have HM8 := Lib.hid hm8
  have x0 := bx.c0
  have x1 := bx.c1
  have x2 := bx.c2
  rw [hA] at x0 x1 x2
  clear hS hp hg hn hP hR hA bx hSA h8 hn' hn8 hm8 hcl hszA
  go_enter Try.func69, Try.ntmps69
  go_wp2_with fail
  rw [← HA.out]
  refine (show Calls _ _ _ _ _ from CW.out).mono ?_
  rintro e W1 ⟨t, rfl, htl, hto, hti, hb1⟩
  have hbw1 := hb.trans (hb1.mono hb.size)
  have HB1 := Lib.hid hb1
  have HTI := Lib.hid hti
  have HTL := Lib.hid htl
  have htn : t.l.length ≤ 8 := by rw [htl]; exact HB8.out
  have htni : (t.l.length : Int) ≤ 8 := by omega
  clear htl hto hti hb1 x0 x1 x2
  by_cases h0 : t.l = []
  · have heq : ((t.l.length : Int) == 0) = true := by rw [h0]; rfl
    have HE : Hid (raiseV S p.l x = 0) := Lib.hid (by rw [HV.out, ← HTL.out, if_pos h0])
    clear h0
    go_wp2
    go_ret
    exact ⟨by rw [HE.out]; rfl, hbw1⟩
  · have heq : ((t.l.length : Int) == 0) = false := by have := List.length_pos_iff.2 h0; simp; omega
    have HE : Hid (raiseV S p.l x = leastR (restS S p.l 1) t.l) := Lib.hid (by rw [HV.out, ← HTL.out, if_neg h0])
    have bx1 := HBX.out.on HB1.out
    have y0 := bx1.c0
    have y1 := bx1.c1
    have y2 := bx1.c2
    have CR1 := Lib.hid (CR.out W1 HB1.out)
    clear h0 bx1
    go_wp2_with fail
    refine (show Calls _ _ _ _ _ from CR1.out).mono ?_
    rintro e W2 ⟨u, rfl, hul, -, hui, hb2⟩
    have HUL := Lib.hid hul
    have HUI := Lib.hid hui.at
    have HTI2 := Lib.hid (HTI.out.at.on hb2)
    have hun : u.l.length = S.f.t.con.length := by rw [hul, HRL.out]
    have HUN := Lib.hid hun
    have huni : (u.l.length : Int) ≤ 8 := by have := HM8.out; omega
    have HBW := Lib.hid (hbw1.trans (hb2.mono hbw1.size))
    have HLB : Hid (∀ j, 0 ≤ leastR (restS S p.l 1) (t.l.take j) ∧ leastR (restS S p.l 1) (t.l.take j) ≤ 99) := Lib.hid fun j => by
      have key : ∀ L : List Int, (∀ y ∈ L, ∃ i : Nat, y = i ∧ i < S.f.t.con.length) → ∀ a : Int, 0 ≤ a → a ≤ 99 → 0 ≤ L.foldl (fun a i => min a (restS S p.l 1 i.toNat)) a ∧ L.foldl (fun a i => min a (restS S p.l 1 i.toNat)) a ≤ 99 := by
        intro L
        induction L with
        | nil => intro _ a h1 h2; exact ⟨h1, h2⟩
        | cons y r ih =>
          intro h a h1 h2
          obtain ⟨i, h3, h4⟩ := h y List.mem_cons_self
          have h5 := HRO.out i h4
          rw [List.foldl_cons]
          have h6 : y.toNat = i := by omega
          rw [h6]
          exact ih (fun z hz => h z (List.mem_cons_of_mem _ hz)) _ (by omega) (by omega)
      exact key _ (fun y hy => HM.out y (by rw [← HTL.out]; exact List.mem_of_mem_take hy)) 99 (by omega) (by omega)
    clear hul hui hb2 y0 y1 y2 hun
    go_wp2
    go_loopw [9, 11, 23] (fun rv _ jv wr => ∃ j : Nat, j ≤ t.l.length ∧ jv = .int .i64 j ∧ rv = .int .i64 (leastR (restS S p.l 1) (t.l.take j)) ∧ W2 = wr) (fun _ _ jv _ => t.l.length - (intOf jv).toNat)
    case atStart => exact ⟨0, Nat.zero_le _, rfl, rfl, rfl⟩
    case round =>
      obtain ⟨j, hj, rfl, rfl, rfl⟩ := hrel
      by_cases hlt : j < t.l.length
      · have hlti : (j : Int) < (t.l.length : Int) := by omega
        obtain ⟨b, o, ha, hc⟩ := intAt_cells HTI2.out (Below.refl _ _) hlt
        obtain ⟨i, hi1, hi2⟩ := HM.out t.l[j] (by rw [← HTL.out]; exact List.getElem_mem hlt)
        rw [List.getD_eq_getElem?_getD, List.getElem?_eq_getElem hlt, Option.getD_some, hi1] at hc
        obtain ⟨bu, ou, hua, huc⟩ := intAt_cells HUI.out (Below.refl _ _) (k := i) (by rw [HUN.out]; exact hi2)
        rw [HUL.out, HRG.out i hi2] at huc
        obtain ⟨y, hy⟩ : ∃ y, y = restS S p.l 1 i := ⟨_, rfl⟩
        have hii : (i : Int) < (u.l.length : Int) := by have := HUN.out; omega
        have hst : leastR (restS S p.l 1) (t.l.take (j + 1)) = min (leastR (restS S p.l 1) (t.l.take j)) y := by
          rw [List.take_succ_eq_append_getElem hlt, hi1, leastR_snoc, hy]
        obtain ⟨q, hq⟩ : ∃ q, q = leastR (restS S p.l 1) (t.l.take j) := ⟨_, rfl⟩
        have hqb := HLB.out j
        rw [← hy] at huc
        rw [← hq] at hst hqb ⊢
        have HST := Lib.hid hst
        rw [ha, hua]
        clear hy hq hst hi1 ha hua
        go_wp2
        go_roundw
        case rel => exact ⟨j + 1, by omega, by go_num, by rw [HST.out]; first | done | rfl | go_num, by first | rfl | trivial⟩
        case measure => simp [intOf]; omega
      · obtain rfl : j = t.l.length := by omega
        rw [List.take_length, ← HE.out]
        go_wp2
        go_ret
        exact ⟨rfl, HBW.out⟩


def raisedS (S : Sys) : List Int := if S.good then pricesK S S.n.toNat S.n.toNat else []
def paidS (S : Sys) : List Int := if S.good then places (fun r => decide (r = 0)) (restsS S (pricesK S S.n.toNat S.n.toNat) 1) S.f.t.con.length else []
theorem raisedS_like {S U : Sys} (hl : U.Like S) : raisedS U = raisedS S := by unfold raisedS; rw [hl.good, hl.1, pricesK_like hl]
theorem paidS_like {S U : Sys} (hl : U.Like S) : paidS U = paidS S := by unfold paidS; rw [hl.good, hl.1, pricesK_like hl, restsS_like hl, hl.2.2]
theorem raiseN {S : Sys} {n k : Nat} {p : List Int} (h : RaiseAt S n k p) : PricesN n p := ⟨h.len, fun x hx => by have := h.low x hx; omega⟩

/-- The answer where the System is not valid. -/
theorem two_empty (W : World) : ∃ (s t : Row) (mid : Nat), Value.slice (some ⟨W.heap.size, 0, none⟩) 0 0 = .slice s.a s.l.length s.c ∧ Value.slice (some ⟨W.heap.size + 1, 0, none⟩) 0 0 = .slice t.a t.l.length t.c ∧ s.l = [] ∧ t.l = [] ∧
    s.Own 3 ((W.alloc (.cells #[] 3)).alloc (.cells #[] 3)) ∧ t.Own 3 ((W.alloc (.cells #[] 3)).alloc (.cells #[] 3)) ∧ s.In W.heap.size mid ((W.alloc (.cells #[] 3)).alloc (.cells #[] 3)) ∧ t.In mid ((W.alloc (.cells #[] 3)).alloc (.cells #[] 3)).heap.size ((W.alloc (.cells #[] 3)).alloc (.cells #[] 3)) ∧ W.heap.size ≤ mid ∧ mid ≤ ((W.alloc (.cells #[] 3)).alloc (.cells #[] 3)).heap.size := by
  refine ⟨⟨some ⟨W.heap.size, 0, none⟩, 0, []⟩, ⟨some ⟨W.heap.size + 1, 0, none⟩, 0, []⟩, W.heap.size + 1, rfl, rfl, rfl, rfl, .inl rfl, .inl rfl, ⟨by simp [iv], Nat.zero_le _, .inl rfl⟩, ⟨by simp [iv], Nat.zero_le _, .inl rfl⟩, by omega, ?_⟩
  rw [size_alloc, size_alloc]; omega

set_option maxRecDepth 16000 in
set_option maxHeartbeats 3000000 in
theorem implRaisePrices_any (S : Sys) (w : World) (hS : S.At w) :
    Calls Try.prog 34 #[.agg #[.int .i64 S.n, .slice S.f.t.a S.f.t.R.length S.f.t.c, .slice S.f.o.a S.f.o.l.length S.f.o.c]] w (PInts2 (raisedS S) (paidS S) S.good w) := by
  obtain ⟨i0, hi, hz0, hz1, hz2⟩ := info_parts infoInt
  obtain ⟨wA, hA, hb, bx, hSA, hszA⟩ := laid_sys S w 28 hS
  have x0 := bx.c0
  have x1 := bx.c1
  have x2 := bx.c2
  rw [hA] at x0 x1 x2
  have HSA := Lib.hid (show S.At wA from hSA)
  have HBX := Lib.hid bx
  have HA := Lib.hid hA
  obtain ⟨v, hv⟩ : ∃ v, v = S.good := ⟨_, rfl⟩
  have CG := implIsSystem_any S wA hSA
  rw [← hv] at CG ⊢
  have CG1 := Lib.hid CG
  have HV := Lib.hid hv
  clear hS bx hSA hA hv CG
  unfold PInts2
  go_enter Try.func34, Try.ntmps34
  go_wp2_with fail
  rw [← HA.out]
  refine (show Calls _ _ _ _ _ from CG1.out).mono ?_
  rintro e W1 ⟨rfl, hb1⟩
  have hbw := hb.trans (hb1.mono hb.size)
  have hs1 := hbw.size
  have HB1 := Lib.hid hb1
  clear x0 x1 x2 hb1
  cases v with
  | false =>
    obtain ⟨s, t, mid, e1, e2, h1, h2, h3, h4, h5, h6, h7, h8⟩ := two_empty W1
    have HE : Hid (raisedS S = [] ∧ paidS S = []) := Lib.hid ⟨by unfold raisedS; rw [← HV.out]; rfl, by unfold paidS; rw [← HV.out]; rfl⟩
    have H1 := Lib.hid e1
    have H2 := Lib.hid e2
    have H3 := Lib.hid (And.intro h1 h2)
    have hbb := Lib.hid (hbw.trans (((below_alloc W1 (.cells #[] 3)).trans ((below_alloc _ (.cells #[] 3)).mono (by rw [size_alloc]; omega))).mono hs1))
    clear e1 e2 h1 h2
    go_wp2
    go_ret3
    exact ⟨s, t, mid, by rw [← H1.out, ← H2.out]; rfl, by rw [H3.out.1, HE.out.1], by rw [H3.out.2, HE.out.2], h3, h4, h5.wide (by omega) (Nat.le_refl _), h6, by omega, h8, hbb.out⟩
  | true =>
    obtain ⟨n, hn, hn8, hm8, -, -, -⟩ := good_n HV.out.symm
    have hcl := con_length S.f.t
    have HNN := Lib.hid hn
    have hni : (n : Int) ≤ 8 := by omega
    have HRA := Lib.hid fun k (hk : k ≤ n) => raise_at HV.out.symm hn k hk
    have HE : Hid (raisedS S = pricesK S n n ∧ paidS S = places (fun r => decide (r = 0)) (restsS S (pricesK S n n) 1) S.f.t.con.length) := Lib.hid (by
      have hnn : S.n.toNat = n := by omega
      unfold raisedS paidS
      rw [← HV.out, hnn]
      exact ⟨rfl, rfl⟩)
    have CF := Lib.hid fun (p : Row) (k : Nat) (hk : k ≤ n) (hpl : p.l = pricesK S n k) (u : World) (hu : Below wA.heap.size wA u) (hp : p.At u) => (by
      have := raiseFor_any S p k n u (HSA.out.on hu) hp HV.out.symm hn (by rw [hpl]; exact raiseN (HRA.out k hk)) (by rw [hpl]; exact (HRA.out k hk).rest)
      rw [hpl] at this
      exact this : Calls Try.prog 69 #[.agg #[.int .i64 S.n, .slice S.f.t.a S.f.t.R.length S.f.t.c, .slice S.f.o.a S.f.o.l.length S.f.o.c], .slice p.a (pricesK S n k).length p.c, .int .i64 (k : Int)] u fun e w' => e = .returned (.int .i64 (raiseV S (pricesK S n k) k)) ∧ Below u.heap.size u w')
    have CS := Lib.hid fun (p : Row) (hpl : p.l = pricesK S n n) (u : World) (hu : Below wA.heap.size wA u) (hp : p.At u) => (by
      have := setRests_any S p 1 n u (HSA.out.on hu) hp HV.out.symm hn (by rw [hpl]; exact raiseN (HRA.out n (Nat.le_refl _))) (by omega) (by omega)
      rw [hpl] at this; exact this : Calls Try.prog 66 #[.agg #[.int .i64 S.n, .slice S.f.t.a S.f.t.R.length S.f.t.c, .slice S.f.o.a S.f.o.l.length S.f.o.c], .slice p.a (pricesK S n n).length p.c, .int .i64 1] u fun e w' => ∃ t : Row, e = .returned (.slice t.a t.l.length t.c) ∧ t.l = restsS S (pricesK S n n) 1 ∧ t.Own 3 w' ∧ t.In u.heap.size w'.heap.size w' ∧ Below u.heap.size u w')
    have HLEN : Hid (∀ k, (pricesK S n k).length = n) := Lib.hid (pricesK_len S n)
    have HM8 : Hid (S.f.t.con.length ≤ 8) := Lib.hid hm8
    have HRL : Hid ((restsS S (pricesK S n n) 1).length = S.f.t.con.length) := Lib.hid (restsS_len _ _ _)
    have bx1 := HBX.out.on HB1.out
    have y0 := bx1.c0
    rw [hn] at y0
    clear hn hm8 hcl bx1
    go_wp2_with (at_make; refine wpList_make_full _ rfl _ _ 23 rfl W1.heap.size 3 i0 (.int .i64 0) 1 Try.underlying23 hi hz0 hz1 .i64 .i64 _ _ n rfl rfl rfl rfl (by rw [hz2]; omega) (by unfold maxLen; omega) (Nat.le_refl _) ?_; intro w1 hown1 hgrow1)
    have hrow : w1.ownsRow W1.heap.size 3 1 (.slice (some ⟨W1.heap.size, 0, none⟩) n n) n (iv (pricesK S n 0)) := by
      rw [Nat.mul_one] at hown1
      have h2 : iv (pricesK S n 0) = List.replicate n (Value.int .i64 0) := by unfold pricesK iv; simp
      rw [h2, ← made_row]; exact hown1
    have hbm : Below W1.heap.size W1 w1 := (Below.refl _ _).grown hgrow1 (Nat.le_refl _) (fun k h => by cases h)
    have HR0 := Lib.hid hrow
    have HM0 := Lib.hid hbm
    clear hown1 hgrow1 hrow hbm y0
    go_wp2
    go_loopw [6, 18] (fun _ iv_ wr => ∃ k : Nat, k ≤ n ∧ iv_ = .int .i64 k ∧ wr.ownsRow W1.heap.size 3 1 (.slice (some ⟨W1.heap.size, 0, none⟩) n n) n (iv (pricesK S n k)) ∧ Below W1.heap.size W1 wr) (fun _ iv_ _ => n - (intOf iv_).toNat)
    case atStart => exact ⟨0, Nat.zero_le _, rfl, HR0.out, HM0.out⟩
    case round =>
      obtain ⟨k, hk, rfl, hown, hnx⟩ := hrel
      have HNX := Lib.hid hnx
      have HOW := Lib.hid hown
      have hszr := hnx.size
      have HBA : Hid (Below wA.heap.size wA wr) := Lib.hid (HB1.out.trans (hnx.mono HB1.out.size))
      have hrat : Row.At wr ⟨some ⟨W1.heap.size, 0, none⟩, n, pricesK S n k⟩ := row_of_owns hown
      have bxr := HBX.out.on HBA.out
      have y0 := bxr.c0
      have y1 := bxr.c1
      have y2 := bxr.c2
      by_cases hlt : k < n
      · have hlti : (k : Int) < (n : Int) := by omega
        have CC := Lib.hid (by
          have := CF.out ⟨some ⟨W1.heap.size, 0, none⟩, n, pricesK S n k⟩ k hk rfl wr HBA.out hrat
          rw [HLEN.out k] at this; exact this)
        obtain ⟨q, hq⟩ : ∃ q, q = raiseV S (pricesK S n k) k := ⟨_, rfl⟩
        have HST : Hid (pricesK S n (k + 1) = (pricesK S n k).set k q) := Lib.hid (by rw [hq]; rfl)
        rw [← hq] at CC
        clear hq hrat hown hnx bxr
        go_wp2_with fail
        refine (show Calls _ _ _ _ _ from CC.out).mono ?_
        rintro e W2 ⟨rfl, hb2⟩
        have hown2 := owns_below HOW.out hb2
        have hst := (hown2.stored k (.int .i64 q)).1
        have hf := hown2.frozenAt k
        have hu : ∃ u, W2.cell? ⟨W1.heap.size, k, none⟩ = some u := ⟨_, (hown2.cellAt k (by omega)).trans (List.getElem?_eq_getElem (by rw [iv_length, HLEN.out k]; exact hlt))⟩
        obtain ⟨u, hu⟩ := hu
        have hiv : (iv (pricesK S n k)).set k (.int .i64 q) = iv (pricesK S n (k + 1)) := by
          rw [HST.out]; unfold iv; rw [List.map_set]
        rw [hiv] at hst
        have R1 := Lib.hid hst
        have R2 := Lib.hid ((HNX.out.trans (hb2.mono hszr)).setCell (p := ⟨W1.heap.size, k, none⟩) (Nat.le_refl _) (.int .i64 q))
        clear hown2 hst hiv hb2 y0 y1 y2
        go_wp2
        go_roundw
        case rel => exact ⟨k + 1, by omega, by go_num, R1.out, R2.out⟩
        case measure => simp [intOf]; omega
      · obtain rfl : k = n := by omega
        have CC := Lib.hid (by
          have := CS.out ⟨some ⟨W1.heap.size, 0, none⟩, k, pricesK S k k⟩ rfl wr HBA.out hrat
          rw [HLEN.out k] at this; exact this)
        clear hrat hown hnx bxr
        go_wp2_with fail
        refine (show Calls _ _ _ _ _ from CC.out).mono ?_
        rintro e W2 ⟨u, rfl, hul, -, hui, hb2⟩
        have HUL := Lib.hid hul
        have CP := Lib.hid (placesWhere_paid u (fun r => decide (r = 0)) W2 hui.at (by rw [hul, HRL.out]; have := HM8.out; omega) (fun x _ u2 _ => paid1_any x u2))
        have HB2 := Lib.hid hb2
        have hs2 := hb2.size
        clear hul hui hb2 y0 y1 y2
        go_wp2_with fail
        refine (show Calls _ _ _ _ _ from CP.out).mono ?_
        rintro e W3 ⟨t, rfl, htl, hto, hti, hb3⟩
        have HTL := Lib.hid htl
        have hown3 := owns_below (owns_below HOW.out HB2.out) hb3
        have hs3 := hb3.size
        have HBF := Lib.hid (hbw.trans ((HNX.out.trans (HB2.out.mono hszr)).trans (hb3.mono (by omega)) |>.mono hs1))
        obtain ⟨s, hs, hsl, hso, hsi⟩ := rowN_of_own (HLEN.out k).symm hown3
        have HS := Lib.hid hs
        have HSL := Lib.hid hsl
        have hblk : W1.heap.size < wr.heap.size := (owns_lt HOW.out).1
        have hsi2 : s.In w.heap.size wr.heap.size W3 := by
          obtain ⟨q1, q2, q3⟩ := hsi
          refine ⟨q1, q2, ?_⟩
          rcases q3 with q3 | ⟨b, o, e, hlo, _, hb, hc⟩
          · exact .inl q3
          · have hsa := HS.out
            simp only [Value.slice.injEq] at hsa
            rw [← hsa.1] at e
            simp only [Option.some.injEq, Addr.mk.injEq] at e
            exact .inr ⟨b, o, by rw [← hsa.1, e.1, e.2.1], by omega, by omega, hb, hc⟩
        clear htl hown3 hb3 hs hsl hsi
        go_wp2
        go_ret3
        exact ⟨s, t, wr.heap.size, by rw [← HS.out]; rfl, by rw [HSL.out, HE.out.1], by rw [HTL.out, HUL.out, HE.out.2, HRL.out], hso, hto, hsi2, hti.wide (by omega) (Nat.le_refl _), by omega, by omega, HBF.out⟩

end Go.Proofs.Ytffjlecibpmgiaa
