/- Both sides of PricesMeet answer alike. Condition: Field, prices and set read as such. -/
import Derived.Test.YtahbjhbdgiojeaaMeetsImpl
namespace Go.Proofs.Ytahbjhbdgiojeaa
open Go.RowKit

def Fld.row (F : Fld) (j : Nat) : List Int := F.t.con.getD j []
theorem row_at (F : Fld) {j : Nat} (h : j < F.t.R.length) : F.row j = F.t.R[j].l := by
  unfold Fld.row
  rw [List.getD_eq_getElem?_getD, List.getElem?_eq_getElem (by rw [con_length]; exact h), Option.getD_some, con_at F.t h]
/-- What is asked of prices that meet a set. -/
def MeetAll (F : Fld) (p : List Int) (T : List Nat) : Prop := (∀ k, (hk : k < T.length) → restAt F p T[k] = 0) ∧ ∀ j, j < F.t.con.length → meetB (F.row j) (p.getD j 0) T = true
/-- What PricesMeet answers. -/
def MeetIs (F : Fld) (p : List Int) (s : Row) (v b : Bool) : Prop :=
  ((fairB F p = false ∨ twoB F s = false) ∧ v = false ∧ b = false) ∨ (∃ T, fairB F p = true ∧ Fine F s T ∧ twoB F s = true ∧ (v = true ↔ MeetAll F p T) ∧ b = true)
theorem meetall_like {F G : Fld} (hl : G.Like F) (p : List Int) (T : List Nat) : MeetAll G p T ↔ MeetAll F p T := by
  unfold MeetAll Fld.row
  rw [hl.2]
  simp only [rest_like hl]
theorem meet_like {F G : Fld} {p : List Int} {s t : Row} {v b : Bool} (h : MeetIs F p s v b) (hl : G.Like F) (hs : t.l = s.l) : MeetIs G p t v b := by
  rcases h with ⟨h1, h2, h3⟩ | ⟨T, h0, h1, h2, h3, h4⟩
  · exact .inl ⟨by rw [fair_like hl, twoB_like hl hs]; exact h1, h2, h3⟩
  · exact .inr ⟨T, by rw [fair_like hl, h0], fine_like h1 hl hs, by rw [twoB_like hl hs, h2], by rw [meetall_like hl]; exact h3, h4⟩
theorem meet_some (F : Fld) (p : List Int) (s : Row) : ∃ v b : Bool, MeetIs F p s v b := by
  by_cases h0 : fairB F p = true
  · by_cases h : twoB F s = true
    · obtain ⟨T, hf⟩ := fine_of h
      exact ⟨@decide (MeetAll F p T) (Classical.propDecidable _), _, .inr ⟨T, h0, hf, h, by simp, rfl⟩⟩
    · exact ⟨_, _, .inl ⟨.inr (by simpa using h), rfl, rfl⟩⟩
  · exact ⟨_, _, .inl ⟨.inl (by simpa using h0), rfl, rfl⟩⟩
theorem fine_few {F : Fld} {s : Row} {T : List Nat} (h : Fine F s T) (htw : twoB F s = true) : T.length ≤ 7 := by
  have h1 := set_short (twoB_iff.1 htw).2.1
  have h2 := good_sizes h.good
  rw [h.set, up_length] at h1
  omega

set_option maxRecDepth 8000 in
set_option maxHeartbeats 2000000 in
theorem specMeet_any (F : Fld) (p s : Row) (w : World) (hF : F.At w) (hp : p.At w) (hs : s.At w) (v b : Bool) (hv : MeetIs F p.l s v b) :
    Calls Try.prog 39 #[F.val, .slice p.a p.l.length p.c, .slice s.a s.l.length s.c] w (PBool2 v b w) := by
  obtain ⟨wA, hA, hbA, bx, hFA, hszA⟩ := laid_fld F w 29 hF
  have HPA := Lib.hid (hp.on hbA)
  have HSA := Lib.hid (hs.on hbA)
  have HFA := Lib.hid hFA
  have HBX := Lib.hid bx
  have HA := Lib.hid hA
  have CT := Lib.hid (l3Both_any F p s wA hFA HPA.out HSA.out)
  clear hF hp hs hA hFA bx
  show Calls _ _ #[.agg #[F.o.val, F.t.val], _, _] w fun e w' => e = .returned (.tuple #[.bool v, .bool b]) ∧ Below w.heap.size w w'
  go_enter Try.func39, Try.ntmps39
  go_wp2_with fail
  rw [show w.alloc (Obj.cells #[F.o.val, F.t.val] 29) = wA from HA.out.symm]
  refine (show Calls _ _ _ _ _ from CT.out).mono ?_
  rintro e W1 ⟨rfl, hb1⟩
  have hbw := hbA.trans (hb1.mono hbA.size)
  rcases hv with ⟨hv, rfl, rfl⟩ | ⟨T, hfa, hf, htw, hv, rfl⟩
  · rw [show (fairB F p.l && twoB F s) = false by rcases hv with h | h <;> rw [h] <;> simp]
    clear hv
    go_wp2
    go_ret2
    exact ⟨rfl, hbw⟩
  rw [hfa, htw]
  have hpr := (fair_iff.1 hfa).1
  have hfew := fine_few hf htw
  have hsz := good_sizes hpr.good
  have hsl : s.l.length = T.length := by rw [hf.set, up_length]
  have hti : (T.length : Int) ≤ 7 := by omega
  have hoi : (F.o.l.length : Int) ≤ 7 := by omega
  have hpl : p.l.length = F.t.R.length := hpr.len
  have hpi : (p.l.length : Int) ≤ 7 := by omega
  have HPR := Lib.hid hpr
  have HFI := Lib.hid hf
  have HVV := Lib.hid hv
  have HBW := Lib.hid hbw
  have hszw := hbw.size
  have HFB := Lib.hid (HFA.out.on hb1)
  have HPB := Lib.hid (HPA.out.on hb1)
  have HSB := Lib.hid (HSA.out.on hb1)
  have HXB := Lib.hid (HBX.out.on hb1)
  have hszb := hb1.size
  obtain ⟨_, _, o3⟩ := HFB.out.1
  rcases o3 with o3 | ⟨bo, oo, hoa, hob, hoc⟩
  · have o3' := congrArg List.length (iv_nil o3); rw [List.length_nil] at o3'; omega
  have HOC := Lib.hid hoc
  have HOA := Lib.hid hoa
  obtain ⟨_, _, s3⟩ := HSB.out
  rcases s3 with s3 | ⟨bs, os, hsa, hsb, hsc⟩
  · have s3' := congrArg List.length (iv_nil s3); rw [List.length_nil, hsl] at s3'; have := hf.some; omega
  have HSC := Lib.hid (fun k (hk : k < T.length) => (hsc k _ (iv_at (by rw [hsl]; exact hk))).trans (by
    have e : ∀ h', s.l[k]'h' = (T[k] : Int) := fun h' => by
      have := up_at (T := T) hk
      rw [← this]; congr 1; exact hf.set
    rw [e]) : ∀ k (hk : k < T.length), W1.cell? ⟨bs, os + k, none⟩ = some (.int .i64 (T[k] : Int)))
  rw [hsl, hsa]
  have HSL := Lib.hid hsl
  have HSE := Lib.hid hsa
  have HPL := Lib.hid hpl
  have HOB : Hid (∀ a, 0 ≤ F.o.l.getD a 0 ∧ F.o.l.getD a 0 ≤ 99) := Lib.hid fun a => getD_bound (good_open hpr.good) a
  clear hfa htw hv hpr hf hfew hsz hsl hoa hoc hsa hsc hbw hb1 CT HFA HPA HSA HBX hpl
  go_wp2
  go_loopw [8] (fun i wr => ∃ k : Nat, k ≤ T.length ∧ i = .int .i64 k ∧ Below W1.heap.size W1 wr ∧ ∀ j, (hj : j < T.length) → j < k → restAt F p.l T[j] = 0) (fun i _ => T.length - (intOf i).toNat)
  case atStart => exact ⟨0, Nat.zero_le _, rfl, Below.refl _ _, fun _ _ h => absurd h (Nat.not_lt_zero _)⟩
  case round =>
    obtain ⟨k, hk, rfl, hnx, hall⟩ := hrel
    have HALL := Lib.hid hall
    clear hall
    by_cases hlt : k < T.length
    · have hlti : (k : Int) < (T.length : Int) := by omega
      obtain ⟨m, hm⟩ : ∃ m, m = T[k] := ⟨_, rfl⟩
      have hmb : m < F.o.l.length := HFI.out.lt m (by rw [hm]; exact List.getElem_mem hlt)
      have hmi : (m : Int) < (F.o.l.length : Int) := by omega
      obtain ⟨x, hx⟩ : ∃ x, x = F.o.l.getD m 0 := ⟨_, rfl⟩
      obtain ⟨c, hc⟩ : ∃ v, v = clmTo F 1 p.l m p.l.length := ⟨_, rfl⟩
      have HMK : Hid (m = T[k]) := Lib.hid hm
      have HRE : Hid (restAt F p.l m = x - c) := Lib.hid (by unfold restAt; rw [hx, hc])
      have HCX := Lib.hid (fun u (hu : Below W1.heap.size W1 u) => (hu.cell (p := ⟨bo, oo + m, none⟩) hob).trans (by rw [hx, getD_at hmb]; exact HOC.out m _ (iv_at hmb)) : ∀ u, Below W1.heap.size W1 u → u.cell? ⟨bo, oo + m, none⟩ = some (.int .i64 x))
      have HCM := Lib.hid (fun u (hu : Below W1.heap.size W1 u) => (hu.cell (p := ⟨bs, os + k, none⟩) hsb).trans (by rw [hm]; exact HSC.out k hlt) : ∀ u, Below W1.heap.size W1 u → u.cell? ⟨bs, os + k, none⟩ = some (.int .i64 (m : Int)))
      have CC := Lib.hid (fun u (hu : Below W1.heap.size W1 u) => by
        have := l3Claim_any F p m 1 u (HFB.out.on hu) (HPB.out.on hu) HPR.out.good (due_more HPR.out.due) HPR.out.len hmb (by omega) (by omega)
        rw [← hc] at this; rw [← HOA.out]; exact this : ∀ u, Below W1.heap.size W1 u → Calls Try.prog 70 #[.agg #[.slice (some ⟨bo, oo, none⟩) F.o.l.length F.o.c, F.t.val], .slice p.a p.l.length p.c, .int .i64 m, .int .i64 1] u fun e w' => e = .returned (.int .i64 c) ∧ Below u.heap.size u w')
      have HS : Hid (∀ u, Below W1.heap.size W1 u → ((u.cell? ⟨w.heap.size, 0, none⟩ = some (.slice (some ⟨bo, oo, none⟩) F.o.l.length F.o.c) ∧ u.cell? ⟨w.heap.size, 1, none⟩ = some F.t.val ∧ u.cell? ⟨bo, oo + m, none⟩ = some (.int .i64 x) ∧ u.cell? ⟨bs, os + k, none⟩ = some (.int .i64 (m : Int))) ∧ Below W1.heap.size W1 u)) := Lib.hid fun u hu => ⟨⟨by rw [← HOA.out]; exact (HXB.out.on hu).c0, (HXB.out.on hu).c1, HCX.out u hu, HCM.out u hu⟩, hu⟩
      have s0 := HS.out wr.drew hnx.drew
      have hN : Below W1.heap.size W1 wr := hnx
      clear hx hc hm hnx
      go_wp2_with fail
      go_region_held3 (fun u => ((u.cell? ⟨w.heap.size, 0, none⟩ = some (.slice (some ⟨bo, oo, none⟩) F.o.l.length F.o.c) ∧ u.cell? ⟨w.heap.size, 1, none⟩ = some F.t.val ∧ u.cell? ⟨bo, oo + m, none⟩ = some (.int .i64 x) ∧ u.cell? ⟨bs, os + k, none⟩ = some (.int .i64 (m : Int))) ∧ Below W1.heap.size W1 u)) (first | exact s0 | exact keep_reg HS.out (by first | assumption | exact And.right (by assumption)) hb1) ((go_at_call 70; refine (show Calls _ _ _ _ _ from CC.out _ (by first | assumption | exact And.right (by assumption))).mono ?_; rintro e u1 ⟨rfl, hb1⟩))
      refine at_exit (W := W1) (by first | assumption | exact And.right (by assumption)) ?_
      intro W8 hb8
      by_cases hxc : c = x
      · have hne : (c != x) = false := by simp [hxc]
        have HST : Hid (∀ j, (hj : j < T.length) → j < k + 1 → restAt F p.l T[j] = 0) := Lib.hid fun j hj hjk => by
          by_cases e : j = k
          · subst e; rw [← HMK.out, HRE.out]; omega
          · exact HALL.out j hj (by omega)
        clear hxc s0 hN
        go_wp2
        go_roundw
        case rel => exact ⟨k + 1, by omega, by go_num, hb8, HST.out⟩
        case measure => simp [intOf]; omega
      · have hne : (c != x) = true := by simp [hxc]
        have HVF : Hid (v = false) := Lib.hid (by
          rw [Bool.eq_false_iff]; intro h
          have := (HVV.out.1 h).1 k hlt
          rw [← HMK.out, HRE.out] at this; omega)
        clear hxc s0 hN
        go_wp2
        go_ret2
        exact ⟨by rw [HVF.out]; rfl, HBW.out.trans (hb8.mono hszw)⟩
    · obtain rfl : k = T.length := by omega
      have HREST := Lib.hid (fun j hj => HALL.out j hj hj : ∀ j, (hj : j < T.length) → restAt F p.l T[j] = 0)
      have HNX := Lib.hid hnx
      have hszr := hnx.size
      clear HALL hnx
      go_wp2
      go_loopw [9] (fun i wr2 => ∃ k : Nat, k ≤ p.l.length ∧ i = .int .i64 k ∧ Below W1.heap.size W1 wr2 ∧ ∀ j, j < k → meetB (F.row j) (p.l.getD j 0) T = true) (fun i _ => p.l.length - (intOf i).toNat)
      case atStart => exact ⟨0, Nat.zero_le _, rfl, HNX.out, fun _ h => absurd h (Nat.not_lt_zero _)⟩
      case round =>
        obtain ⟨k, hk2, rfl, hnx, hall⟩ := hrel
        have HALL := Lib.hid hall
        clear hall
        by_cases hltk : k < p.l.length
        · have hltki : (k : Int) < (p.l.length : Int) := by omega
          have hkR : k < F.t.R.length := by rw [← HPL.out]; exact hltk
          obtain ⟨x, hx⟩ : ∃ x, x = p.l.getD k 0 := ⟨_, rfl⟩
          obtain ⟨_, _, p3⟩ := HPB.out
          rcases p3 with p3 | ⟨bp, op, hpa, hpb, hpc⟩
          · have p3' := congrArg List.length (iv_nil p3); rw [List.length_nil] at p3'; omega
          have HCX := Lib.hid (fun u (hu : Below W1.heap.size W1 u) => (hu.cell (p := ⟨bp, op + k, none⟩) hpb).trans (by rw [hx, getD_at hltk]; exact hpc k _ (iv_at hltk)) : ∀ u, Below W1.heap.size W1 u → u.cell? ⟨bp, op + k, none⟩ = some (.int .i64 x))
          obtain ⟨g, hg⟩ : ∃ g, g = meetB (F.row k) x T := ⟨_, rfl⟩
          have HG : Hid (meetB (F.row k) (p.l.getD k 0) T = g) := Lib.hid (by rw [hg, hx])
          have CC := Lib.hid (fun u (hu : Below W1.heap.size W1 u) => by
            have := l3Meets_any F s T x k u (HFB.out.on hu) (HSB.out.on hu) HFI.out (by omega) hkR
            rw [← row_at F hkR, ← hg, HSL.out, HSE.out] at this; exact this : ∀ u, Below W1.heap.size W1 u → Calls Try.prog 71 #[F.val, .int .i64 x, .int .i64 k, .slice (some ⟨bs, os, none⟩) T.length s.c] u fun e w' => e = .returned (.bool g) ∧ Below u.heap.size u w')
          have HS : Hid (∀ u, Below W1.heap.size W1 u → ((u.cell? ⟨w.heap.size, 0, none⟩ = some F.o.val ∧ u.cell? ⟨w.heap.size, 1, none⟩ = some F.t.val ∧ u.cell? ⟨bp, op + k, none⟩ = some (.int .i64 x)) ∧ Below W1.heap.size W1 u)) := Lib.hid fun u hu => ⟨⟨(HXB.out.on hu).c0, (HXB.out.on hu).c1, HCX.out u hu⟩, hu⟩
          have s0 := HS.out wr.drew hnx.drew
          have hN : Below W1.heap.size W1 wr := hnx
          rw [hpa]
          clear hx hg hnx hpc hpa
          go_wp2_with fail
          go_region_held3 (fun u => ((u.cell? ⟨w.heap.size, 0, none⟩ = some F.o.val ∧ u.cell? ⟨w.heap.size, 1, none⟩ = some F.t.val ∧ u.cell? ⟨bp, op + k, none⟩ = some (.int .i64 x)) ∧ Below W1.heap.size W1 u)) (first | exact s0 | exact keep_reg HS.out (by first | assumption | exact And.right (by assumption)) hb1) ((go_at_call 71; refine (show Calls _ _ _ _ _ from CC.out _ (by first | assumption | exact And.right (by assumption))).mono ?_; rintro e u1 ⟨rfl, hb1⟩))
          refine at_exit (W := W1) (by first | assumption | exact And.right (by assumption)) ?_
          intro W8 hb8
          cases g with
          | true =>
            have HST : Hid (∀ j, j < k + 1 → meetB (F.row j) (p.l.getD j 0) T = true) := Lib.hid fun j hjk => by
              by_cases e : j = k
              · subst e; exact HG.out
              · exact HALL.out j (by omega)
            clear s0 hN
            go_wp2
            go_roundw
            case rel => exact ⟨k + 1, by omega, by go_num, hb8, HST.out⟩
            case measure => simp [intOf]; omega
          | false =>
            have HVF : Hid (v = false) := Lib.hid (by
              rw [Bool.eq_false_iff]; intro h
              have := (HVV.out.1 h).2 k (by rw [con_length]; exact hkR)
              rw [HG.out] at this; cases this)
            clear s0 hN
            go_wp2
            go_ret2
            exact ⟨by rw [HVF.out]; rfl, HBW.out.trans (hb8.mono hszw)⟩
        · obtain rfl : k = p.l.length := by omega
          have HVT : Hid (v = true) := Lib.hid (HVV.out.2 ⟨HREST.out, fun j hj => HALL.out j (by rw [HPL.out]; rw [con_length] at hj; exact hj)⟩)
          go_wp2
          go_ret2
          exact ⟨by rw [HVT.out]; rfl, HBW.out.trans (hnx.mono hszw)⟩

set_option maxRecDepth 8000 in
set_option maxHeartbeats 2000000 in
theorem implMeet_any (F : Fld) (p s : Row) (w : World) (hF : F.At w) (hp : p.At w) (hs : s.At w) (v b : Bool) (hv : MeetIs F p.l s v b) :
    Calls Try.prog 40 #[F.val, .slice p.a p.l.length p.c, .slice s.a s.l.length s.c] w (PBool2 v b w) := by
  obtain ⟨wA, hA, hbA, bx, hFA, hszA⟩ := laid_fld F w 29 hF
  have HPA := Lib.hid (hp.on hbA)
  have HSA := Lib.hid (hs.on hbA)
  have HFA := Lib.hid hFA
  have HBX := Lib.hid bx
  have HA := Lib.hid hA
  have CR := Lib.hid (fun l b h => implRest_any F p wA hFA HPA.out l b h)
  have CT := Lib.hid (fun u (hu : Below wA.heap.size wA u) => canServe_any F s u (HFA.out.on hu) (HSA.out.on hu))
  clear hF hp hs hA hFA bx
  show Calls _ _ #[.agg #[F.o.val, F.t.val], _, _] w fun e w' => e = .returned (.tuple #[.bool v, .bool b]) ∧ Below w.heap.size w w'
  go_enter Try.func40, Try.ntmps40
  go_wp2_with fail
  rw [show w.alloc (Obj.cells #[F.o.val, F.t.val] 29) = wA from HA.out.symm]
  by_cases hfa : fairB F p.l = true
  · have C1 := Lib.hid (CR.out _ _ (.inr ⟨hfa, rfl, rfl⟩))
    refine (show Calls _ _ _ _ _ from C1.out).mono ?_
    rintro e W1 ⟨t, rfl, htl, -, hti, hb1⟩
    have hbw := hbA.trans (hb1.mono hbA.size)
    have hszw := hbw.size
    have y0 := (HBX.out.on hb1).c0
    have y1 := (HBX.out.on hb1).c1
    obtain ⟨q, hq⟩ : ∃ q, q = twoB F s := ⟨_, rfl⟩
    have CS := Lib.hid (by have := CT.out W1 hb1; rw [← hq] at this; exact this : Calls Try.prog 46 #[F.val, .slice s.a s.l.length s.c] W1 fun e w' => e = .returned (.bool q) ∧ Below W1.heap.size W1 w')
    have HTL := Lib.hid htl
    have htn : t.l.length = F.o.l.length := by rw [htl, rests_length]
    have HQ := Lib.hid hq
    rw [htn]
    clear CR CT htl hq
    go_wp2_with fail
    refine (show Calls _ _ _ _ _ from CS.out).mono ?_
    rintro e W2 ⟨rfl, hb2⟩
    have hbw2 := hbw.trans (hb2.mono hbw.size)
    have hb12 := hb1.trans (hb2.mono hb1.size)
    clear y0 y1
    cases q with
    | false =>
      obtain ⟨rfl, rfl⟩ : v = false ∧ b = false := by
        rcases hv with ⟨_, h1, h2⟩ | ⟨_, _, _, h, _⟩
        · exact ⟨h1, h2⟩
        · rw [← HQ.out] at h; cases h
      clear hfa
      go_wp2
      go_ret2
      exact ⟨rfl, hbw2⟩
    | true =>
      obtain ⟨T, hf, hvv, rfl⟩ : ∃ T, Fine F s T ∧ (v = true ↔ MeetAll F p.l T) ∧ b = true := by
        rcases hv with ⟨h | h, _⟩ | ⟨T, _, hf, _, h1, h2⟩
        · rw [hfa] at h; cases h
        · rw [← HQ.out] at h; cases h
        · exact ⟨T, hf, h1, h2⟩
      have hpr := (fair_iff.1 hfa).1
      have HGE := Lib.hid (fair_iff.1 hfa).2
      have hfew := fine_few hf HQ.out.symm
      have hsz := good_sizes hpr.good
      have hsl : s.l.length = T.length := by rw [hf.set, up_length]
      have hti7 : (T.length : Int) ≤ 7 := by omega
      have hoi : (F.o.l.length : Int) ≤ 7 := by omega
      have hRi : (F.t.R.length : Int) ≤ 7 := by omega
      have hpl : p.l.length = F.t.R.length := hpr.len
      have hpi : (p.l.length : Int) ≤ 7 := by omega
      have HFI := Lib.hid hf
      have HVV := Lib.hid hvv
      have HBW := Lib.hid hbw2
      have hsz2 := hbw2.size
      have HFB := Lib.hid (HFA.out.on hb12)
      have HSB := Lib.hid (HSA.out.on hb12)
      have HPB := Lib.hid (HPA.out.on hb12)
      have HXB := Lib.hid (HBX.out.on hb12)
      obtain ⟨_, _, t3⟩ := hti.at.on hb2
      rcases t3 with t3 | ⟨bt, ot, hta, htb, htc⟩
      · have t3' := congrArg List.length (iv_nil t3); rw [List.length_nil, htn] at t3'; omega
      have HTC := Lib.hid (fun m (hm : m < F.o.l.length) => (htc m _ (iv_at (by rw [htn]; exact hm))).trans (by
        rw [show t.l[m]'(by rw [htn]; exact hm) = restAt F p.l m by
          have := rests_at F p.l hm
          rw [← this]; simp only [HTL.out]]) : ∀ m, m < F.o.l.length → W2.cell? ⟨bt, ot + m, none⟩ = some (.int .i64 (restAt F p.l m)))
      obtain ⟨_, _, s3⟩ := HSB.out
      rcases s3 with s3 | ⟨bs, os, hsa, hsb, hsc⟩
      · have s3' := congrArg List.length (iv_nil s3); rw [List.length_nil, hsl] at s3'; have := hf.some; omega
      have HSC := Lib.hid (fun k (hk : k < T.length) => (hsc k _ (iv_at (by rw [hsl]; exact hk))).trans (by
        have e : ∀ h', s.l[k]'h' = (T[k] : Int) := fun h' => by
          have := up_at (T := T) hk
          rw [← this]; congr 1; exact hf.set
        rw [e]) : ∀ k (hk : k < T.length), W2.cell? ⟨bs, os + k, none⟩ = some (.int .i64 (T[k] : Int)))
      rw [hsl, hsa, hta]
      have HSL := Lib.hid hsl
      have HSE := Lib.hid hsa
      have HPL := Lib.hid hpl
      have z1 : W2.cell? ⟨w.heap.size, 1, none⟩ = some (.slice F.t.a F.t.R.length F.t.c) := HXB.out.c1
      have Z1 := Lib.hid z1
      clear hv hvv hfa hpr hf hfew hsz hsl hsa hsc hta htc hbw hb1 hb2 hb12 hbw2 HFA HSA HPA HBX hpl hti htn z1 CS C1
      go_wp2
      go_loopw [11, 30] (fun _ i wr => ∃ k : Nat, k ≤ T.length ∧ i = .int .i64 k ∧ W2 = wr ∧ ∀ j, (hj : j < T.length) → j < k → restAt F p.l T[j] = 0) (fun _ i _ => T.length - (intOf i).toNat)
      case atStart => exact ⟨0, Nat.zero_le _, rfl, rfl, fun _ _ h => absurd h (Nat.not_lt_zero _)⟩
      case round =>
        obtain ⟨k, hk, rfl, rfl, hall⟩ := hrel
        have HALL := Lib.hid hall
        clear hall
        by_cases hlt : k < T.length
        · have hlti : (k : Int) < (T.length : Int) := by omega
          obtain ⟨m, hm⟩ : ∃ m, m = T[k] := ⟨_, rfl⟩
          have hmb : m < F.o.l.length := HFI.out.lt m (by rw [hm]; exact List.getElem_mem hlt)
          have hmi : (m : Int) < (F.o.l.length : Int) := by omega
          obtain ⟨x, hx⟩ : ∃ x, x = restAt F p.l m := ⟨_, rfl⟩
          have hcm : W2.cell? ⟨bs, os + k, none⟩ = some (.int .i64 (m : Int)) := by rw [hm]; exact HSC.out k hlt
          have hcx : W2.cell? ⟨bt, ot + m, none⟩ = some (.int .i64 x) := by rw [hx]; exact HTC.out m hmb
          have hx0 := HGE.out m hmb
          rw [← hx] at hx0
          have HXK : Hid (restAt F p.l T[k] = x) := Lib.hid (by rw [← hm, hx])
          clear hm hx
          by_cases hpos : 0 < x
          · have HVF : Hid (v = false) := Lib.hid (by
              rw [Bool.eq_false_iff]; intro h
              have := (HVV.out.1 h).1 k hlt
              rw [HXK.out] at this; omega)
            go_wp2
            go_ret2
            exact ⟨by rw [HVF.out]; rfl, HBW.out⟩
          · have HST : Hid (∀ j, (hj : j < T.length) → j < k + 1 → restAt F p.l T[j] = 0) := Lib.hid fun j hj hjk => by
              by_cases e : j = k
              · subst e; rw [HXK.out]; omega
              · exact HALL.out j hj (by omega)
            go_wp2
            go_roundw
            case rel => exact ⟨k + 1, by omega, by go_num, by first | rfl | trivial, HST.out⟩
            case measure => simp [intOf]; omega
        · obtain rfl : k = T.length := by omega
          have HREST := Lib.hid (fun j hj => HALL.out j hj hj : ∀ j, (hj : j < T.length) → restAt F p.l T[j] = 0)
          have z1 := Z1.out
          clear HALL
          go_wp2
          clear z1
          go_loopw [12, 13, 43] (fun _ _ i wr2 => ∃ k : Nat, k ≤ F.t.R.length ∧ i = .int .i64 k ∧ Below W2.heap.size W2 wr2 ∧ ∀ j, j < k → meetB (F.row j) (p.l.getD j 0) T = true) (fun _ _ i _ => F.t.R.length - (intOf i).toNat)
          case atStart => exact ⟨0, Nat.zero_le _, rfl, Below.refl _ _, fun _ h => absurd h (Nat.not_lt_zero _)⟩
          case round =>
            obtain ⟨k, hk2, rfl, hnx, hall⟩ := hrel
            have HALL := Lib.hid hall
            clear hall
            by_cases hltk : k < F.t.R.length
            · have hltki : (k : Int) < (F.t.R.length : Int) := by omega
              have hkp : k < p.l.length := by rw [HPL.out]; exact hltk
              have hkpi : (k : Int) < (p.l.length : Int) := by omega
              obtain ⟨x, hx⟩ : ∃ x, x = p.l.getD k 0 := ⟨_, rfl⟩
              obtain ⟨_, _, p3⟩ := HPB.out
              rcases p3 with p3 | ⟨bp, op, hpa, hpb, hpc⟩
              · have p3' := congrArg List.length (iv_nil p3); rw [List.length_nil] at p3'; omega
              have hcx : wr.cell? ⟨bp, op + k, none⟩ = some (.int .i64 x) := (hnx.cell (p := ⟨bp, op + k, none⟩) hpb).trans (by rw [hx, getD_at hkp]; exact hpc k _ (iv_at hkp))
              obtain ⟨_, _, r3⟩ := HFB.out.2.1
              rcases r3 with r3 | ⟨bR, oR, hRa, hRb, hRc⟩
              · have r3' := congrArg List.length r3; rw [tv_length, List.length_nil] at r3'; omega
              obtain ⟨r, hr⟩ : ∃ r, r = F.t.R[k] := ⟨_, rfl⟩
              have hcr : wr.cell? ⟨bR, oR + k, none⟩ = some (.slice r.a r.l.length r.c) := (hnx.cell (p := ⟨bR, oR + k, none⟩) hRb).trans (by rw [hr]; exact hRc k _ (tv_at hltk))
              have hrm : r ∈ F.t.R := by rw [hr]; exact List.getElem_mem hltk
              obtain ⟨g, hg⟩ : ∃ g, g = meetB (F.row k) x T := ⟨_, rfl⟩
              have HG : Hid (meetB (F.row k) (p.l.getD k 0) T = g) := Lib.hid (by rw [hg, hx])
              have CC := Lib.hid (by
                have := priceMeets_any r s T x wr ((HFB.out.2.2 r hrm).on hnx) (HSB.out.on hnx) HFI.out.set HFI.out.some (fun m hm => by rw [(good_row HFI.out.good hrm).1]; exact HFI.out.lt m hm)
                rw [show r.l = F.row k by rw [row_at F hltk, hr], ← hg, ← show r.l = F.row k by rw [row_at F hltk, hr], HSL.out, HSE.out] at this; exact this : Calls Try.prog 73 #[.slice r.a r.l.length r.c, .int .i64 x, .slice (some ⟨bs, os, none⟩) T.length s.c] wr fun e w' => e = .returned (.bool g) ∧ Below wr.heap.size wr w')
              have HN := Lib.hid hnx
              have hszr := hnx.size
              rw [hpa, hRa]
              clear hx hg hnx hpc hpa hRa hRc hr
              go_wp2_with fail
              refine CC.out.mono ?_
              rintro e W8 ⟨rfl, hb8⟩
              have hn8 := HN.out.trans (hb8.mono hszr)
              clear hcx hcr
              cases g with
              | true =>
                have HST : Hid (∀ j, j < k + 1 → meetB (F.row j) (p.l.getD j 0) T = true) := Lib.hid fun j hjk => by
                  by_cases e : j = k
                  · subst e; exact HG.out
                  · exact HALL.out j (by omega)
                go_wp2
                go_roundw
                case rel => exact ⟨k + 1, by omega, by go_num, hn8, HST.out⟩
                case measure => simp [intOf]; omega
              | false =>
                have HVF : Hid (v = false) := Lib.hid (by
                  rw [Bool.eq_false_iff]; intro h
                  have := (HVV.out.1 h).2 k (by rw [con_length]; exact hltk)
                  rw [HG.out] at this; cases this)
                go_wp2
                go_ret2
                exact ⟨by rw [HVF.out]; rfl, HBW.out.trans (hn8.mono hsz2)⟩
            · obtain rfl : k = F.t.R.length := by omega
              have HVT : Hid (v = true) := Lib.hid (HVV.out.2 ⟨HREST.out, fun j hj => HALL.out j (by rw [con_length] at hj; exact hj)⟩)
              go_wp2
              go_ret2
              exact ⟨by rw [HVT.out]; rfl, HBW.out.trans (hnx.mono hsz2)⟩
  · have hfa1 : fairB F p.l = false := by simpa using hfa
    obtain ⟨rfl, rfl⟩ : v = false ∧ b = false := by
      rcases hv with ⟨_, h1, h2⟩ | ⟨_, h, _⟩
      · exact ⟨h1, h2⟩
      · rw [hfa1] at h; cases h
    have C1 := Lib.hid (CR.out _ _ (.inl ⟨hfa1, rfl, rfl⟩))
    clear hv hfa hfa1 CR CT
    refine (show Calls _ _ _ _ _ from C1.out).mono ?_
    rintro e W1 ⟨t, rfl, htl, -, hti, hb1⟩
    have hbw := hbA.trans (hb1.mono hbA.size)
    clear htl hti
    go_wp2
    go_ret2
    exact ⟨rfl, hbw⟩

theorem pricesMeet_pair (F : Fld) (p s : Row) (_ : F.Small) (_ : p.l.length ≤ 1048576) (_ : s.l.length ≤ 1048576) : ∃ (v b : Bool),
    (∀ (G : Fld) (q t : Row) (W : World), G.At W → q.At W → t.At W → G.Like F → q.l = p.l → t.l = s.l → Calls Try.prog 39 #[G.val, .slice q.a q.l.length q.c, .slice t.a t.l.length t.c] W (PBool2 v b W)) ∧
    (∀ (G : Fld) (q t : Row) (W : World), G.At W → q.At W → t.At W → G.Like F → q.l = p.l → t.l = s.l → Calls Try.prog 40 #[G.val, .slice q.a q.l.length q.c, .slice t.a t.l.length t.c] W (PBool2 v b W)) := by
  obtain ⟨v, b, h⟩ := meet_some F p.l s
  exact ⟨v, b, fun G q t W hG hq ht hl hp hs => specMeet_any G q t W hG hq ht v b (by rw [hp]; exact meet_like h hl hs), fun G q t W hG hq ht hl hp hs => implMeet_any G q t W hG hq ht v b (by rw [hp]; exact meet_like h hl hs)⟩
end Go.Proofs.Ytahbjhbdgiojeaa
