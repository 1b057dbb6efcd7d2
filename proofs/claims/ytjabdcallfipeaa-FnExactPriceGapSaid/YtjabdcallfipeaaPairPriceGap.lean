/- Both sides of PriceGap answer alike. Condition: Field, prices and set read as such. -/
import Derived.Test.YtjabdcallfipeaaPairAreFair
import Derived.Test.YtjabdcallfipeaaPairTotalOf
import Derived.Test.YtjabdcallfipeaaSums
namespace Go.Proofs.Ytjabdcallfipeaa
open Go.RowKit

theorem up_inj : ∀ {S T : List Nat}, up S = up T → S = T
  | [], [], _ => rfl
  | [], _ :: _, h => by simp [up] at h
  | _ :: _, [], h => by simp [up] at h
  | a :: S, b :: T, h => by
    simp only [up, List.map_cons, List.cons.injEq] at h
    rw [up_inj (S := S) (T := T) h.2, show a = b by omega]
theorem rise_short (n : Int) : ∀ (l : List Int) (lo : Int), lo < n → rise n lo l = true → (l.length : Int) ≤ n - 1 - lo
  | [], lo, h, _ => by simp; omega
  | x :: r, lo, _, hr => by
    simp only [rise, Bool.and_eq_true, decide_eq_true_eq] at hr
    have := rise_short n r x hr.1.2 hr.2
    rw [List.length_cons]; omega
theorem set_short {n : Nat} {l : List Int} (h : setB n l = true) : l.length ≤ n := by have := rise_short n l (-1) (by omega) h; omega

/-- What PriceGap answers. -/
def GapIs (F : Fld) (p : List Int) (s : Row) (v : Int) (b : Bool) : Prop :=
  ((fairB F p = false ∨ twoB F s = false) ∧ v = 0 ∧ b = false) ∨ (∃ T, fairB F p = true ∧ Fine F s T ∧ Able F s T ∧ twoB F s = true ∧ v = (lens F.t.con T).sum + (pays F.o.l T).sum - p.sum ∧ b = true)
theorem gap_like {F G : Fld} {p : List Int} {s t : Row} {v : Int} {b : Bool} (h : GapIs F p s v b) (hl : G.Like F) (hs : t.l = s.l) : GapIs G p t v b := by
  rcases h with ⟨h1, h2, h3⟩ | ⟨T, h0, h1, h2, h3, h4, h5⟩
  · exact .inl ⟨by rw [fair_like hl, twoB_like hl hs]; exact h1, h2, h3⟩
  · exact .inr ⟨T, by rw [fair_like hl, h0], fine_like h1 hl hs, able_like h2 hl hs, by rw [twoB_like hl hs, h3], by rw [hl.1, hl.2]; exact h4, h5⟩
theorem gap_some (F : Fld) (p : List Int) (s : Row) (hs : s.l.length ≤ 1048576) : ∃ (v : Int) (b : Bool), GapIs F p s v b := by
  by_cases h0 : fairB F p = true
  · by_cases h : twoB F s = true
    · obtain ⟨T, hf⟩ := fine_of h
      exact ⟨_, _, .inr ⟨T, h0, hf, ⟨hf.good, hf.set, hf.lt, by have := congrArg List.length hf.set; rw [up_length] at this; omega⟩, h, rfl, rfl⟩⟩
    · exact ⟨_, _, .inl ⟨.inr (by simpa using h), rfl, rfl⟩⟩
  · exact ⟨_, _, .inl ⟨.inl (by simpa using h0), rfl, rfl⟩⟩

set_option maxHeartbeats 1000000 in
theorem l3Both_any (F : Fld) (p s : Row) (w : World) (hF : F.At w) (hp : p.At w) (hs : s.At w) :
    Calls Try.prog 44 #[F.val, .slice p.a p.l.length p.c, .slice s.a s.l.length s.c] w fun e w' => e = .returned (.bool (fairB F p.l && twoB F s)) ∧ Below w.heap.size w w' := by
  obtain ⟨wA, hA, hbA, bx, hFA, hszA⟩ := laid_fld F w 29 hF
  have HPA := Lib.hid (hp.on hbA)
  have HSA := Lib.hid (hs.on hbA)
  have HFA := Lib.hid hFA
  have HBX := Lib.hid bx
  have HA := Lib.hid hA
  obtain ⟨f, hf⟩ : ∃ f, f = fairB F p.l := ⟨_, rfl⟩
  obtain ⟨t, ht⟩ : ∃ f, f = twoB F s := ⟨_, rfl⟩
  have CF := Lib.hid (by have := l3Fair_any F p wA HFA.out HPA.out; rw [← hf] at this; exact this : Calls Try.prog 58 #[F.val, .slice p.a p.l.length p.c] wA fun e w' => e = .returned (.bool f) ∧ Below wA.heap.size wA w')
  have CT := Lib.hid (fun u (hu : Below wA.heap.size wA u) => by have := l2Two_any F s u (HFA.out.on hu) (HSA.out.on hu); rw [← ht] at this; exact this : ∀ u, Below wA.heap.size wA u → Calls Try.prog 36 #[F.val, .slice s.a s.l.length s.c] u fun e w' => e = .returned (.bool t) ∧ Below u.heap.size u w')
  rw [← hf, ← ht]
  clear hF hp hs hA hFA bx hf ht
  show Calls _ _ #[.agg #[F.o.val, F.t.val], _, _] w _
  go_enter Try.func44, Try.ntmps44
  go_wp2_with fail
  rw [show w.alloc (Obj.cells #[F.o.val, F.t.val] 29) = wA from HA.out.symm]
  refine (show Calls _ _ _ _ _ from CF.out).mono ?_
  rintro e W1 ⟨rfl, hb1⟩
  have hbw := hbA.trans (hb1.mono hbA.size)
  cases f with
  | false =>
    go_wp2
    go_ret
    exact ⟨rfl, hbw⟩
  | true =>
    have y0 := (HBX.out.on hb1).c0
    have y1 := (HBX.out.on hb1).c1
    have CB := Lib.hid (CT.out W1 hb1)
    go_wp2_with fail
    refine (show Calls _ _ _ _ _ from CB.out).mono ?_
    rintro e W2 ⟨rfl, hb2⟩
    have hbw2 := hbw.trans (hb2.mono hbw.size)
    go_wp2
    go_ret
    exact ⟨by simp, hbw2⟩

set_option maxHeartbeats 1000000 in
theorem specGap_any (F : Fld) (p s : Row) (w : World) (hF : F.At w) (hp : p.At w) (hs : s.At w) (v : Int) (b : Bool) (hv : GapIs F p.l s v b) :
    Calls Try.prog 24 #[F.val, .slice p.a p.l.length p.c, .slice s.a s.l.length s.c] w (PInt v b w) := by
  obtain ⟨wA, hA, hbA, bx, hFA, hszA⟩ := laid_fld F w 29 hF
  have HPA := Lib.hid (hp.on hbA)
  have HSA := Lib.hid (hs.on hbA)
  have HFA := Lib.hid hFA
  have HBX := Lib.hid bx
  have HA := Lib.hid hA
  have CT := Lib.hid (l3Both_any F p s wA hFA HPA.out HSA.out)
  clear hF hp hs hA hFA bx
  show Calls _ _ #[.agg #[F.o.val, F.t.val], _, _] w fun e w' => e = .returned (.tuple #[.int .i64 v, .bool b]) ∧ Below w.heap.size w w'
  go_enter Try.func24, Try.ntmps24
  go_wp2_with fail
  rw [show w.alloc (Obj.cells #[F.o.val, F.t.val] 29) = wA from HA.out.symm]
  refine (show Calls _ _ _ _ _ from CT.out).mono ?_
  rintro e W1 ⟨rfl, hb1⟩
  have hbw := hbA.trans (hb1.mono hbA.size)
  rcases hv with ⟨hv, rfl, rfl⟩ | ⟨T, hfa, hf, ha, htw, hv, rfl⟩
  · rw [show (fairB F p.l && twoB F s) = false by rcases hv with h | h <;> rw [h] <;> simp]
    clear hv
    go_wp2
    go_ret2
    exact ⟨rfl, hbw⟩
  · rw [hfa, htw]
    have hpr := (fair_iff.1 hfa).1
    have hp7 : p.l.length ≤ 7 := by have := good_sizes hpr.good; have := hpr.len; omega
    have hbd := total_bounds hf ha
    have hsb := sum_due hpr.due (by omega)
    obtain ⟨t, ht⟩ : ∃ t, t = (lens F.t.con T).sum + (pays F.o.l T).sum := ⟨_, rfl⟩
    obtain ⟨q, hq⟩ : ∃ q, q = p.l.sum := ⟨_, rfl⟩
    have C1 := Lib.hid (by have := l2Total_any F s T W1 (HFA.out.on hb1) (HSA.out.on hb1) hf ha; rw [← ht] at this; exact this : Calls Try.prog 37 #[F.val, .slice s.a s.l.length s.c] W1 fun e w' => e = .returned (.int .i64 t) ∧ Below W1.heap.size W1 w')
    have C2 := Lib.hid (fun u (hu : Below W1.heap.size W1 u) => by have := l3Sum_any p u ((HPA.out.on hb1).on hu) (due_more hpr.due) (by omega); rw [← hq] at this; exact this : ∀ u, Below W1.heap.size W1 u → Calls Try.prog 45 #[.slice p.a p.l.length p.c] u fun e w' => e = .returned (.int .i64 q) ∧ w' = u)
    rw [← ht, ← hq] at hv
    rw [← hq] at hsb
    have htb : 0 ≤ t ∧ t ≤ 103809717 := by omega
    have w2 : IntKind.i64.wrap (t - q) = t - q := IntWalk.i64_in _ (by omega)
    have e1 : -9223372036854775808 ≤ t - q := by omega
    have e2 : t - q ≤ 9223372036854775807 := by omega
    have y0 := (HBX.out.on hb1).c0
    have y1 := (HBX.out.on hb1).c1
    have HV := Lib.hid hv
    have hsz1 := hbw.size
    clear hfa hf ha htw hpr hp7 hbd hsb ht hq hv htb
    go_wp2_with fail
    refine (show Calls _ _ _ _ _ from C1.out).mono ?_
    rintro e W2 ⟨rfl, hb2⟩
    have C3 := Lib.hid (C2.out W2 hb2)
    have hbw2 := hbw.trans (hb2.mono hsz1)
    clear hb2
    go_wp2_with fail
    refine (show Calls _ _ _ _ _ from C3.out).mono ?_
    rintro e W3 ⟨rfl, rfl⟩
    go_wp2
    go_ret2
    exact ⟨by rw [HV.out]; rfl, hbw2⟩

set_option maxHeartbeats 1000000 in
theorem implGap_any (F : Fld) (p s : Row) (w : World) (hF : F.At w) (hp : p.At w) (hs : s.At w) (v : Int) (b : Bool) (hv : GapIs F p.l s v b) :
    Calls Try.prog 25 #[F.val, .slice p.a p.l.length p.c, .slice s.a s.l.length s.c] w (PInt v b w) := by
  obtain ⟨wA, hA, hbA, bx, hFA, hszA⟩ := laid_fld F w 29 hF
  have HPA := Lib.hid (hp.on hbA)
  have HSA := Lib.hid (hs.on hbA)
  have HFA := Lib.hid hFA
  have HBX := Lib.hid bx
  have HA := Lib.hid hA
  obtain ⟨f, hf⟩ : ∃ f, f = fairB F p.l := ⟨_, rfl⟩
  have CF := Lib.hid (by have := implFair_any F p wA HFA.out HPA.out _ _ ⟨rfl, rfl⟩; rw [← hf] at this; exact this : Calls Try.prog 46 #[F.val, .slice p.a p.l.length p.c] wA (PBool2 f (pricesB F p.l) wA))
  have CT := Lib.hid (fun u (hu : Below wA.heap.size wA u) v b h => implTotal_any F s u (HFA.out.on hu) (HSA.out.on hu) v b h)
  have HFV := Lib.hid hf
  clear hF hp hs hA hFA bx hf
  show Calls _ _ #[.agg #[F.o.val, F.t.val], _, _] w fun e w' => e = .returned (.tuple #[.int .i64 v, .bool b]) ∧ Below w.heap.size w w'
  go_enter Try.func25, Try.ntmps25
  go_wp2_with fail
  rw [show w.alloc (Obj.cells #[F.o.val, F.t.val] 29) = wA from HA.out.symm]
  refine (show Calls _ _ _ _ _ from CF.out).mono ?_
  rintro e W1 ⟨rfl, hb1⟩
  have hbw := hbA.trans (hb1.mono hbA.size)
  have y0 := (HBX.out.on hb1).c0
  have y1 := (HBX.out.on hb1).c1
  by_cases htw : twoB F s = true
  · obtain ⟨T, hfi⟩ := fine_of htw
    by_cases hlen : s.l.length ≤ 1048576
    · have ha : Able F s T := ⟨hfi.good, hfi.set, hfi.lt, by have := congrArg List.length hfi.set; rw [up_length] at this; omega⟩
      have hbd := total_bounds hfi ha
      obtain ⟨t, ht⟩ : ∃ t, t = (lens F.t.con T).sum + (pays F.o.l T).sum := ⟨_, rfl⟩
      have C1 := Lib.hid (CT.out W1 hb1 t true (.inr ⟨T, hfi, ha, htw, ht, rfl⟩))
      have hsz1 := hbw.size
      have HT := Lib.hid ht
      clear CT ht
      go_wp2_with fail
      refine (show Calls _ _ _ _ _ from C1.out).mono ?_
      rintro e W2 ⟨rfl, hb2⟩
      have hbw2 := hbw.trans (hb2.mono hsz1)
      cases f with
      | false =>
        obtain ⟨rfl, rfl⟩ : v = 0 ∧ b = false := by
          rcases hv with ⟨_, h1, h2⟩ | ⟨_, h, _⟩
          · exact ⟨h1, h2⟩
          · rw [← HFV.out] at h; cases h
        clear hbd
        go_wp2
        go_ret2
        exact ⟨rfl, hbw2⟩
      | true =>
        have hpr := (fair_iff.1 HFV.out.symm).1
        have hp7 : p.l.length ≤ 7 := by have := good_sizes hpr.good; have := hpr.len; omega
        have hsb := sum_due hpr.due (by omega)
        obtain ⟨q, hq⟩ : ∃ q, q = p.l.sum := ⟨_, rfl⟩
        have C3 := Lib.hid (by have := sumB_any p W2 ((HPA.out.on hb1).on hb2) (due_more hpr.due) (by omega); rw [← hq] at this; exact this : Calls Try.prog 47 #[.slice p.a p.l.length p.c] W2 fun e w' => e = .returned (.int .i64 q) ∧ w' = W2)
        have HV : Hid (v = t - q ∧ b = true) := Lib.hid (by
          rcases hv with ⟨h | h, _⟩ | ⟨T', _, hfi', _, _, h1, h2⟩
          · rw [← HFV.out] at h; cases h
          · rw [htw] at h; cases h
          · have hT : T' = T := by
              have e := hfi'.set.symm.trans hfi.set
              exact up_inj e
            subst hT
            exact ⟨by rw [h1, HT.out, hq], h2⟩)
        rw [← hq] at hsb
        have htb : 0 ≤ t ∧ t ≤ 103809717 := by have := HT.out; omega
        have w2 : IntKind.i64.wrap (t - q) = t - q := IntWalk.i64_in _ (by omega)
        have e1 : -9223372036854775808 ≤ t - q := by omega
        have e2 : t - q ≤ 9223372036854775807 := by omega
        clear hv htw hfi ha hlen hpr hp7 hbd hsb hq htb
        go_wp2_with fail
        refine (show Calls _ _ _ _ _ from C3.out).mono ?_
        rintro e W3 ⟨rfl, rfl⟩
        go_wp2
        go_ret2
        exact ⟨by rw [HV.out.1, HV.out.2]; rfl, hbw2⟩
    · exfalso
      have := hfi.lt
      have h1 : s.l.length ≤ F.o.l.length := set_short (twoB_iff.1 htw).2.1
      have := good_sizes hfi.good
      omega
  · have htw' : twoB F s = false := by simpa using htw
    obtain ⟨rfl, rfl⟩ : v = 0 ∧ b = false := by
      rcases hv with ⟨_, h1, h2⟩ | ⟨_, _, _, _, h, _⟩
      · exact ⟨h1, h2⟩
      · rw [htw'] at h; cases h
    have C1 := Lib.hid (CT.out W1 hb1 0 false (.inl ⟨htw', rfl, rfl⟩))
    have hsz1 := hbw.size
    clear CT hv htw htw'
    go_wp2_with fail
    refine (show Calls _ _ _ _ _ from C1.out).mono ?_
    rintro e W2 ⟨rfl, hb2⟩
    have hbw2 := hbw.trans (hb2.mono hsz1)
    cases f with
    | false =>
      go_wp2
      go_ret2
      exact ⟨rfl, hbw2⟩
    | true =>
      go_wp2
      go_ret2
      exact ⟨rfl, hbw2⟩

theorem priceGap_pair (F : Fld) (p s : Row) (_ : F.Small) (_ : p.l.length ≤ 1048576) (hs : s.l.length ≤ 1048576) : ∃ (v : Int) (b : Bool),
    (∀ (G : Fld) (q t : Row) (W : World), G.At W → q.At W → t.At W → G.Like F → q.l = p.l → t.l = s.l → Calls Try.prog 24 #[G.val, .slice q.a q.l.length q.c, .slice t.a t.l.length t.c] W (PInt v b W)) ∧
    (∀ (G : Fld) (q t : Row) (W : World), G.At W → q.At W → t.At W → G.Like F → q.l = p.l → t.l = s.l → Calls Try.prog 25 #[G.val, .slice q.a q.l.length q.c, .slice t.a t.l.length t.c] W (PInt v b W)) := by
  obtain ⟨v, b, h⟩ := gap_some F p.l s hs
  exact ⟨v, b, fun G q t W hG hq ht hl hp hs => specGap_any G q t W hG hq ht v b (by rw [hp]; exact gap_like h hl hs), fun G q t W hG hq ht hl hp hs => implGap_any G q t W hG hq ht v b (by rw [hp]; exact gap_like h hl hs)⟩
end Go.Proofs.Ytjabdcallfipeaa
