/- Both sides of PriceGap answer alike. Condition: Field, prices and set read as such. -/
import Derived.Test.YtgapoeliijnmaaaPairAreFair
import Derived.Test.YtgapoeliijnmaaaPairTotalOf
import Derived.Test.YtgapoeliijnmaaaSums
namespace Go.Proofs.Ytgapoeliijnmaaa
open Go.RowKit

theorem up_inj : ∀ {S T : List Nat}, up S = up T → S = T
  | [], [], _ => rfl
  | [], _ :: _, h => by simp [up] at h
  | _ :: _, [], h => by simp [up] at h
  | a :: S, b :: T, h => by
    simp only [up, List.map_cons, List.cons.injEq] at h
    rw [up_inj (S := S) (T := T) h.2, show a = b by omega]
theorem rise_short (n : Int) : ∀ (l : List Int) (lo : Int), lo < n → rise n lo l = true → (l.length : Int) ≤ n - 1 - lo
  | [], lo, h, _ => by simp; omega
  | x :: r, lo, _, hr => by
    simp only [rise, Bool.and_eq_true, decide_eq_true_eq] at hr
    have := rise_short n r x hr.1.2 hr.2
    rw [List.length_cons]; omega
theorem set_short {n : Nat} {l : List Int} (h : setB n l = true) : l.length ≤ n := by have := rise_short n l (-1) (by omega) h; omega

/-- What PriceGap answers. -/
def GapIs (F : Fld) (p : List Int) (s : Row) (v : Int) (b : Bool) : Prop :=
  ((fairB F p = false ∨ twoB F s = false) ∧ v = 0 ∧ b = false) ∨ (∃ T, fairB F p = true ∧ Fine F s T ∧ Able F s T ∧ twoB F s = true ∧ v = (lens F.t.con T).sum + (pays F.o.l T).sum - p.sum ∧ b = true)
theorem gap_like {F G : Fld} {p : List Int} {s t : Row} {v : Int} {b : Bool} (h : GapIs F p s v b) (hl : G.Like F) (hs : t.l = s.l) : GapIs G p t v b := by
  rcases h with ⟨h1, h2, h3⟩ | ⟨T, h0, h1, h2, h3, h4, h5⟩
  · exact .inl ⟨by rw [fair_like hl, twoB_like hl hs]; exact h1, h2, h3⟩
  · exact .inr ⟨T, by rw [fair_like hl, h0], fine_like h1 hl hs, able_like h2 hl hs, by rw [twoB_like hl hs, h3], by rw [hl.1, hl.2]; exact h4, h5⟩
theorem gap_some (F : Fld) (p : List Int) (s : Row) (hs : s.l.length ≤ 1048576) : ∃ (v : Int) (b : Bool), GapIs F p s v b := by
  by_cases h0 : fairB F p = true
  · by_cases h : twoB F s = true
    · obtain ⟨T, hf⟩ := fine_of h
      exact ⟨_, _, .inr ⟨T, h0, hf, ⟨hf.good, hf.set, hf.lt, by have := congrArg List.length hf.set; rw [up_length] at this; omega⟩, h, rfl, rfl⟩⟩
    · exact ⟨_, _, .inl ⟨.inr (by simpa using h), rfl, rfl⟩⟩
  · exact ⟨_, _, .inl ⟨.inl (by simpa using h0), rfl, rfl⟩⟩

set_option maxHeartbeats 1000000 in
theorem l3Both_any (F : Fld) (p s : Row) (w : World) (hF : F.At w) (hp : p.At w) (hs : s.At w) :
    Calls Try.prog 19 #[F.val, .slice p.a p.l.length p.c, .slice s.a s.l.length s.c] w fun e w' => e = .returned (.bool (fairB F p.l && twoB F s)) ∧ Below w.heap.size w w' := by
  obtain ⟨wA, hA, hbA, bx, hFA, hszA⟩ := laid_fld F w 29 hF
  have HPA := Lib.hid (hp.on hbA)
  have HSA := Lib.hid (hs.on hbA)
  have HFA := Lib.hid hFA
  have HBX := Lib.hid bx
  have HA := Lib.hid hA
  obtain ⟨f, hf⟩ : ∃ f, f = fairB F p.l := ⟨_, rfl⟩
  obtain ⟨t, ht⟩ : ∃ f, f = twoB F s := ⟨_, rfl⟩
  have CF := Lib.hid (by have := l3Fair_any F p wA HFA.out HPA.out; rw [← hf] at this; exact this : Calls Try.prog 33 #[F.val, .slice p.a p.l.length p.c] wA fun e w' => e = .returned (.bool f) ∧ Below wA.heap.size wA w')
  have CT := Lib.hid (fun u (hu : Below wA.heap.size wA u) => by have := l2Two_any F s u (HFA.out.on hu) (HSA.out.on hu); rw [← ht] at this; exact this : ∀ u, Below wA.heap.size wA u → Calls Try.prog 34 #[F.val, .slice s.a s.l.length s.c] u fun e w' => e = .returned (.bool t) ∧ Below u.heap.size u w')
  rw [← hf, ← ht]
  clear hF hp hs hA hFA bx hf ht
  show Calls _ _ #[.agg #[F.o.val, F.t.val], _, _] w _
  go_enter Try.func19, Try.ntmps19
  go_wp2_with fail
  rw [show w.alloc (Obj.cells #[F.o.val, F.t.val] 29) = wA from HA.out.symm]
  refine (show Calls _ _ _ _ _ from CF.out).mono ?_
  rintro e W1 ⟨rfl, hb1⟩
  have hbw := hbA.trans (hb1.mono hbA.size)
  cases f with
  | false =>
    go_wp2
    go_ret
    exact ⟨rfl, hbw⟩
  | true =>
    have y0 := (HBX.out.on hb1).c0
    have y1 := (HBX.out.on hb1).c1
    have CB := Lib.hid (CT.out W1 hb1)
    go_wp2_with fail
    refine (show Calls _ _ _ _ _ from CB.out).mono ?_
    rintro e W2 ⟨rfl, hb2⟩
    have hbw2 := hbw.trans (hb2.mono hbw.size)
    go_wp2
    go_ret
    exact ⟨by simp, hbw2⟩

end Go.Proofs.Ytgapoeliijnmaaa
