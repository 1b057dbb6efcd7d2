/- The contracts of the tests of rooms and needs, on both sides. Condition: Field and lists read as such. -/
import Derived.Test.YtehmjmknegnojaaWithin
import Derived.Test.YtehmjmknegnojaaSets
namespace Go.Proofs.Ytehmjmknegnojaa
open Go.RowKit

/-- Rooms of the sites and needs of the clients. -/
def needsB (F : Fld) (r n : List Int) : Bool := (r.all (upTo 20) && decide (r.length = F.o.l.length)) && (n.all (upTo 5) && decide (n.length = F.t.R.length))
theorem needsB_iff {F : Fld} {r n : List Int} : needsB F r n = true ↔ (∀ x ∈ r, upTo 20 x = true) ∧ r.length = F.o.l.length ∧ (∀ x ∈ n, upTo 5 x = true) ∧ n.length = F.t.R.length := by
  unfold needsB; simp only [Bool.and_eq_true, decide_eq_true_eq, List.all_eq_true, and_assoc]
theorem needsB_like {F G : Fld} {r n : List Int} (h : G.Like F) : needsB G r n = needsB F r n := by
  unfold needsB
  rw [h.1]
  have : G.t.R.length = F.t.R.length := by have := congrArg List.length h.2; unfold Tab.con at this; rwa [List.length_map, List.length_map] at this
  rw [this]
theorem row_lim {s : Row} {w : World} (hs : s.At w) : (s.l.length : Int) ≤ 9223372036854775807 := by obtain ⟨q1, q2, _⟩ := hs; rw [iv_length] at q1; unfold maxLen at q2; omega
theorem tab_lim {T : Tab} {w : World} (hT : T.At w) : (T.R.length : Int) ≤ 9223372036854775807 := by obtain ⟨⟨q1, q2, _⟩, _⟩ := hT; rw [tv_length] at q1; unfold maxLen at q2; omega

set_option maxHeartbeats 600000 in
theorem l7Numbers_any (r : Row) (n : Nat) (m : Int) (w : World) (hr : r.At w) :
    Calls Try.prog 63 #[.slice r.a r.l.length r.c, .int .i64 n, .int .i64 m] w fun e w' => e = .returned (.bool (r.l.all (upTo m) && decide (r.l.length = n))) ∧ w' = w := by
  obtain ⟨a, c, l⟩ := r
  obtain ⟨h1, h2, h3⟩ := hr
  simp only at h1 h2 h3 ⊢
  rw [iv_length] at h1
  unfold maxLen at h2
  have hni : (l.length : Int) ≤ 9223372036854775807 := by omega
  have HR := Lib.hid h3
  clear h3
  have ci := Lib.hid fun x W => l1In_any x 0 m W
  go_enter Try.func63, Try.ntmps63
  go_wp2
  go_loopw [7] (fun i wr => ∃ k : Nat, k ≤ l.length ∧ i = .int .i64 k ∧ w = wr ∧ (l.take k).all (upTo m) = true) (fun i _ => l.length - (intOf i).toNat)
  case atStart => exact ⟨0, Nat.zero_le _, rfl, rfl, by simp⟩
  case round =>
    obtain ⟨k, hk, rfl, rfl, hall⟩ := hrel
    have HALL := Lib.hid hall
    clear hall
    by_cases hlt : k < l.length
    · have hlti : (k : Int) < (l.length : Int) := by omega
      rcases HR.out with h3 | ⟨b, o, rfl, hb, hcell⟩
      · have h3' := congrArg List.length (iv_nil h3); rw [List.length_nil] at h3'; omega
      obtain ⟨x, hx⟩ : ∃ x, x = l[k] := ⟨_, rfl⟩
      have hcl : w.cell? ⟨b, o + k, none⟩ = some (.int .i64 x) := by rw [hx]; exact hcell k _ (iv_at hlt)
      have HX := Lib.hid hx
      clear hx hcell
      by_cases hp : upTo m x = true
      · have hp' : (decide (0 ≤ x) && decide (x ≤ m)) = true := hp
        have ci1 := Lib.hid (fun W => by have := ci.out x W; rw [hp'] at this; exact this : ∀ W, Calls Try.prog 62 #[.int .i64 x, .int .i64 0, .int .i64 m] W fun e w' => e = .returned (.bool true) ∧ w' = W)
        have HS : Hid ((l.take (k + 1)).all (upTo m) = true) := Lib.hid (all_take hlt HALL.out (by rw [← HX.out]; exact hp))
        clear hp hp'
        go_wp2_with fail
        refine (ci1.out _).mono ?_
        rintro e W ⟨rfl, rfl⟩
        go_wp2
        go_roundw
        case rel => exact ⟨k + 1, by omega, by go_num, by first | rfl | trivial, HS.out⟩
        case measure => simp [intOf]; omega
      · have hp1 : upTo m x = false := by simpa using hp
        have hp' : (decide (0 ≤ x) && decide (x ≤ m)) = false := hp1
        have ci1 := Lib.hid (fun W => by have := ci.out x W; rw [hp'] at this; exact this : ∀ W, Calls Try.prog 62 #[.int .i64 x, .int .i64 0, .int .i64 m] W fun e w' => e = .returned (.bool false) ∧ w' = W)
        have HS : Hid (l.all (upTo m) = false) := Lib.hid (all_out hlt (by rw [← HX.out]; exact hp1))
        clear hp hp' hp1
        go_wp2_with fail
        refine (ci1.out _).mono ?_
        rintro e W ⟨rfl, rfl⟩
        go_wp2
        go_ret
        exact ⟨by rw [HS.out]; rfl, rfl⟩
    · obtain rfl : k = l.length := by omega
      have HS := Lib.hid (all_end HALL.out)
      go_wp2
      go_ret
      exact ⟨by rw [HS.out, Bool.true_and, ← nat_eqB]; rfl, rfl⟩

set_option maxHeartbeats 1000000 in
theorem l7Needs_any (F : Fld) (r n : Row) (w : World) (hF : F.At w) (hr : r.At w) (hn : n.At w) :
    Calls Try.prog 40 #[F.val, .slice r.a r.l.length r.c, .slice n.a n.l.length n.c] w fun e w' => e = .returned (.bool (needsB F r.l n.l)) ∧ Below w.heap.size w w' := by
  obtain ⟨wA, hA, hb, bx, hFA, _⟩ := laid_fld F w 29 hF
  have hoi := row_lim hF.1
  have hri := tab_lim hF.2
  have HBX := Lib.hid bx
  have HA := Lib.hid hA
  obtain ⟨u, hu⟩ : ∃ u, u = (r.l.all (upTo 20) && decide (r.l.length = F.o.l.length)) := ⟨_, rfl⟩
  obtain ⟨v, hv⟩ : ∃ v, v = (n.l.all (upTo 5) && decide (n.l.length = F.t.R.length)) := ⟨_, rfl⟩
  have HE : Hid (needsB F r.l n.l = (u && v)) := Lib.hid (by rw [hu, hv]; rfl)
  have c1 := l7Numbers_any r F.o.l.length 20 wA (hr.on hb)
  have c2 := l7Numbers_any n F.t.R.length 5 wA (hn.on hb)
  rw [← hu] at c1
  rw [← hv] at c2
  have C1 := Lib.hid c1
  have C2 := Lib.hid c2
  have x0 : wA.cell? ⟨w.heap.size, 0, none⟩ = some (.slice F.o.a F.o.l.length F.o.c) := bx.c0
  have y1 : wA.cell? ⟨w.heap.size, 1, none⟩ = some (.slice F.t.a F.t.R.length F.t.c) := bx.c1
  rw [hA] at x0
  clear hA bx hFA hF hr hn hu hv c1 c2
  show Calls _ _ #[.agg #[.slice F.o.a F.o.l.length F.o.c, .slice F.t.a F.t.R.length F.t.c], _, _] w _
  change (w.alloc (Obj.cells #[.slice F.o.a F.o.l.length F.o.c, .slice F.t.a F.t.R.length F.t.c] 29)).cell? _ = _ at x0
  go_enter Try.func40, Try.ntmps40
  go_wp2_with fail
  rw [show w.alloc (Obj.cells #[Value.slice F.o.a F.o.l.length F.o.c, Value.slice F.t.a F.t.R.length F.t.c] 29) = wA from HA.out.symm]
  clear x0
  refine C1.out.mono ?_
  rintro e W1 ⟨rfl, rfl⟩
  cases u with
  | false =>
    go_wp2
    go_ret
    exact ⟨by rw [HE.out]; rfl, hb⟩
  | true =>
    go_wp2_with fail
    refine C2.out.mono ?_
    rintro e W2 ⟨rfl, rfl⟩
    go_wp2
    go_ret
    exact ⟨by rw [HE.out, Bool.true_and]; rfl, hb⟩

set_option maxHeartbeats 1000000 in
theorem areRooms_any (F : Fld) (r n : Row) (w : World) (hF : F.At w) (hr : r.At w) (hn : n.At w) :
    Calls Try.prog 42 #[F.val, .slice r.a r.l.length r.c, .slice n.a n.l.length n.c] w fun e w' => e = .returned (.bool (needsB F r.l n.l)) ∧ Below w.heap.size w w' := by
  obtain ⟨wA, hA, hb, bx, hFA, _⟩ := laid_fld F w 29 hF
  have hoi := row_lim hF.1
  have hri := tab_lim hF.2
  have hli := row_lim hr
  have hmi := row_lim hn
  have HBX := Lib.hid bx
  have HA := Lib.hid hA
  have HRA := Lib.hid (hr.on hb)
  have HNA := Lib.hid (hn.on hb)
  obtain ⟨u, hu⟩ : ∃ u, u = r.l.all (upTo 20) := ⟨_, rfl⟩
  obtain ⟨v, hv⟩ : ∃ v, v = n.l.all (upTo 5) := ⟨_, rfl⟩
  have HE : Hid (needsB F r.l n.l = ((u && decide (r.l.length = F.o.l.length)) && (v && decide (n.l.length = F.t.R.length)))) := Lib.hid (by rw [hu, hv]; rfl)
  have C1 := Lib.hid (fun W (h : Below wA.heap.size wA W) => by have := allWithinM_any 20 r W (HRA.out.on h); rw [← hu] at this; exact this : ∀ W, Below wA.heap.size wA W → Calls Try.prog 64 #[.slice r.a r.l.length r.c, .int .i64 20] W fun e w' => e = .returned (.bool u) ∧ Below W.heap.size W w')
  have C2 := Lib.hid (fun W (h : Below wA.heap.size wA W) => by have := allWithinM_any 5 n W (HNA.out.on h); rw [← hv] at this; exact this : ∀ W, Below wA.heap.size wA W → Calls Try.prog 64 #[.slice n.a n.l.length n.c, .int .i64 5] W fun e w' => e = .returned (.bool v) ∧ Below W.heap.size W w')
  have x0 : wA.cell? ⟨w.heap.size, 0, none⟩ = some (.slice F.o.a F.o.l.length F.o.c) := bx.c0
  rw [hA] at x0
  clear hA bx hFA hF hr hn hu hv
  show Calls _ _ #[.agg #[.slice F.o.a F.o.l.length F.o.c, .slice F.t.a F.t.R.length F.t.c], _, _] w _
  change (w.alloc (Obj.cells #[.slice F.o.a F.o.l.length F.o.c, .slice F.t.a F.t.R.length F.t.c] 29)).cell? _ = _ at x0
  by_cases h1 : r.l.length = F.o.l.length
  · have e1 : ((r.l.length : Int) == (F.o.l.length : Int)) = true := by rw [h1]; simp
    have H1 := Lib.hid h1
    clear h1
    go_enter Try.func42, Try.ntmps42
    go_wp2_with fail
    rw [show w.alloc (Obj.cells #[Value.slice F.o.a F.o.l.length F.o.c, Value.slice F.t.a F.t.R.length F.t.c] 29) = wA from HA.out.symm]
    clear x0
    refine (C1.out wA (Below.refl _ _)).mono ?_
    rintro e W1 ⟨rfl, hb1⟩
    have hbw := hb.trans (hb1.mono hb.size)
    cases u with
    | false =>
      go_wp2
      go_ret
      exact ⟨by rw [HE.out]; rfl, hbw⟩
    | true =>
      have y1 : W1.cell? ⟨w.heap.size, 1, none⟩ = some (.slice F.t.a F.t.R.length F.t.c) := (HBX.out.on hb1).c1
      have CN := Lib.hid (C2.out W1 hb1)
      clear hb1
      by_cases h2 : n.l.length = F.t.R.length
      · have e2 : ((n.l.length : Int) == (F.t.R.length : Int)) = true := by rw [h2]; simp
        have H2 := Lib.hid h2
        clear h2
        go_wp2_with fail
        refine CN.out.mono ?_
        rintro e W2 ⟨rfl, hb2⟩
        go_wp2
        go_ret
        exact ⟨by rw [HE.out, decide_eq_true H1.out, decide_eq_true H2.out]; simp, hbw.trans (hb2.mono hbw.size)⟩
      · have e2 : ((n.l.length : Int) == (F.t.R.length : Int)) = false := by rw [beq_eq_false_iff_ne]; omega
        have H2 := Lib.hid h2
        clear h2
        go_wp2
        go_ret
        exact ⟨by rw [HE.out, decide_eq_false H2.out]; simp, hbw⟩
  · have e1 : ((r.l.length : Int) == (F.o.l.length : Int)) = false := by rw [beq_eq_false_iff_ne]; omega
    have H1 := Lib.hid h1
    clear h1
    go_enter Try.func42, Try.ntmps42
    go_wp2
    go_ret
    exact ⟨by rw [HE.out, decide_eq_false H1.out]; simp, below_alloc _ _⟩

end Go.Proofs.Ytehmjmknegnojaa
