/- Whether a site of a list is taken. Condition: the lists read as such. -/
import Derived.Test.YtfgedolngcdjpaaGood
import Derived.Test.YtfgedolngcdjpaaShelf
namespace Go.Proofs.Ytfgedolngcdjpaa
open Go.RowKit Go.Shelf
/-- Whether a site is not taken. -/
def outT (l : List Int) (y : Int) : Bool := !l.contains y

theorem containsI_any (s : Row) (x : Int) (w : World) (hs : s.At w) (hsm : s.l.length ≤ 1048576) :
    Calls Try.prog 37 #[.slice s.a s.l.length s.c, .int .i64 x] w fun e w' => e = .returned (.bool (s.l.contains x)) ∧ w' = w := by
  obtain ⟨a, c, l⟩ := s
  obtain ⟨h1, h2, h3⟩ := hs
  simp only at h1 h2 h3 hsm ⊢
  by_cases h0 : l = []
  · subst h0
    exact Try.slices_Contains_int_empty a c x w
  rcases h3 with h3 | ⟨b, o, rfl, hb, hcell⟩
  · exact absurd (iv_nil h3) h0
  have := Try.slices_Contains_int b o l.length c l x w (Nat.le_refl _) (by omega) (fun j hj => by rw [hcell j _ (iv_at hj), List.getD_eq_getElem?_getD, List.getElem?_eq_getElem hj]; rfl)
  rw [List.take_length] at this; exact this

set_option maxHeartbeats 1000000 in
theorem takenP_any (g : Nat) (t : Row) (y : Int) (w : World) (hg : w.cell? ⟨g, 0, none⟩ = some (.slice t.a t.l.length t.c)) (ht : t.At w) (htm : t.l.length ≤ 1048576) :
    Calls Try.prog 36 #[.int .i64 y, .pointer (some ⟨g, 0, none⟩)] w fun e w' => e = .returned (.bool (!outT t.l y)) ∧ w' = w := by
  have CP := Lib.hid (containsI_any t y w ht htm)
  obtain ⟨v, hv⟩ : ∃ v, v = t.l.contains y := ⟨_, rfl⟩
  rw [← hv] at CP
  unfold outT
  rw [← hv]
  clear hv ht
  go_enter Try.func36, Try.ntmps36
  go_wp2_with fail
  refine (show Calls _ _ _ _ _ from CP.out).mono ?_
  rintro e W ⟨rfl, rfl⟩
  go_wp2
  go_ret
  exact ⟨by simp, rfl⟩

set_option maxHeartbeats 600000 in
theorem indexTaken_any (r t : Row) (g : Nat) (w : World) (hr : r.At w) (hg : w.cell? ⟨g, 0, none⟩ = some (.slice t.a t.l.length t.c)) (ht : t.At w) (htm : t.l.length ≤ 1048576) :
    Calls Try.prog 56 #[.slice r.a r.l.length r.c, .func (.func 36) #[] #[.pointer (some ⟨g, 0, none⟩)]] w fun e w' => (∃ i : Int, e = .returned (.int .i64 i) ∧ decide (0 ≤ i) = !r.l.all (outT t.l)) ∧ w' = w := by
  obtain ⟨a, c, l⟩ := r
  obtain ⟨h1, h2, h3⟩ := hr
  simp only at h1 h2 h3 ⊢
  rw [iv_length] at h1
  unfold maxLen at h2
  have hni : (l.length : Int) ≤ 9223372036854775807 := by omega
  have HR := Lib.hid h3
  have CO := Lib.hid fun x => takenP_any g t x w hg ht htm
  obtain ⟨T, hT⟩ : ∃ T, T = t.l := ⟨_, rfl⟩
  rw [← hT] at CO ⊢
  clear h3 hg ht hT
  show Calls _ _ #[_, .func (.func 36) #[] #[.pointer (some ⟨g, 0, none⟩)]] _ _
  go_enter Try.func56, Try.ntmps56
  go_wp2
  go_loopw [8] (fun i wr => ∃ k : Nat, k ≤ l.length ∧ i = .int .i64 k ∧ w = wr ∧ (l.take k).all (outT T) = true) (fun i _ => l.length - (intOf i).toNat)
  case atStart => exact ⟨0, Nat.zero_le _, rfl, rfl, by simp⟩
  case round =>
    obtain ⟨k, hk, rfl, rfl, hall⟩ := hrel
    have HALL := Lib.hid hall
    clear hall
    by_cases hlt : k < l.length
    · have hlti : (k : Int) < (l.length : Int) := by omega
      rcases HR.out with h3 | ⟨b, o, rfl, hb, hcell⟩
      · have h3' := congrArg List.length (iv_nil h3); rw [List.length_nil] at h3'; omega
      obtain ⟨x, hx⟩ : ∃ x, x = l[k] := ⟨_, rfl⟩
      have hcl : w.cell? ⟨b, o + k, none⟩ = some (.int .i64 x) := by rw [hx]; exact hcell k _ (iv_at hlt)
      have HX := Lib.hid hx
      clear hx hcell
      by_cases hp : outT T x = true
      · have ci1 := Lib.hid (by have := CO.out x; rw [hp] at this; exact this : Calls Try.prog 36 #[.int .i64 x, .pointer (some ⟨g, 0, none⟩)] w fun e w' => e = .returned (.bool false) ∧ w' = w)
        have HS : Hid ((l.take (k + 1)).all (outT T) = true) := Lib.hid (all_take hlt HALL.out (by rw [← HX.out]; exact hp))
        clear hp
        go_wp2_with fail
        refine ci1.out.mono ?_
        rintro e W ⟨rfl, rfl⟩
        go_wp2
        go_roundw
        case rel => exact ⟨k + 1, by omega, by go_num, by first | rfl | trivial, HS.out⟩
        case measure => simp [intOf]; omega
      · have hp1 : outT T x = false := by simpa using hp
        have ci1 := Lib.hid (by have := CO.out x; rw [hp1] at this; exact this : Calls Try.prog 36 #[.int .i64 x, .pointer (some ⟨g, 0, none⟩)] w fun e w' => e = .returned (.bool true) ∧ w' = w)
        have HS : Hid (l.all (outT T) = false) := Lib.hid (all_out hlt (by rw [← HX.out]; exact hp1))
        clear hp hp1
        go_wp2_with fail
        refine ci1.out.mono ?_
        rintro e W ⟨rfl, rfl⟩
        go_wp2
        go_ret
        exact ⟨⟨(k : Int), rfl, by rw [HS.out]; simp⟩, rfl⟩
    · obtain rfl : k = l.length := by omega
      have HS := Lib.hid (all_end HALL.out)
      go_wp2
      go_ret
      exact ⟨⟨-1, rfl, by rw [HS.out]; rfl⟩, rfl⟩

theorem containsTaken_any (r t : Row) (g : Nat) (w : World) (hr : r.At w) (hg : w.cell? ⟨g, 0, none⟩ = some (.slice t.a t.l.length t.c)) (ht : t.At w) (htm : t.l.length ≤ 1048576) :
    Calls Try.prog 35 #[.slice r.a r.l.length r.c, .func (.func 36) #[] #[.pointer (some ⟨g, 0, none⟩)]] w fun e w' => e = .returned (.bool (!r.l.all (outT t.l))) ∧ w' = w := by
  have CI := Lib.hid (indexTaken_any r t g w hr hg ht htm)
  clear hr hg ht
  go_enter Try.func35, Try.ntmps35
  go_wp2_with fail
  refine CI.out.mono ?_
  rintro e W ⟨⟨i, rfl, hi⟩, rfl⟩
  have HI := Lib.hid hi
  clear hi
  go_wp2
  go_ret
  exact ⟨by rw [← HI.out]; rfl, rfl⟩



end Go.Proofs.Ytfgedolngcdjpaa
