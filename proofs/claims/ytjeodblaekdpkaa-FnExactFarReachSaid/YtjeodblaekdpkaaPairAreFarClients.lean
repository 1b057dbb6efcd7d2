/- Both sides of AreFarClients answer alike. Condition: Field and list read as such. -/
import Derived.Test.YtjeodblaekdpkaaFars
import Derived.Test.YtjeodblaekdpkaaPost
namespace Go.Proofs.Ytjeodblaekdpkaa
open Go.RowKit

set_option maxHeartbeats 1000000 in
theorem hasRadius_any (F : Fld) (r : Int) (w : World) (hF : F.At w) :
    Calls Try.prog 50 #[F.val, .int .i64 r] w fun e w' => e = .returned (.bool (F.good && decide (0 ≤ r))) ∧ Below w.heap.size w w' := by
  obtain ⟨wA, hA, hbA, bx, hFA, hszA⟩ := laid_fld F w 29 hF
  have HA := Lib.hid hA
  obtain ⟨g, hg⟩ : ∃ g, g = F.good := ⟨_, rfl⟩
  have CT := Lib.hid (by have := implIsField_any F wA hFA; rw [← hg] at this; exact this)
  rw [← hg]
  have x0 := bx.c0
  have x1 := bx.c1
  rw [hA] at x0 x1
  clear hF hA hFA bx hg
  show Calls _ _ #[.agg #[F.o.val, F.t.val], _] w _
  go_enter Try.func50, Try.ntmps50
  go_wp2_with fail
  rw [show w.alloc (Obj.cells #[F.o.val, F.t.val] 29) = wA from HA.out.symm]
  refine (show Calls _ _ _ _ _ from CT.out).mono ?_
  rintro e W1 ⟨rfl, hb1⟩
  clear x0 x1
  cases g with
  | false =>
    go_wp2
    go_ret
    exact ⟨rfl, hbA.trans (hb1.mono hbA.size)⟩
  | true =>
    go_wp2
    go_ret
    exact ⟨by rw [Bool.true_and]; first | rfl | (congr 2; rw [Bool.eq_iff_iff]; simp), hbA.trans (hb1.mono hbA.size)⟩

/-- What AreFarClients answers. -/
def Fars (F : Fld) (l : List Int) (r : Int) (v b : Bool) : Prop :=
  ((F.good && (setB F.t.R.length l && decide (0 ≤ r))) = false ∧ v = false ∧ b = false) ∨ (∃ T, F.good = true ∧ l = up T ∧ setB F.t.R.length l = true ∧ (∀ j ∈ T, j < F.t.R.length) ∧ 0 ≤ r ∧ v = farUp F r T T.length ∧ b = true)
theorem fars_no {F : Fld} {l : List Int} {r : Int} {v b : Bool} (h : Fars F l r v b) (hn : F.good = false ∨ setB F.t.R.length l = false ∨ r < 0) : v = false ∧ b = false := by
  rcases h with ⟨_, h2⟩ | ⟨T, h1, _, h3, _, h5, _⟩
  · exact h2
  · rcases hn with hn | hn | hn
    · rw [h1] at hn; cases hn
    · rw [h3] at hn; cases hn
    · omega
theorem fars_yes {F : Fld} {l : List Int} {r : Int} {v b : Bool} (h : Fars F l r v b) (h1 : F.good = true) (h2 : setB F.t.R.length l = true) (h3 : 0 ≤ r) : ∃ T, l = up T ∧ (∀ j ∈ T, j < F.t.R.length) ∧ v = farUp F r T T.length ∧ b = true := by
  rcases h with ⟨h, _⟩ | ⟨T, _, h5, _, h6, _, h7, h8⟩
  · rw [h1, h2, decide_eq_true h3] at h; cases h
  · exact ⟨T, h5, h6, h7, h8⟩
theorem fars_some (F : Fld) (l : List Int) (r : Int) : ∃ v b, Fars F l r v b := by
  by_cases h : (F.good && (setB F.t.R.length l && decide (0 ≤ r))) = true
  · simp only [Bool.and_eq_true, decide_eq_true_eq] at h
    obtain ⟨T, hT, hl⟩ := set_nat h.2.1
    exact ⟨_, _, .inr ⟨T, h.1, hT, h.2.1, hl, h.2.2, rfl, rfl⟩⟩
  · exact ⟨_, _, .inl ⟨by simpa using h, rfl, rfl⟩⟩
theorem far_rows {F G : Fld} (h : F.Like G) : F.t.R.length = G.t.R.length := by have := congrArg List.length h.2; rw [con_length, con_length] at this; exact this
theorem fars_like {F G : Fld} {l : List Int} {r : Int} {v b : Bool} (h : Fars F l r v b) (hl : G.Like F) : Fars G l r v b := by
  rcases h with ⟨h1, h2⟩ | ⟨T, h1, h2, h3, h4, h5, h6, h7⟩
  · exact .inl ⟨by rw [hl.good, far_rows hl]; exact h1, h2⟩
  · exact .inr ⟨T, by rw [hl.good]; exact h1, h2, by rw [far_rows hl]; exact h3, by rw [far_rows hl]; exact h4, h5, by rw [farUp_like hl]; exact h6, h7⟩

end Go.Proofs.Ytjeodblaekdpkaa
