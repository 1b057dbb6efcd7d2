/- The contracts of VerifyChecksum, of the program and of the model. Condition: the text has at most 1048576 bytes; the library's variables hold what their types and texts say. -/
import Derived.Test.YtfjnfgeielgihaaDoorRows
import Derived.Test.YtfjnfgeielgihaaDoorSeal
import Derived.Test.YtfjnfgeielgihaaDoorSplitSpec
import Derived.Test.YtfjnfgeielgihaaDoorPlainFirst
namespace Go.Proofs.YtfjnfgeielgihaaDoor
open Go.RowKit

theorem own_at {w : World} {B : Nat} {v : Value} {l : List ByteArray} {x : ByteArray} (h : OwnStrs w B v l) (hx : l[0]? = some x) :
    ∃ g cap, v = .slice (some ⟨g, 0, none⟩) l.length cap ∧ w.cell? ⟨g, 0, none⟩ = some (.string x) := by
  obtain ⟨h1, h2⟩ := id h
  rcases h2 with ⟨_, h0⟩ | ⟨g, cap, cur, rfl, _⟩
  · cases l with
    | nil => simp at hx
    | cons a r => simp at h0
  · refine ⟨g, cap, rfl, ?_⟩
    rw [World.ownsRow.cellAt (show w.ownsRow B 9 1 (.slice (some ⟨g, 0, none⟩) l.length cap) l.length (l.map Value.string) from h) 0 (by cases l <;> simp at hx ⊢)]
    simp [hx]

theorem specVerify_long (s : ByteArray) (w : World) (hs : s.size ≤ 1048576) (h : 4000 < s.size) :
    Calls Tryd.prog 20 #[.string s] w fun e w' => e = .returned (.tuple #[.string { data := #[] }, .bool false]) ∧ Below w.heap.size w w' := by
  have h1 : (4000 : Int) < s.size := by omega
  go_enter Tryd.func20, Tryd.ntmps20
  go_wp2_with fail
  go_ret2
  exact ⟨rfl, Below.refl _ _⟩

/-- The call of l1Split, and what its first part reads as. -/
theorem split_first (s : ByteArray) (w : World) (h : s.size ≤ 4000) :
    Calls Tryd.prog 36 #[.string s, .int .u8 35] w fun e w' => ∃ g cap : Nat, ∃ n : Nat, 0 < n ∧ e = .returned (.slice (some ⟨g, 0, none⟩) n cap) ∧ w'.cell? ⟨g, 0, none⟩ = some (.string (firstB s 35)) ∧ Below w.heap.size w w' :=
  (l1Split_any s 35 w (by omega)).mono fun e w' ⟨v, he, ho, hb⟩ => by
    obtain ⟨g, cap, rfl, hc⟩ := own_at ho (parts_first s 35)
    exact ⟨g, cap, _, List.length_pos_of_mem (List.mem_of_getElem? (parts_first s 35)), he, hc, hb⟩

set_option maxHeartbeats 400000 in
theorem specVerify_ok (s : ByteArray) (w : World) (h : s.size ≤ 4000) (he : sealB (firstB s 35) = s) :
    Calls Tryd.prog 20 #[.string s] w fun e w' => e = .returned (.tuple #[.string (firstB s 35), .bool true]) ∧ Below w.heap.size w w' := by
  have h1 : ¬ (4000 : Int) < s.size := by omega
  have hf := firstB_le s 35
  have cs := fun W => split_first s W h
  have cl : ∀ W, Calls Tryd.prog 34 #[.string (firstB s 35)] W fun e w' => e = .returned (.string s) ∧ ∃ k, w' = W.drewN k := fun W => by have := l1Seal_any (firstB s 35) W (by omega); rw [he] at this; exact this
  clear he hf
  go_enter Tryd.func20, Tryd.ntmps20
  go_wp2_with (first | (go_at_call 36; refine (cs _).mono ?_; rintro e w' ⟨g, cap, n, hn, rfl, hc, hb⟩; have hn' : (0 : Int) < (n : Int) := by omega) | (go_at_call 34; refine (cl _).mono ?_; rintro e w' ⟨rfl, k, rfl⟩))
  go_ret2
  exact ⟨rfl, hb.trans ((below_drewN _ _).mono hb.size)⟩

set_option maxHeartbeats 400000 in
theorem specVerify_no (s : ByteArray) (w : World) (h : s.size ≤ 4000) (he : sealB (firstB s 35) ≠ s) :
    Calls Tryd.prog 20 #[.string s] w fun e w' => e = .returned (.tuple #[.string { data := #[] }, .bool false]) ∧ Below w.heap.size w w' := by
  have h1 : ¬ (4000 : Int) < s.size := by omega
  have hf := firstB_le s 35
  have hne := str_ne he
  have cs := fun W => split_first s W h
  have cl : ∀ W, Calls Tryd.prog 34 #[.string (firstB s 35)] W fun e w' => e = .returned (.string (sealB (firstB s 35))) ∧ ∃ k, w' = W.drewN k := fun W => l1Seal_any (firstB s 35) W (by omega)
  clear he hf
  go_enter Tryd.func20, Tryd.ntmps20
  go_wp2_with (first | (go_at_call 36; refine (cs _).mono ?_; rintro e w' ⟨g, cap, n, hn, rfl, hc, hb⟩; have hn' : (0 : Int) < (n : Int) := by omega) | (go_at_call 34; refine (cl _).mono ?_; rintro e w' ⟨rfl, k, rfl⟩))
  go_ret2
  exact ⟨rfl, hb.trans ((below_drewN _ _).mono hb.size)⟩

/-- internal/bytealg.MaxLen holds some int, whatever lies behind the blocks of w. -/
def SomeMax (w : World) : Prop := ∀ w', Below w.heap.size w w' → ∃ m, w'.cell? ⟨2, 0, none⟩ = some (.int .i64 m)
theorem SomeMax.on {w w' : World} (h : SomeMax w) (hb : Below w.heap.size w w') : SomeMax w' := fun W' h' => h W' (hb.trans (h'.mono hb.size))

theorem cut_first (s : ByteArray) (w : World) (hs : s.size ≤ 1048576) (hm : SomeMax w) :
    Calls Tryd.prog 35 #[.string s, .string { data := #[35] }] w fun e w' => ∃ (b : ByteArray) (c : Bool), e = .returned (.tuple #[.string (firstB s 35), .string b, .bool c]) ∧ Below w.heap.size w w' := by
  obtain ⟨m, hm⟩ := hm w (Below.refl _ _)
  refine (Tryd.strings_Cut s { data := #[35] } m w (by omega) hm).mono fun e w' ⟨he, k, hk⟩ => ⟨_, _, he, ?_⟩
  rw [hk]; exact below_drewN _ _

set_option maxHeartbeats 400000 in
theorem implVerify_failed (s : ByteArray) (w : World) (hs : s.size ≤ 1048576) (hT : Pow10 w) (hM : SomeMax w)
    (cA : ∀ W, Pow10 W → Calls Tryd.prog 16 #[.string (firstB s 35)] W fun e w' => e = .returned (.tuple #[.string { data := #[] }, .bool false]) ∧ Below W.heap.size W w') :
    Calls Tryd.prog 18 #[.string s] w fun e w' => e = .returned (.tuple #[.string { data := #[] }, .bool false]) ∧ Below w.heap.size w w' := by
  have cs := fun W h => cut_first s W hs h
  go_enter Tryd.func18, Tryd.ntmps18
  go_wp2_with (first | (go_at_call 35; refine (cs _ hM).mono ?_; rintro e w' ⟨b, c, rfl, hb⟩; have hT2 := hT.on hb) | (go_at_call 16; refine (cA _ hT2).mono ?_; rintro e w' ⟨rfl, hb2⟩))
  go_ret2
  exact ⟨rfl, hb.trans (hb2.mono hb.size)⟩

set_option maxHeartbeats 400000 in
theorem implVerify_other (s : ByteArray) (w : World) (hs : s.size ≤ 1048576) (hT : Pow10 w) (hM : SomeMax w) (he : sealB (firstB s 35) ≠ s)
    (cA : ∀ W, Pow10 W → Calls Tryd.prog 16 #[.string (firstB s 35)] W fun e w' => e = .returned (.tuple #[.string (sealB (firstB s 35)), .bool true]) ∧ Below W.heap.size W w') :
    Calls Tryd.prog 18 #[.string s] w fun e w' => e = .returned (.tuple #[.string { data := #[] }, .bool false]) ∧ Below w.heap.size w w' := by
  have cs := fun W h => cut_first s W hs h
  have hne := str_ne he
  clear he
  go_enter Tryd.func18, Tryd.ntmps18
  go_wp2_with (first | (go_at_call 35; refine (cs _ hM).mono ?_; rintro e w' ⟨b, c, rfl, hb⟩; have hT2 := hT.on hb) | (go_at_call 16; refine (cA _ hT2).mono ?_; rintro e w' ⟨rfl, hb2⟩))
  go_ret2
  exact ⟨rfl, hb.trans (hb2.mono hb.size)⟩

set_option maxHeartbeats 400000 in
theorem implVerify_ok (s : ByteArray) (w : World) (h : s.size ≤ 4000) (hT : Pow10 w) (hM : SomeMax w) (he : sealB (firstB s 35) = s) :
    Calls Tryd.prog 18 #[.string s] w fun e w' => e = .returned (.tuple #[.string (firstB s 35), .bool true]) ∧ Below w.heap.size w w' := by
  have hf := firstB_le s 35
  have cs := fun W h => cut_first s W (by omega) h
  have cA : ∀ W, Pow10 W → Calls Tryd.prog 16 #[.string (firstB s 35)] W fun e w' => e = .returned (.tuple #[.string s, .bool true]) ∧ Below W.heap.size W w' := fun W hW => by
    have := implAppend_ok (firstB s 35) W (by omega) (firstB_clear s 35) (by rw [he]; omega) hW
    rw [he] at this; exact this
  clear he hf
  go_enter Tryd.func18, Tryd.ntmps18
  go_wp2_with (first | (go_at_call 35; refine (cs _ hM).mono ?_; rintro e w' ⟨b, c, rfl, hb⟩; have hT2 := hT.on hb) | (go_at_call 16; refine (cA _ hT2).mono ?_; rintro e w' ⟨rfl, hb2⟩))
  go_ret2
  exact ⟨rfl, hb.trans (hb2.mono hb.size)⟩

theorem implVerify_no (s : ByteArray) (w : World) (hs : s.size ≤ 1048576) (hT : Pow10 w) (hM : SomeMax w) (he : 4000 < s.size ∨ sealB (firstB s 35) ≠ s) :
    Calls Tryd.prog 18 #[.string s] w fun e w' => e = .returned (.tuple #[.string { data := #[] }, .bool false]) ∧ Below w.heap.size w w' := by
  have hf := firstB_le s 35
  by_cases h1 : 4000 < (firstB s 35).size
  · exact implVerify_failed s w hs hT hM fun W _ => implAppend_long _ W (by omega) h1
  by_cases h2 : 4000 < (sealB (firstB s 35)).size
  · exact implVerify_failed s w hs hT hM fun W hW => implAppend_full _ W (by omega) (firstB_clear s 35) h2 hW
  have hne : sealB (firstB s 35) ≠ s := by
    rcases he with h | h
    · intro e; rw [e] at h2; omega
    · exact h
  exact implVerify_other s w hs hT hM hne fun W hW => implAppend_ok _ W (by omega) (firstB_clear s 35) (by omega) hW

end Go.Proofs.YtfjnfgeielgihaaDoor
