/- IsAllocation on both sides, as its law wants it. No condition. -/
import Derived.Test.YtmbgipllkbahpaaHubs
namespace Go.Proofs.Ytmbgipllkbahpaa
open Go.RowKit

theorem small_le (g : Bool) (T : Tab) (h : g = grdB T.con) : smallG T.con = (g && decide ((T.R.length : Int) ≤ 5)) := by unfold smallG; rw [← h, con_length]
theorem l11Small_any (T : Tab) (w : World) (hT : T.At w) :
    Calls Try.prog 42 #[.slice T.a T.R.length T.c] w fun e w' => e = .returned (.bool (smallG T.con)) ∧ DrewTo w w' := by
  have C := Lib.hid (l11Ground_any T w hT)
  obtain ⟨g, hg⟩ : ∃ g, g = grdB T.con := ⟨_, rfl⟩
  rw [← hg] at C
  rw [small_le g T hg]
  clear hT hg
  cases g with
  | false =>
    go_enter Try.func42, Try.ntmps42
    go_wp2_with fail
    refine (show Calls _ _ _ _ _ from C.out).mono ?_
    rintro e W ⟨rfl, hd⟩
    go_wp2
    go_ret
    exact ⟨rfl, hd⟩
  | true =>
    go_enter Try.func42, Try.ntmps42
    go_wp2_with fail
    refine (show Calls _ _ _ _ _ from C.out).mono ?_
    rintro e W ⟨rfl, hd⟩
    go_wp2
    go_ret
    exact ⟨rfl, hd⟩
theorem mayHave_any (T : Tab) (w : World) (hT : T.At w) :
    Calls Try.prog 44 #[.slice T.a T.R.length T.c] w fun e w' => e = .returned (.bool (smallG T.con)) ∧ Below w.heap.size w w' := by
  have C := Lib.hid (isValid_any T w hT)
  obtain ⟨g, hg⟩ : ∃ g, g = grdB T.con := ⟨_, rfl⟩
  rw [← hg] at C
  rw [small_le g T hg]
  clear hT hg
  cases g with
  | false =>
    go_enter Try.func44, Try.ntmps44
    go_wp2_with fail
    refine (show Calls _ _ _ _ _ from C.out).mono ?_
    rintro e W ⟨rfl, hb⟩
    go_wp2
    go_ret
    exact ⟨rfl, hb⟩
  | true =>
    go_enter Try.func44, Try.ntmps44
    go_wp2_with fail
    refine (show Calls _ _ _ _ _ from C.out).mono ?_
    rintro e W ⟨rfl, hb⟩
    go_wp2
    go_ret
    exact ⟨rfl, hb⟩

set_option maxHeartbeats 1000000 in
theorem specAlloc_any (T : Tab) (s : Row) (w : World) (hT : T.At w) (hs : s.At w) :
    Calls Try.prog 22 #[.slice T.a T.R.length T.c, .slice s.a s.l.length s.c] w (PBool2 (smallG T.con && hubB T.con.length s.l) (smallG T.con) w) := by
  have C := Lib.hid (l11Small_any T w hT)
  obtain ⟨g, hg⟩ : ∃ g, g = smallG T.con := ⟨_, rfl⟩
  obtain ⟨u, hu⟩ : ∃ u, u = hubB T.con.length s.l := ⟨_, rfl⟩
  have C2 := Lib.hid (fun W (hd : DrewTo w W) => (by have := l11Hubs_any T s W (hT.on hd.below) (hs.on hd.below); rw [← con_length, ← hu, con_length] at this; exact this : Calls Try.prog 43 #[.slice T.a T.R.length T.c, .slice s.a s.l.length s.c] W fun e w' => e = .returned (.bool u) ∧ DrewTo W w'))
  rw [← hg] at C ⊢
  rw [← hu]
  clear hT hs hg hu
  show Calls _ _ _ _ fun e w' => e = .returned (.tuple #[.bool (g && u), .bool g]) ∧ Below w.heap.size w w'
  cases g with
  | false =>
    go_enter Try.func22, Try.ntmps22
    go_wp2_with fail
    refine (show Calls _ _ _ _ _ from C.out).mono ?_
    rintro e W ⟨rfl, hd⟩
    go_wp2
    go_ret2
    exact ⟨rfl, hd.below⟩
  | true =>
    go_enter Try.func22, Try.ntmps22
    go_wp2_with fail
    refine (show Calls _ _ _ _ _ from C.out).mono ?_
    rintro e W ⟨rfl, hd⟩
    go_wp2_with fail
    refine (show Calls _ _ _ _ _ from C2.out W hd).mono ?_
    rintro e W2 ⟨rfl, hd2⟩
    go_wp2
    go_ret2
    exact ⟨rfl, hd.below.trans (hd2.below.mono hd.below.size)⟩

set_option maxHeartbeats 1000000 in
theorem implAlloc_any (T : Tab) (s : Row) (w : World) (hT : T.At w) (hs : s.At w) :
    Calls Try.prog 23 #[.slice T.a T.R.length T.c, .slice s.a s.l.length s.c] w (PBool2 (smallG T.con && hubB T.con.length s.l) (smallG T.con) w) := by
  have C := Lib.hid (mayHave_any T w hT)
  obtain ⟨g, hg⟩ : ∃ g, g = smallG T.con := ⟨_, rfl⟩
  obtain ⟨u, hu⟩ : ∃ u, u = hubB T.con.length s.l := ⟨_, rfl⟩
  have C2 := Lib.hid (fun W (hd : Below w.heap.size w W) => (by have := isAllocation_any T s W (hT.on hd) (hs.on hd); rw [← con_length, ← hu, con_length] at this; exact this : Calls Try.prog 45 #[.slice T.a T.R.length T.c, .slice s.a s.l.length s.c] W fun e w' => e = .returned (.bool u) ∧ Below W.heap.size W w'))
  rw [← hg] at C ⊢
  rw [← hu]
  clear hT hs hg hu
  show Calls _ _ _ _ fun e w' => e = .returned (.tuple #[.bool (g && u), .bool g]) ∧ Below w.heap.size w w'
  cases g with
  | false =>
    go_enter Try.func23, Try.ntmps23
    go_wp2_with fail
    refine (show Calls _ _ _ _ _ from C.out).mono ?_
    rintro e W ⟨rfl, hb⟩
    go_wp2
    go_ret2
    exact ⟨rfl, hb⟩
  | true =>
    go_enter Try.func23, Try.ntmps23
    go_wp2_with fail
    refine (show Calls _ _ _ _ _ from C.out).mono ?_
    rintro e W ⟨rfl, hb⟩
    go_wp2_with fail
    refine (show Calls _ _ _ _ _ from C2.out W hb).mono ?_
    rintro e W2 ⟨rfl, hb2⟩
    go_wp2
    go_ret2
    exact ⟨rfl, hb.trans (hb2.mono hb.size)⟩

theorem isAllocation_pair (T : Tab) (s : Row) (_ : s.l.length ≤ 1048576) (_ : T.Small) : ∃ v b : Bool,
    (∀ (t : Row) (Q : Tab) (W : World), t.At W → Q.At W → t.l = s.l → Q.con = T.con → Calls Try.prog 22 #[.slice Q.a Q.R.length Q.c, .slice t.a t.l.length t.c] W (PBool2 v b W)) ∧
    (∀ (t : Row) (Q : Tab) (W : World), t.At W → Q.At W → t.l = s.l → Q.con = T.con → Calls Try.prog 23 #[.slice Q.a Q.R.length Q.c, .slice t.a t.l.length t.c] W (PBool2 v b W)) :=
  ⟨smallG T.con && hubB T.con.length s.l, smallG T.con,
   fun t Q W ht hQ hl hq => by have := specAlloc_any Q t W hQ ht; rw [show (smallG Q.con && hubB Q.con.length t.l) = (smallG T.con && hubB T.con.length s.l) by rw [hl, hq], show smallG Q.con = smallG T.con by rw [hq]] at this; exact this,
   fun t Q W ht hQ hl hq => by have := implAlloc_any Q t W hQ ht; rw [show (smallG Q.con && hubB Q.con.length t.l) = (smallG T.con && hubB T.con.length s.l) by rw [hl, hq], show smallG Q.con = smallG T.con by rw [hq]] at this; exact this⟩
end Go.Proofs.Ytmbgipllkbahpaa
