/- DispersionOf on both sides, as its law wants it. No condition. -/
import Derived.Test.YtmbgipllkbahpaaSpread
namespace Go.Proofs.Ytmbgipllkbahpaa
open Go.RowKit

def disB (d : List (List Int)) (l : List Int) : Bool := grdB d && decide (2 ≤ l.length) && setB d.length l
/-- What DispersionOf answers. -/
def DisIs (d : List (List Int)) (l : List Int) (v : Int) (b : Bool) : Prop :=
  (disB d l = false ∧ v = 0 ∧ b = false) ∨ (disB d l = true ∧ b = true ∧ ∃ L : List Nat, l = up L ∧ (∀ m ∈ L, m < d.length) ∧ 2 ≤ L.length ∧ v = dispT d L)
theorem disIs_some (d : List (List Int)) (l : List Int) : ∃ v b, DisIs d l v b := by
  by_cases h : disB d l = true
  · have h' := h
    unfold disB at h'
    simp only [Bool.and_eq_true, decide_eq_true_eq] at h'
    obtain ⟨L, hL, hlt⟩ := set_nat h'.2
    exact ⟨_, _, .inr ⟨h, rfl, L, hL, hlt, by rw [hL, up_length] at h'; exact h'.1.2, rfl⟩⟩
  · exact ⟨_, _, .inl ⟨by simpa using h, rfl, rfl⟩⟩

set_option maxHeartbeats 1000000 in
theorem specDispOf_any (T : Tab) (s : Row) (w : World) (hT : T.At w) (hs : s.At w) (v : Int) (b : Bool) (hv : DisIs T.con s.l v b) :
    Calls Try.prog 16 #[.slice T.a T.R.length T.c, .slice s.a s.l.length s.c] w (PInt v b w) := by
  have hlim := row_lim0 hs
  have hlimT := tab_lim0 hT
  have C := Lib.hid (l11Ground_any T w hT)
  obtain ⟨g, hg⟩ : ∃ g, g = grdB T.con := ⟨_, rfl⟩
  obtain ⟨u, hu⟩ : ∃ u, u = setB T.con.length s.l := ⟨_, rfl⟩
  have HB : Hid (disB T.con s.l = (g && decide (2 ≤ s.l.length) && u)) := Lib.hid (by unfold disB; rw [hg, hu])
  have CR := Lib.hid (fun W (hd : DrewTo w W) => (by have := rising_any s T.R.length W (hs.on hd.below) hlimT; rw [← con_length, ← hu, con_length] at this; exact this : Calls Try.prog 32 #[.slice s.a s.l.length s.c, .int .i64 0, .int .i64 ((T.R.length : Int) - 1)] W fun e w' => e = .returned (.bool u) ∧ DrewTo W w'))
  have HT := Lib.hid hT
  have HS := Lib.hid hs
  have HG := Lib.hid hg
  have HV := Lib.hid hv
  rw [← hg] at C
  show Calls _ _ _ _ fun e w' => e = .returned (.tuple #[.int .i64 v, .bool b]) ∧ Below w.heap.size w w'
  have HNO : Hid (disB T.con s.l = false → v = 0 ∧ b = false) := Lib.hid fun h => by
    rcases hv with ⟨_, h1, h2⟩ | ⟨h1, _⟩
    · exact ⟨h1, h2⟩
    · rw [h] at h1; cases h1
  clear hT hs hg hu hv
  cases g with
  | false =>
    obtain ⟨rfl, rfl⟩ := HNO.out (by rw [HB.out]; rfl)
    clear HB HNO
    go_enter Try.func16, Try.ntmps16
    go_wp2_with fail
    refine (show Calls _ _ _ _ _ from C.out).mono ?_
    rintro e W ⟨rfl, hd⟩
    go_wp2
    go_ret2
    exact ⟨rfl, hd.below⟩
  | true =>
    by_cases h2 : (s.l.length : Int) < 2
    · obtain ⟨rfl, rfl⟩ := HNO.out (by rw [HB.out, decide_eq_false (by omega)]; rfl)
      clear HB HNO
      go_enter Try.func16, Try.ntmps16
      go_wp2_with fail
      refine (show Calls _ _ _ _ _ from C.out).mono ?_
      rintro e W ⟨rfl, hd⟩
      go_wp2
      go_ret2
      exact ⟨rfl, hd.below⟩
    · have hd2 : Hid (decide (2 ≤ s.l.length) = true) := Lib.hid (decide_eq_true (by omega))
      have hw1 : IntKind.i64.wrap ((T.R.length : Int) - 1) = (T.R.length : Int) - 1 := IntWalk.i64_in _ (by omega)
      cases u with
      | false =>
        obtain ⟨rfl, rfl⟩ := HNO.out (by rw [HB.out, hd2.out]; rfl)
        clear HB HNO
        go_enter Try.func16, Try.ntmps16
        go_wp2_with fail
        refine (show Calls _ _ _ _ _ from C.out).mono ?_
        rintro e W ⟨rfl, hd⟩
        go_wp2_with fail
        refine (show Calls _ _ _ _ _ from CR.out W hd).mono ?_
        rintro e W2 ⟨rfl, hd2⟩
        go_wp2
        go_ret2
        exact ⟨rfl, hd.below.trans (hd2.below.mono hd.below.size)⟩
      | true =>
        obtain ⟨hb, L, hsl, hL, hL2, hvL⟩ : b = true ∧ ∃ L : List Nat, s.l = up L ∧ (∀ m ∈ L, m < T.con.length) ∧ 2 ≤ L.length ∧ v = dispT T.con L := by
          rcases HV.out with ⟨h, _⟩ | ⟨_, h⟩
          · rw [HB.out, hd2.out] at h; cases h
          · exact h
        have CD := Lib.hid (fun W (hb : Below w.heap.size w W) => (by have := l11Disp_any T s L W (HT.out.on hb) (grdB_iff.1 HG.out.symm) (HS.out.on hb) hsl (by rw [← con_length]; exact hL) hL2; rw [← hvL] at this; exact this : Calls Try.prog 33 #[.slice T.a T.R.length T.c, .slice s.a s.l.length s.c] W fun e w' => e = .returned (.int .i64 v) ∧ DrewTo W w'))
        subst hb
        clear HB HNO HV hsl hL hL2 hvL
        go_enter Try.func16, Try.ntmps16
        go_wp2_with fail
        refine (show Calls _ _ _ _ _ from C.out).mono ?_
        rintro e W ⟨rfl, hd⟩
        go_wp2_with fail
        refine (show Calls _ _ _ _ _ from CR.out W hd).mono ?_
        rintro e W2 ⟨rfl, hd2⟩
        have hb2 := hd.below.trans (hd2.below.mono hd.below.size)
        go_wp2_with fail
        refine (show Calls _ _ _ _ _ from CD.out W2 hb2).mono ?_
        rintro e W3 ⟨rfl, hd3⟩
        go_wp2
        go_ret2
        exact ⟨rfl, hb2.trans (hd3.below.mono hb2.size)⟩

set_option maxHeartbeats 1000000 in
theorem implDispOf_any (T : Tab) (s : Row) (w : World) (hT : T.At w) (hs : s.At w) (v : Int) (b : Bool) (hv : DisIs T.con s.l v b) :
    Calls Try.prog 18 #[.slice T.a T.R.length T.c, .slice s.a s.l.length s.c] w (PInt v b w) := by
  have hlim := row_lim0 hs
  have hlimT := tab_lim0 hT
  have C := Lib.hid (canSpread_any T (s.l.length : Int) w hT)
  obtain ⟨g, hg⟩ : ∃ g, g = spreadB T.con (s.l.length : Int) := ⟨_, rfl⟩
  obtain ⟨u, hu⟩ : ∃ u, u = setB T.con.length s.l := ⟨_, rfl⟩
  have HB : Hid (disB T.con s.l = (g && u)) := Lib.hid (by
    unfold disB
    rw [hg, hu]
    unfold spreadB
    by_cases h : setB T.con.length s.l = true
    · have := set_len0 h
      rw [h, decide_eq_true (by omega : ((s.l.length : Int)) ≤ (T.con.length : Int)), Bool.and_true, Bool.and_true, Bool.and_true]
      congr 1
      by_cases h2 : 2 ≤ s.l.length
      · rw [decide_eq_true h2, decide_eq_true (by omega)]
      · rw [decide_eq_false h2, decide_eq_false (by omega)]
    · rw [show setB T.con.length s.l = false by simpa using h, Bool.and_false, Bool.and_false])
  have CR := Lib.hid (fun W (hd : Below w.heap.size w W) => (by have := ascends_any s T.R.length W (hs.on hd) hlimT; rw [← con_length, ← hu, con_length] at this; exact this : Calls Try.prog 35 #[.slice s.a s.l.length s.c, .int .i64 (T.R.length : Int)] W fun e w' => e = .returned (.bool u) ∧ w' = W))
  have HT := Lib.hid hT
  have HS := Lib.hid hs
  have HG : Hid (g = true → Grd T.con) := Lib.hid fun h => by
    rw [h] at hg
    have := hg.symm
    unfold spreadB at this
    simp only [Bool.and_eq_true] at this
    exact grdB_iff.1 this.1.1
  have HV := Lib.hid hv
  rw [← hg] at C
  show Calls _ _ _ _ fun e w' => e = .returned (.tuple #[.int .i64 v, .bool b]) ∧ Below w.heap.size w w'
  have HNO : Hid (disB T.con s.l = false → v = 0 ∧ b = false) := Lib.hid fun h => by
    rcases hv with ⟨_, h1, h2⟩ | ⟨h1, _⟩
    · exact ⟨h1, h2⟩
    · rw [h] at h1; cases h1
  clear hT hs hg hu hv
  cases g with
  | false =>
    obtain ⟨rfl, rfl⟩ := HNO.out (by rw [HB.out]; rfl)
    clear HB HNO
    go_enter Try.func18, Try.ntmps18
    go_wp2_with fail
    refine (show Calls _ _ _ _ _ from C.out).mono ?_
    rintro e W ⟨rfl, hb⟩
    go_wp2
    go_ret2
    exact ⟨rfl, hb⟩
  | true =>
    cases u with
    | false =>
      obtain ⟨rfl, rfl⟩ := HNO.out (by rw [HB.out]; rfl)
      clear HB HNO
      go_enter Try.func18, Try.ntmps18
      go_wp2_with fail
      refine (show Calls _ _ _ _ _ from C.out).mono ?_
      rintro e W ⟨rfl, hb⟩
      go_wp2_with fail
      refine (show Calls _ _ _ _ _ from CR.out W hb).mono ?_
      rintro e W2 ⟨rfl, rfl⟩
      go_wp2
      go_ret2
      exact ⟨rfl, hb⟩
    | true =>
      obtain ⟨hb, L, hsl, hL, hL2, hvL⟩ : b = true ∧ ∃ L : List Nat, s.l = up L ∧ (∀ m ∈ L, m < T.con.length) ∧ 2 ≤ L.length ∧ v = dispT T.con L := by
        rcases HV.out with ⟨h, _⟩ | ⟨_, h⟩
        · rw [HB.out] at h; cases h
        · exact h
      have CD := Lib.hid (fun W (hb : Below w.heap.size w W) => (by have := dispersion_any T s L W (HT.out.on hb) (HG.out rfl) (HS.out.on hb) hsl (by rw [← con_length]; exact hL) hL2; rw [← hvL] at this; exact this : Calls Try.prog 36 #[.slice T.a T.R.length T.c, .slice s.a s.l.length s.c] W fun e w' => e = .returned (.int .i64 v) ∧ w' = W))
      subst hb
      clear HB HNO HV hsl hL hL2 hvL
      go_enter Try.func18, Try.ntmps18
      go_wp2_with fail
      refine (show Calls _ _ _ _ _ from C.out).mono ?_
      rintro e W ⟨rfl, hb⟩
      go_wp2_with fail
      refine (show Calls _ _ _ _ _ from CR.out W hb).mono ?_
      rintro e W2 ⟨rfl, rfl⟩
      go_wp2_with fail
      refine (show Calls _ _ _ _ _ from CD.out W2 hb).mono ?_
      rintro e W3 ⟨rfl, rfl⟩
      go_wp2
      go_ret2
      exact ⟨rfl, hb⟩

theorem dispersionOf_pair (T : Tab) (s : Row) (_ : s.l.length ≤ 1048576) (_ : T.Small) : ∃ (v : Int) (b : Bool),
    (∀ (t : Row) (Q : Tab) (W : World), t.At W → Q.At W → t.l = s.l → Q.con = T.con → Calls Try.prog 16 #[.slice Q.a Q.R.length Q.c, .slice t.a t.l.length t.c] W (PInt v b W)) ∧
    (∀ (t : Row) (Q : Tab) (W : World), t.At W → Q.At W → t.l = s.l → Q.con = T.con → Calls Try.prog 18 #[.slice Q.a Q.R.length Q.c, .slice t.a t.l.length t.c] W (PInt v b W)) := by
  obtain ⟨v, b, h⟩ := disIs_some T.con s.l
  exact ⟨v, b, fun t Q W ht hQ hl hq => specDispOf_any Q t W hQ ht v b (by rw [hl, hq]; exact h), fun t Q W ht hQ hl hq => implDispOf_any Q t W hQ ht v b (by rw [hl, hq]; exact h)⟩
end Go.Proofs.Ytmbgipllkbahpaa
