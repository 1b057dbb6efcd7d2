/- The sets that have an element, as the program finds them, and a row of ones. Condition: a System that reads as such. -/
import Derived.Test.YtffjlecibpmgiaaPlainPicks
import Derived.Test.YtffjlecibpmgiaaCovered
import Derived.Test.YtffjlecibpmgiaaWithout
import Derived.Test.YtffjlecibpmgiaaShelf
namespace Go.Proofs.Ytffjlecibpmgiaa
open Go.RowKit Go.Shelf

theorem containsI_any (s : Row) (x : Int) (w : World) (hs : s.At w) (hsm : s.l.length ≤ 1048576) :
    Calls Try.prog 91 #[.slice s.a s.l.length s.c, .int .i64 x] w fun e w' => e = .returned (.bool (s.l.contains x)) ∧ w' = w := by
  obtain ⟨a, c, l⟩ := s
  obtain ⟨h1, h2, h3⟩ := hs
  simp only at h1 h2 h3 hsm ⊢
  by_cases h0 : l = []
  · subst h0
    exact Try.slices_Contains_int_empty a c x w
  rcases h3 with h3 | ⟨b, o, rfl, hb, hcell⟩
  · exact absurd (iv_nil h3) h0
  have := Try.slices_Contains_int b o l.length c l x w (Nat.le_refl _) (by omega) (fun j hj => by rw [hcell j _ (iv_at hj), List.getD_eq_getElem?_getD, List.getElem?_eq_getElem hj]; rfl)
  rw [List.take_length] at this; exact this

theorem setsWith1_any (r : Row) (x : Int) (g : Nat) (w : World) (hr : r.At w) (hsm : r.l.length ≤ 1048576) (hg : w.cell? ⟨g, 0, none⟩ = some (.int .i64 x)) :
    Calls Try.prog 90 #[.slice r.a r.l.length r.c, .pointer (some ⟨g, 0, none⟩)] w fun e w' => e = .returned (.bool (r.l.contains x)) ∧ Below w.heap.size w w' := by
  have C0 := containsI_any r x w hr hsm
  obtain ⟨v, hv⟩ : ∃ v, v = r.l.contains x := ⟨_, rfl⟩
  rw [← hv] at C0 ⊢
  have C := Lib.hid C0
  clear hr hsm C0 hv
  go_enter Try.func90, Try.ntmps90
  go_wp2_with fail
  refine (show Calls _ _ _ _ _ from C.out).mono ?_
  rintro e W ⟨rfl, rfl⟩
  go_wp2
  go_ret
  exact ⟨rfl, Below.refl _ _⟩

set_option maxRecDepth 8000 in
set_option maxHeartbeats 1000000 in
/-- The places of the rows of a table that are picked by setsWith$1. -/
theorem placesWhere_with (T : Tab) (g : Nat) (P : List Int → Bool) (w : World) (hT : T.At w) (hs : T.R.length ≤ 1048576)
    (hP : ∀ r ∈ T.R, ∀ u, Below w.heap.size w u → Calls Try.prog 90 #[.slice r.a r.l.length r.c, .pointer (some ⟨g, 0, none⟩)] u fun e w' => e = .returned (.bool (P r.l)) ∧ Below u.heap.size u w') :
    Calls Try.prog 89 #[.slice T.a T.R.length T.c, .func (.func 90) #[] #[.pointer (some ⟨g, 0, none⟩)]] w fun e w' => ∃ t : Row, e = .returned (.slice t.a t.l.length t.c) ∧ t.l = picks P T.con T.R.length ∧ t.Own 3 w' ∧ t.In w.heap.size w'.heap.size w' ∧ Below w.heap.size w w' := by
  obtain ⟨i0, hi, hz0, hz1, hz2⟩ := info_parts infoInt
  have hni : (T.R.length : Int) ≤ 1048576 := by omega
  have HT := Lib.hid hT
  have HP := Lib.hid hP
  have hown0 := empty_own w
  have hb0 := below_alloc w (.cells #[] 3)
  have H0 := Lib.hid hown0
  have HB0 := Lib.hid hb0
  clear hP hown0 hb0 hT
  go_enter Try.func89, Try.ntmps89
  go_wp2
  go_loopw [5, 6, 7, 11] (fun out _ _ i wr => ∃ k : Nat, k ≤ T.R.length ∧ i = .int .i64 k ∧ wr.ownsRow w.heap.size 3 1 out (picks P T.con k).length (iv (picks P T.con k)) ∧ Below w.heap.size w wr) (fun _ _ _ i _ => T.R.length - (intOf i).toNat)
  case atStart => exact ⟨0, Nat.zero_le _, rfl, H0.out, HB0.out⟩
  case round =>
    obtain ⟨k, hk, rfl, hown0, hnx⟩ := hrel
    by_cases hlt : k < T.R.length
    · have hlti : (k : Int) < (T.R.length : Int) := by omega
      obtain ⟨b, o, x, hta, hcl, hxa, hxl, hxm⟩ := tab_cells HT.out hnx hlt
      have HX := Lib.hid hxl
      have cp := HP.out x hxm wr hnx
      obtain ⟨v, hv⟩ : ∃ v, v = P x.l := ⟨_, rfl⟩
      rw [← hv] at cp
      have CP := Lib.hid cp
      have HV := Lib.hid hv
      have HO := Lib.hid hown0
      have HN := Lib.hid hnx
      have hszr := hnx.size
      have hpl := picks_len P T.con k
      rw [hta]
      clear cp hv hown0 hnx hta hxa hxl hxm
      go_wp2_with fail
      refine (show Calls _ _ _ _ _ from CP.out).mono ?_
      rintro e W1 ⟨rfl, hb1⟩
      have hnx1 := HN.out.trans (hb1.mono hszr)
      have hown := owns_below HO.out hb1
      have hsz1 := hb1.size
      clear hb1 hcl
      cases v with
      | false =>
        have HE : Hid (picks P T.con (k + 1) = picks P T.con k) := Lib.hid (picks_no (by rw [HX.out, ← HV.out]))
        have HOW := Lib.hid hown
        clear hown
        go_wp2
        go_roundw
        case rel => exact ⟨k + 1, by omega, by go_num, by rw [HE.out]; exact HOW.out, hnx1⟩
        case measure => simp [intOf]; omega
      | true =>
        have HE : Hid (picks P T.con (k + 1) = picks P T.con k ++ [(k : Int)]) := Lib.hid (picks_yes (by rw [HX.out, ← HV.out]))
        have HX2 := Lib.hid hnx1
        clear hnx1
        go_wp2_with (at_builtin; refine wpList_append_own _ rfl _ _ 23 rfl w.heap.size 3 i0 (.int .i64 0) 1 8 Try.underlying23 hi hz0 hz1 hz2 rfl (by decide) _ _ _ rfl (hown.alloc _) ⟨W1.heap.size, 0, none⟩ 1 1 [.int .i64 (k : Int)] rfl rfl (one_cell _ _ _) (by simp [Value.oneCell']) (by unfold maxLen; omega) (by omega) (by simp; omega) ?_; intro v' w1 hown' hgrow _)
        have R1 : w1.ownsRow w.heap.size 3 1 v' (picks P T.con (k + 1)).length (iv (picks P T.con (k + 1))) := by rw [HE.out]; exact own_snoc rfl hown'
        have R2 : Below w.heap.size w w1 := (HX2.out.alloc (by omega) _).grown hgrow (by simp; omega) (fun j hj => (hown.lt j hj).1)
        clear hown' hgrow hown
        go_wp2
        go_roundw
        case rel => exact ⟨k + 1, by omega, by go_num, R1, R2⟩
        case measure => simp [intOf]; omega
    · obtain rfl : k = T.R.length := by omega
      go_wp2
      go_ret
      obtain ⟨t, ht, htl, hto, hti⟩ := row_of_own hown0
      exact ⟨t, congrArg Ending.returned ht, htl, hto, hti, hnx⟩

set_option maxHeartbeats 1000000 in
theorem setsWith_any (S : Sys) (x : Int) (w : World) (hS : S.At w) (h8 : ∀ l ∈ S.f.t.con, l.length ≤ 8) (hR : S.f.t.R.length ≤ 8) :
    Calls Try.prog 73 #[.agg #[.int .i64 S.n, .slice S.f.t.a S.f.t.R.length S.f.t.c, .slice S.f.o.a S.f.o.l.length S.f.o.c], .int .i64 x] w fun e w' => ∃ t : Row, e = .returned (.slice t.a t.l.length t.c) ∧ t.l = withEl S.f.t.con x ∧ t.Own 3 w' ∧ t.In w.heap.size w'.heap.size w' ∧ Below w.heap.size w w' := by
  obtain ⟨wA, hA, hb, bx, hSA, hszA⟩ := laid_sys S w 28 hS
  obtain ⟨wB, hB⟩ : ∃ u, u = wA.alloc (.cells #[.int .i64 x] 3) := ⟨_, rfl⟩
  have hbB : Below wA.heap.size wA wB := by rw [hB]; exact below_alloc _ _
  have hg : wB.cell? ⟨w.heap.size + 1, 0, none⟩ = some (.int .i64 x) := by rw [hB, ← hszA]; simp
  have hbw := hb.trans (hbB.mono hb.size)
  have x1 := (bx.on hbB).c1
  have hglt := World.block_lt_of_cell? _ _ hg
  have CP := Lib.hid (placesWhere_with S.f.t (w.heap.size + 1) (fun l => l.contains x) wB (hSA.2.on hbB) (by omega) (fun r hr u hu => setsWith1_any r x (w.heap.size + 1) u (((hSA.2.2 r hr).on hbB).on hu) (by have := h8 r.l (List.mem_map.2 ⟨r, hr, rfl⟩); omega) ((hu.cell (p := ⟨w.heap.size + 1, 0, none⟩) hglt).trans hg)))
  have HB : Hid (wB = (w.alloc (Obj.cells #[.int .i64 S.n, .slice S.f.t.a S.f.t.R.length S.f.t.c, .slice S.f.o.a S.f.o.l.length S.f.o.c] 28)).alloc (.cells #[.int .i64 x] 3)) := Lib.hid (by rw [hB, hA])
  have HL : Hid (picks (fun l => l.contains x) S.f.t.con S.f.t.R.length = withEl S.f.t.con x) := Lib.hid (by unfold withEl; rw [con_length])
  rw [HB.out] at x1
  clear hS h8 hA bx hSA hB hbB hg hglt hb
  go_enter Try.func73, Try.ntmps73
  go_wp2_with fail
  rw [← HB.out]
  refine (show Calls _ _ _ _ _ from CP.out).mono ?_
  rintro e W ⟨t, rfl, htl, hto, hti, hb2⟩
  have HTL := Lib.hid htl
  have hsz := hbw.size
  clear htl x1
  go_wp2
  go_ret
  exact ⟨t, rfl, by rw [HTL.out, HL.out], hto, hti.wide hsz (Nat.le_refl _), hbw.trans (hb2.mono hsz)⟩

end Go.Proofs.Ytffjlecibpmgiaa
