/- Both sides of ClientsWithin answer alike. Condition: Field and set read as such. -/
import Derived.Test.YthabpdfbpdokjaaPairServiceOf
import Derived.Test.YthabpdfbpdokjaaPlainPick
import Derived.RangeFuncBox
namespace Go.Proofs.Ythabpdfbpdokjaa
open Go.RowKit

set_option maxRecDepth 8000 in
set_option maxHeartbeats 2000000 in
theorem placesWhere_within (r : Row) (g : Nat) (P : Int → Bool) (w : World) (hr : r.At w) (hs : r.l.length ≤ 1048576)
    (hP : ∀ x ∈ r.l, ∀ u, Below w.heap.size w u → Calls Try.prog 56 #[.int .i64 x, .pointer (some ⟨g, 0, none⟩)] u fun e w' => e = .returned (.bool (P x)) ∧ Below u.heap.size u w') :
    Calls Try.prog 41 #[.slice r.a r.l.length r.c, .func (.func 56) #[] #[.pointer (some ⟨g, 0, none⟩)]] w fun e w' => ∃ t : Row, e = .returned (.slice t.a t.l.length t.c) ∧ t.l = places P r.l r.l.length ∧ t.Own 3 w' ∧ t.In w.heap.size w'.heap.size w' ∧ Below w.heap.size w w' := by
  obtain ⟨i0, hi, hz0, hz1, hz2⟩ := info_parts infoInt
  obtain ⟨a, c, l⟩ := r
  obtain ⟨h1, h2, h3⟩ := hr
  simp only at h1 h2 h3 hP hs ⊢
  have hni : (l.length : Int) ≤ 1048576 := by omega
  have HR := Lib.hid h3
  have HP := Lib.hid hP
  have hown0 := empty_own w
  have hb0 := below_alloc w (.cells #[] 3)
  have H0 := Lib.hid hown0
  have HB0 := Lib.hid hb0
  clear h3 hP hown0 hb0
  go_enter Try.func41, Try.ntmps41
  go_wp2
  go_loopw [5, 6, 7, 11] (fun out _ _ i wr => ∃ k : Nat, k ≤ l.length ∧ i = .int .i64 k ∧ wr.ownsRow w.heap.size 3 1 out (places P l k).length (iv (places P l k)) ∧ Below w.heap.size w wr) (fun _ _ _ i _ => l.length - (intOf i).toNat)
  case atStart => exact ⟨0, Nat.zero_le _, rfl, H0.out, HB0.out⟩
  case round =>
    obtain ⟨k, hk, rfl, hown0, hnx⟩ := hrel
    by_cases hlt : k < l.length
    · have hlti : (k : Int) < (l.length : Int) := by omega
      rcases HR.out with h3 | ⟨b, o, rfl, hb, hcell⟩
      · have h3' := congrArg List.length (iv_nil h3); rw [List.length_nil] at h3'; omega
      obtain ⟨x, hx⟩ : ∃ x, x = l[k] := ⟨_, rfl⟩
      have hcl : wr.cell? ⟨b, o + k, none⟩ = some (.int .i64 x) := (hnx.cell (p := ⟨b, o + k, none⟩) hb).trans (by rw [hx]; exact hcell k _ (iv_at hlt))
      have HX : Hid (l.getD k 0 = x) := Lib.hid (by rw [getD_at hlt, hx])
      have cp := HP.out x (by rw [hx]; exact List.getElem_mem hlt) wr hnx
      obtain ⟨v, hv⟩ : ∃ v, v = P x := ⟨_, rfl⟩
      rw [← hv] at cp
      have CP := Lib.hid cp
      have HV := Lib.hid hv
      have HO := Lib.hid hown0
      have HN := Lib.hid hnx
      have hszr := hnx.size
      have hpl := places_len P l k
      clear hx hcell cp hv hown0 hnx
      go_wp2_with fail
      refine (show Calls _ _ _ _ _ from CP.out).mono ?_
      rintro e W1 ⟨rfl, hb1⟩
      have hnx1 := HN.out.trans (hb1.mono hszr)
      have hown := owns_below HO.out hb1
      have hsz1 := hb1.size
      clear hb1 hcl
      cases v with
      | false =>
        have HE : Hid (places P l (k + 1) = places P l k) := Lib.hid (places_no (by rw [HX.out, ← HV.out]))
        have HOW := Lib.hid hown
        clear hown
        go_wp2
        go_roundw
        case rel => exact ⟨k + 1, by omega, by go_num, by rw [HE.out]; exact HOW.out, hnx1⟩
        case measure => simp [intOf]; omega
      | true =>
        have HE : Hid (places P l (k + 1) = places P l k ++ [(k : Int)]) := Lib.hid (places_yes (by rw [HX.out, ← HV.out]))
        have HX2 := Lib.hid hnx1
        clear hnx1
        go_wp2_with (at_builtin; refine wpList_append_own _ rfl _ _ 22 rfl w.heap.size 3 i0 (.int .i64 0) 1 8 Try.underlying22 hi hz0 hz1 hz2 rfl (by decide) _ _ _ rfl (hown.alloc _) ⟨W1.heap.size, 0, none⟩ 1 1 [.int .i64 (k : Int)] rfl rfl (one_cell _ _ _) (by simp [Value.oneCell']) (by unfold maxLen; omega) (by omega) (by simp; omega) ?_; intro v' w1 hown' hgrow _)
        have R1 : w1.ownsRow w.heap.size 3 1 v' (places P l (k + 1)).length (iv (places P l (k + 1))) := by rw [HE.out]; exact own_snoc rfl hown'
        have R2 : Below w.heap.size w w1 := (HX2.out.alloc (by omega) _).grown hgrow (by simp; omega) (fun j hj => (hown.lt j hj).1)
        clear hown' hgrow hown
        go_wp2
        go_roundw
        case rel => exact ⟨k + 1, by omega, by go_num, R1, R2⟩
        case measure => simp [intOf]; omega
    · obtain rfl : k = l.length := by omega
      go_wp2
      go_ret
      obtain ⟨t, ht, htl, hto, hti⟩ := row_of_own hown0
      exact ⟨t, congrArg Ending.returned ht, htl, hto, hti, hnx⟩


theorem within1_any (x r : Int) (g : Nat) (w : World) (hg : w.cell? ⟨g, 0, none⟩ = some (.int .i64 r)) :
    Calls Try.prog 56 #[.int .i64 x, .pointer (some ⟨g, 0, none⟩)] w fun e w' => e = .returned (.bool (decide (x ≤ r))) ∧ Below w.heap.size w w' := by
  by_cases h : x ≤ r
  · have HD : Hid (decide (x ≤ r) = true) := Lib.hid (by simpa using h)
    go_enter Try.func56, Try.ntmps56
    go_wp2
    go_ret
    exact ⟨by rw [HD.out]; rfl, Below.refl _ _⟩
  · have HD : Hid (decide (x ≤ r) = false) := Lib.hid (by simpa using h)
    go_enter Try.func56, Try.ntmps56
    go_wp2
    go_ret
    exact ⟨by rw [HD.out]; rfl, Below.refl _ _⟩

/-- What ClientsWithin answers. -/
def Withins (F : Fld) (s : Row) (r : Int) (l : List Int) (b : Bool) : Prop :=
  ((twoB F s = false ∨ r < 0) ∧ l = [] ∧ b = false) ∨ (∃ T, Fine F s T ∧ twoB F s = true ∧ 0 ≤ r ∧ l = places (fun x => decide (x ≤ r)) (lens F.t.con T) F.t.R.length ∧ b = true)
theorem withins_like {F G : Fld} {s t : Row} {r : Int} {l : List Int} {b : Bool} (h : Withins F s r l b) (hl : G.Like F) (hs : t.l = s.l) : Withins G t r l b := by
  have hr : G.t.R.length = F.t.R.length := by have := congrArg List.length hl.2; rw [con_length, con_length] at this; exact this
  rcases h with ⟨h1, h2, h3⟩ | ⟨T, hf, h1, h2, h3, h4⟩
  · exact .inl ⟨by rw [twoB_like hl hs]; exact h1, h2, h3⟩
  · exact .inr ⟨T, fine_like hf hl hs, by rw [twoB_like hl hs]; exact h1, h2, by rw [hl.2, hr]; exact h3, h4⟩
theorem withins_some (F : Fld) (s : Row) (r : Int) : ∃ (l : List Int) (b : Bool), Withins F s r l b ∧ l.length ≤ 1048576 := by
  by_cases h : twoB F s = true ∧ 0 ≤ r
  · obtain ⟨T, hf⟩ := fine_of h.1
    exact ⟨_, _, .inr ⟨T, hf, h.1, h.2, rfl, rfl⟩, by have := good_sizes hf.good; have := places_len (fun x => decide (x ≤ r)) (lens F.t.con T) F.t.R.length; omega⟩
  · exact ⟨_, _, .inl ⟨by
      by_cases h1 : twoB F s = true
      · right
        have : ¬ 0 ≤ r := fun e => h ⟨h1, e⟩
        omega
      · left; simpa using h1, rfl, rfl⟩, by simp⟩

set_option maxHeartbeats 1000000 in
theorem implWithin_any (F : Fld) (s : Row) (r : Int) (w : World) (hF : F.At w) (hs : s.At w) (l : List Int) (b : Bool) (hv : Withins F s r l b) :
    Calls Try.prog 24 #[F.val, .slice s.a s.l.length s.c, .int .i64 r] w (PInts l b w) := by
  obtain ⟨wA, hA, hbA, bx, hFA, hszA⟩ := laid_fld F w 29 hF
  obtain ⟨wB, hB⟩ : ∃ wB, wB = wA.alloc (.cells #[.int .i64 r] 3) := ⟨_, rfl⟩
  have hbB0 : Below wA.heap.size wA wB := by rw [hB]; exact below_alloc _ _
  have hbB : Below w.heap.size w wB := hbA.trans (hbB0.mono hbA.size)
  have HR : Hid (wB.cell? ⟨w.heap.size + 1, 0, none⟩ = some (.int .i64 r)) := Lib.hid (by
    have := (Boxed.new wA 3 (.int .i64 r)).cell
    rw [← hB, hszA] at this; exact this)
  have HSA := Lib.hid ((hs.on hbA).on hbB0)
  have HFA := Lib.hid (hFA.on hbB0)
  have HBX := Lib.hid (bx.on hbB0)
  have HB : Hid (wB = (w.alloc (Obj.cells #[F.o.val, F.t.val] 29)).alloc (.cells #[.int .i64 r] 3)) := Lib.hid (by rw [hB, hA])
  have CT := Lib.hid (canServe_any F s wB HFA.out HSA.out)
  have x0 := HBX.out.c0
  have x1 := HBX.out.c1
  rw [HB.out] at x0 x1
  have hrlt : w.heap.size + 1 < wB.heap.size := World.block_lt_of_cell? wB _ HR.out
  clear hF hs hA hFA bx hB
  show Calls _ _ #[.agg #[F.o.val, F.t.val], _, _] w _
  go_enter Try.func24, Try.ntmps24
  go_wp2_with fail
  rw [show (w.alloc (Obj.cells #[F.o.val, F.t.val] 29)).alloc (.cells #[.int .i64 r] 3) = wB from HB.out.symm]
  refine (show Calls _ _ _ _ _ from CT.out).mono ?_
  rintro e W1 ⟨rfl, hb1⟩
  have hbw := hbB.trans (hb1.mono hbB.size)
  have HO1 := Lib.hid (empty_own W1)
  have HB0 := Lib.hid (below_alloc W1 (.cells #[] 3))
  have hsz1 := hbw.size
  have z0 : W1.cell? ⟨w.heap.size + 1, 0, none⟩ = some (.int .i64 r) := (hb1.cell (p := ⟨w.heap.size + 1, 0, none⟩) hrlt).trans HR.out
  clear x0 x1
  obtain ⟨t, ht⟩ : ∃ t, t = twoB F s := ⟨_, rfl⟩
  rw [← ht]
  have HT := Lib.hid ht
  have HV := Lib.hid hv
  clear ht hv
  cases t with
  | false =>
    obtain ⟨rfl, rfl⟩ : l = [] ∧ b = false := by
      rcases HV.out with ⟨_, h2, h3⟩ | ⟨T, _, h1, _⟩
      · exact ⟨h2, h3⟩
      · rw [← HT.out] at h1; cases h1
    go_wp2
    go_ret2
    exact ints_end rfl HO1.out hsz1 (hbw.trans (HB0.out.mono hbw.size))
  | true =>
    by_cases hr0 : r < 0
    · obtain ⟨rfl, rfl⟩ : l = [] ∧ b = false := by
        rcases HV.out with ⟨_, h2, h3⟩ | ⟨T, _, _, h1, _⟩
        · exact ⟨h2, h3⟩
        · omega
      go_wp2
      go_ret2
      exact ints_end rfl HO1.out hsz1 (hbw.trans (HB0.out.mono hbw.size))
    · obtain ⟨T, hf, hl, rfl⟩ : ∃ T, Fine F s T ∧ l = places (fun x => decide (x ≤ r)) (lens F.t.con T) F.t.R.length ∧ b = true := by
        rcases HV.out with ⟨h1, _, _⟩ | ⟨T, hf, _, _, h2, h3⟩
        · rcases h1 with h1 | h1
          · rw [← HT.out] at h1; cases h1
          · exact absurd h1 hr0
        · exact ⟨T, hf, h2, h3⟩
      have HL := Lib.hid hl
      have y0 := (HBX.out.on hb1).c0
      have y1 := (HBX.out.on hb1).c1
      have CB := Lib.hid (servedLengths_any F s T W1 (HFA.out.on hb1) (HSA.out.on hb1) hf)
      have hsz := good_sizes hf.good
      have HZ := Lib.hid z0
      have hr1 : w.heap.size + 1 < W1.heap.size := World.block_lt_of_cell? W1 _ z0
      clear hf hl hb1
      go_wp2_with fail
      refine (show Calls _ _ _ _ _ from CB.out).mono ?_
      rintro e W2 ⟨t, rfl, htl, -, hti, hb2⟩
      have hbw2 := hbw.trans (hb2.mono hbw.size)
      have htn : t.l.length = F.t.R.length := by rw [htl, lens_length]
      have z2 : W2.cell? ⟨w.heap.size + 1, 0, none⟩ = some (.int .i64 r) := (hb2.cell (p := ⟨w.heap.size + 1, 0, none⟩) hr1).trans HZ.out
      have hr2 : w.heap.size + 1 < W2.heap.size := World.block_lt_of_cell? W2 _ z2
      have CP := Lib.hid (placesWhere_within t (w.heap.size + 1) (fun x => decide (x ≤ r)) W2 hti.at (by omega) (fun x _ u hu => within1_any x r _ u ((hu.cell (p := ⟨w.heap.size + 1, 0, none⟩) hr2).trans z2)))
      have HPL : Hid (places (fun x => decide (x ≤ r)) t.l t.l.length = l) := Lib.hid (by rw [HL.out, htn, htl])
      clear htl htn hti y0 y1 z0 z2 hsz
      go_wp2_with fail
      refine (show Calls _ _ _ _ _ from CP.out).mono ?_
      rintro e W3 ⟨q, rfl, hql, hqo, hqi, hb3⟩
      have hbw3 := hbw2.trans (hb3.mono hbw2.size)
      have hsz2 := hbw2.size
      have HQL := Lib.hid hql
      clear hql
      go_wp2
      go_ret2
      exact ⟨q, rfl, HQL.out.trans HPL.out, hqo, hqi.wide hsz2 (Nat.le_refl _), hbw3⟩

set_option maxRecDepth 8000 in
set_option maxHeartbeats 2000000 in
theorem specWithin_any (F : Fld) (s : Row) (r : Int) (w : World) (hF : F.At w) (hs : s.At w) (l : List Int) (b : Bool) (hv : Withins F s r l b) :
    Calls Try.prog 23 #[F.val, .slice s.a s.l.length s.c, .int .i64 r] w (PInts l b w) := by
  obtain ⟨i0, hi, hz0, hz1, hz2⟩ := info_parts infoInt
  obtain ⟨wA, hA, hbA, bx, hFA, hszA⟩ := laid_fld F w 29 hF
  have HSA := Lib.hid (hs.on hbA)
  have HFA := Lib.hid hFA
  have HBX := Lib.hid bx
  have hown0 := empty_own wA
  have hb0 := below_alloc wA (.cells #[] 3)
  obtain ⟨w0, hw0⟩ : ∃ u, u = wA.alloc (.cells #[] 3) := ⟨_, rfl⟩
  rw [← hw0] at hown0 hb0
  have HW0 : Hid (w0 = (w.alloc (Obj.cells #[F.o.val, F.t.val] 29)).alloc (.cells #[] 3)) := Lib.hid (by rw [hw0, hA])
  have H0 := Lib.hid hown0
  have CT := Lib.hid (l2Two_any F s w0 (HFA.out.on hb0) (HSA.out.on hb0))
  have hszw : Hid (wA.heap.size = w.heap.size + 1) := Lib.hid hszA
  have y00 := (HBX.out.on hb0).c0
  have y01 := (HBX.out.on hb0).c1
  have Y0 := Lib.hid (show ((w.alloc (Obj.cells #[F.o.val, F.t.val] 29)).alloc (.cells #[] 3)).cell? ⟨w.heap.size, 0, none⟩ = some F.o.val by rw [← HW0.out]; exact y00)
  have Y1 := Lib.hid (show ((w.alloc (Obj.cells #[F.o.val, F.t.val] 29)).alloc (.cells #[] 3)).cell? ⟨w.heap.size, 1, none⟩ = some F.t.val by rw [← HW0.out]; exact y01)
  have z0 := Y0.out
  have z1 := Y1.out
  have HV := Lib.hid hv
  have hwA := hbA.size
  clear hF hs hA hFA bx hw0 hown0 hszA y00 y01 hv
  show Calls _ _ #[.agg #[F.o.val, F.t.val], _, _] w _
  go_enter Try.func23, Try.ntmps23
  go_wp2_with fail
  rw [← HW0.out]
  refine (show Calls _ _ _ _ _ from CT.out).mono ?_
  rintro e W1 ⟨rfl, hb1⟩
  have hb01 := hb0.trans (hb1.mono hb0.size)
  have HO1 := Lib.hid (owns_below H0.out hb1)
  have HB01 := Lib.hid hb01
  clear z0 z1
  have HEND : Hid (PInts [] false w (.returned (.tuple #[.slice (some ⟨wA.heap.size, 0, none⟩) 0 0, .bool false])) W1) := Lib.hid (ints_end rfl HO1.out hwA (hbA.trans (hb01.mono hbA.size)))
  have HE2 : Hid (PInts [] false w (.returned (.tuple #[.slice (some ⟨w.heap.size + 1, 0, none⟩) 0 0, .bool false])) W1) := Lib.hid (by have := HEND.out; rw [hszw.out] at this; exact this)
  obtain ⟨t, ht⟩ : ∃ t, t = twoB F s := ⟨_, rfl⟩
  rw [← ht]
  have HT := Lib.hid ht
  clear ht
  cases t with
  | false =>
    obtain ⟨rfl, rfl⟩ : l = [] ∧ b = false := by
      rcases HV.out with ⟨_, h2, h3⟩ | ⟨T, _, h1, _⟩
      · exact ⟨h2, h3⟩
      · rw [← HT.out] at h1; cases h1
    go_wp2
    go_ret2
    exact HE2.out
  | true =>
    by_cases hr0 : r < 0
    · obtain ⟨rfl, rfl⟩ : l = [] ∧ b = false := by
        rcases HV.out with ⟨_, h2, h3⟩ | ⟨T, _, _, h1, _⟩
        · exact ⟨h2, h3⟩
        · omega
      go_wp2
      go_ret2
      exact HE2.out
    · obtain ⟨T, hf, hl, rfl⟩ : ∃ T, Fine F s T ∧ l = places (fun x => decide (x ≤ r)) (lens F.t.con T) F.t.R.length ∧ b = true := by
        rcases HV.out with ⟨h1, _, _⟩ | ⟨T, hf, _, _, h2, h3⟩
        · rcases h1 with h1 | h1
          · rw [← HT.out] at h1; cases h1
          · exact absurd h1 hr0
        · exact ⟨T, hf, h2, h3⟩
      have HL := Lib.hid hl
      have hsz := good_sizes hf.good
      have hni : (F.t.R.length : Int) ≤ 7 := by omega
      have HFI := Lib.hid hf
      obtain ⟨n, hn⟩ : ∃ n, n = F.t.R.length := ⟨_, rfl⟩
      have HNN := Lib.hid hn
      have HO2 : Hid (W1.ownsRow wA.heap.size 3 1 (.slice (some ⟨w.heap.size + 1, 0, none⟩) 0 0) 0 (iv [])) := Lib.hid (by have := HO1.out; rw [hszw.out] at this ⊢; exact this)
      have hszB := HB01.out.size
      have y1 : W1.cell? ⟨w.heap.size, 1, none⟩ = some (.slice F.t.a n F.t.c) := by rw [hn]; exact (HBX.out.on hb01).c1
      rw [← hn] at hni
      clear hf hl hsz hn hb1 hb01
      go_wp2
      go_loopw [8, 9] (fun out i wr => ∃ k : Nat, k ≤ n ∧ i = .int .i64 k ∧ wr.ownsRow wA.heap.size 3 1 out (places (fun x => decide (x ≤ r)) (lens F.t.con T) k).length (iv (places (fun x => decide (x ≤ r)) (lens F.t.con T) k)) ∧ Below wA.heap.size wA wr) (fun _ i _ => n - (intOf i).toNat)
      case atStart => exact ⟨0, Nat.zero_le _, rfl, HO2.out, HB01.out⟩
      case round =>
        obtain ⟨k, hk, rfl, hown0, hnx⟩ := hrel
        clear y1
        have y0 := (HBX.out.on hnx).c0
        have y1 : wr.cell? ⟨w.heap.size, 1, none⟩ = some (.slice F.t.a n F.t.c) := by rw [HNN.out]; exact (HBX.out.on hnx).c1
        by_cases hlt : k < n
        · have hlti : (k : Int) < (n : Int) := by omega
          have hltR : k < F.t.R.length := by rw [← HNN.out]; exact hlt
          obtain ⟨x, hx⟩ : ∃ x, x = F.t.R[k].l.getD (near F.t.R[k].l T) 0 := ⟨_, rfl⟩
          have cn := l2Nearest_any F s T k wr (HFA.out.on hnx) (HSA.out.on hnx) HFI.out.good HFI.out.set HFI.out.some HFI.out.lt hltR
          rw [← hx, show F.val = .agg #[F.o.val, .slice F.t.a n F.t.c] by rw [HNN.out]; rfl] at cn
          have CN := Lib.hid cn
          have HX : Hid ((lens F.t.con T).getD k 0 = x) := Lib.hid (by rw [getD_at (by rw [lens_length]; exact hltR), lens_at F T hltR, hx])
          obtain ⟨P, hP⟩ : ∃ P : Int → Bool, P = fun x => decide (x ≤ r) := ⟨_, rfl⟩
          obtain ⟨L, hLL⟩ : ∃ L, L = lens F.t.con T := ⟨_, rfl⟩
          rw [← hLL] at HX hown0
          rw [← hP, ← hLL]
          rw [← hP] at hown0
          have HO := Lib.hid hown0
          have HN := Lib.hid hnx
          have HPP := Lib.hid hP
          have HLL := Lib.hid hLL
          have hszr := hnx.size
          have hpl := places_len P L k
          rw [show F.t.val = .slice F.t.a n F.t.c by rw [HNN.out]; rfl] at *
          clear hx cn hown0 hnx hP hLL
          go_wp2_with fail
          refine (show Calls _ _ _ _ _ from CN.out).mono ?_
          rintro e W2 ⟨rfl, hb2⟩
          have hnx1 := HN.out.trans (hb2.mono hszr)
          have hown := owns_below HO.out hb2
          have hsz1 := hb2.size
          clear hb2 y0 y1
          by_cases hxr : x ≤ r
          · have HE : Hid (places P L (k + 1) = places P L k ++ [(k : Int)]) := Lib.hid (places_yes (by rw [HX.out, HPP.out]; simpa using hxr))
            have HX2 := Lib.hid hnx1
            clear hnx1
            go_wp2_with (at_builtin; refine wpList_append_own _ rfl _ _ 22 rfl wA.heap.size 3 i0 (.int .i64 0) 1 8 Try.underlying22 hi hz0 hz1 hz2 rfl (by decide) _ _ _ rfl (hown.alloc _) ⟨W2.heap.size, 0, none⟩ 1 1 [.int .i64 (k : Int)] rfl rfl (one_cell _ _ _) (by simp [Value.oneCell']) (by unfold maxLen; omega) (by omega) (by simp; omega) ?_; intro v' w1 hown' hgrow _)
            have R1 : w1.ownsRow wA.heap.size 3 1 v' (places P L (k + 1)).length (iv (places P L (k + 1))) := by rw [HE.out]; exact own_snoc rfl hown'
            have R2 : Below wA.heap.size wA w1 := (HX2.out.alloc (by omega) _).grown hgrow (by simp; omega) (fun j hj => (hown.lt j hj).1)
            clear hown' hgrow hown
            go_wp2
            go_roundw
            case rel => exact ⟨k + 1, by omega, by go_num, R1, R2⟩
            case measure => simp [intOf]; omega
          · have HE : Hid (places P L (k + 1) = places P L k) := Lib.hid (places_no (by rw [HX.out, HPP.out]; simpa using hxr))
            have HOW := Lib.hid hown
            clear hown
            go_wp2
            go_roundw
            case rel => exact ⟨k + 1, by omega, by go_num, by rw [HE.out]; exact HOW.out, hnx1⟩
            case measure => simp [intOf]; omega
        · obtain rfl : k = n := by omega
          go_wp2
          go_ret2
          rw [HL.out, ← HNN.out]
          exact ints_end rfl hown0 hbA.size (hbA.trans (hnx.mono hbA.size))

theorem clientsWithin_pair (F : Fld) (s : Row) (r : Int) (_ : (Lit.int .i64 r).wf = true) (_ : F.Small) (_ : s.l.length ≤ 1048576) : ∃ (l : List Int) (b : Bool) (_ : l.length ≤ 1048576),
    (∀ (G : Fld) (t : Row) (W : World), G.At W → t.At W → G.Like F → t.l = s.l → Calls Try.prog 23 #[G.val, .slice t.a t.l.length t.c, .int .i64 r] W (PInts l b W)) ∧
    (∀ (G : Fld) (t : Row) (W : World), G.At W → t.At W → G.Like F → t.l = s.l → Calls Try.prog 24 #[G.val, .slice t.a t.l.length t.c, .int .i64 r] W (PInts l b W)) := by
  obtain ⟨l, b, h, hl⟩ := withins_some F s r
  exact ⟨l, b, hl, fun G t W hG ht hl hs => specWithin_any G t r W hG ht l b (withins_like h hl hs), fun G t W hG ht hl hs => implWithin_any G t r W hG ht l b (withins_like h hl hs)⟩
end Go.Proofs.Ythabpdfbpdokjaa
