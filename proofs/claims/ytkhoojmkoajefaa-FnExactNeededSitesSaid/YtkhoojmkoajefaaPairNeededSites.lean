/- Both sides of NeededSites answer alike. Condition: the Field reads as such. -/
import Derived.Test.YtkhoojmkoajefaaReplaces
import Derived.Test.YtkhoojmkoajefaaPairServedBy
namespace Go.Proofs.Ytkhoojmkoajefaa
open Go.RowKit

/-- What NeededSites answers. -/
def Needs (F : Fld) (l : List Int) (b : Bool) : Prop := (F.good = false ∧ l = [] ∧ b = false) ∨ (F.good = true ∧ l = needTo F.o.l F.t.con F.o.l.length ∧ b = true)

set_option maxHeartbeats 2000000 in
theorem specNeeded_any (F : Fld) (w : World) (hF : F.At w) (l : List Int) (b : Bool) (hv : Needs F l b) :
    Calls Try.prog 48 #[F.val] w (PInts l b w) := by
  obtain ⟨i0, hi, hz0, hz1, hz2⟩ := info_parts infoInt
  obtain ⟨wA, hA, hbA, bx, hFA, hszA⟩ := laid_fld F w 28 hF
  have HFA := Lib.hid hFA
  have HBX := Lib.hid bx
  have hown0 := empty_own wA
  have hb0 := below_alloc wA (.cells #[] 3)
  obtain ⟨w0, hw0⟩ : ∃ u, u = wA.alloc (.cells #[] 3) := ⟨_, rfl⟩
  rw [← hw0] at hown0 hb0
  have HW0 : Hid (w0 = (w.alloc (Obj.cells #[F.o.val, F.t.val] 28)).alloc (.cells #[] 3)) := Lib.hid (by rw [hw0, hA])
  have H0 := Lib.hid hown0
  have CT := Lib.hid (l2Good_any F w0 (HFA.out.on hb0))
  have hszw : Hid (wA.heap.size = w.heap.size + 1) := Lib.hid hszA
  have y00 := (HBX.out.on hb0).c0
  have y01 := (HBX.out.on hb0).c1
  have Y0 := Lib.hid (show ((w.alloc (Obj.cells #[F.o.val, F.t.val] 28)).alloc (.cells #[] 3)).cell? ⟨w.heap.size, 0, none⟩ = some F.o.val by rw [← HW0.out]; exact y00)
  have Y1 := Lib.hid (show ((w.alloc (Obj.cells #[F.o.val, F.t.val] 28)).alloc (.cells #[] 3)).cell? ⟨w.heap.size, 1, none⟩ = some F.t.val by rw [← HW0.out]; exact y01)
  have z0 := Y0.out
  have z1 := Y1.out
  clear hF hA hFA bx hw0 hown0 hszA y00 y01
  show Calls _ _ #[.agg #[F.o.val, F.t.val]] w _
  go_enter Try.func48, Try.ntmps48
  go_wp2_with fail
  rw [← HW0.out]
  refine (show Calls _ _ _ _ _ from CT.out).mono ?_
  rintro e W1 ⟨rfl, hb1⟩
  have hb01 := hb0.trans (hb1.mono hb0.size)
  have HO1 := Lib.hid (owns_below H0.out hb1)
  clear z0 z1
  rcases hv with ⟨hv, rfl, rfl⟩ | ⟨hv, rfl, rfl⟩
  · rw [hv]
    clear hv
    go_wp2
    go_ret2
    exact ints_end rfl (by have := HO1.out; rw [hszw.out] at this; exact this) (by omega) (hbA.trans (hb01.mono hbA.size))
  rw [hv]
  have hsz := good_sizes hv
  have HGD := Lib.hid hv
  have hni : (F.o.l.length : Int) ≤ 7 := by omega
  clear hv
  go_wp2
  go_loopw [4, 5, 6, 7] (fun out i _ _ wr => ∃ k : Nat, k ≤ F.o.l.length ∧ i = .int .i64 k ∧ wr.ownsRow wA.heap.size 3 1 out (needTo F.o.l F.t.con k).length (iv (needTo F.o.l F.t.con k)) ∧ Below wA.heap.size wA wr) (fun _ i _ _ _ => F.o.l.length - (intOf i).toNat)
  case atStart => exact ⟨0, Nat.zero_le _, rfl, by have := HO1.out; rw [hszw.out] at this ⊢; exact this, hb01⟩
  case round =>
    obtain ⟨k, hk, rfl, hown0, hnx⟩ := hrel
    have y0 : wr.cell? ⟨w.heap.size, 0, none⟩ = some (.slice F.o.a F.o.l.length F.o.c) := (HBX.out.on hnx).c0
    by_cases hlt : k < F.o.l.length
    · have hlti : (k : Int) < (F.o.l.length : Int) := by omega
      have HO := Lib.hid hown0
      have HN := Lib.hid hnx
      have hszr := hnx.size
      clear hown0 hnx
      go_wp2
      go_loopw [6, 7] (fun nv i wr2 => ∃ (j : Nat) (v : Bool), j ≤ F.o.l.length ∧ i = .int .i64 j ∧ nv = .bool v ∧ v = freeTo F.o.l F.t.con k j ∧ Below wr.heap.size wr wr2) (fun _ i _ => F.o.l.length - (intOf i).toNat)
      case atStart => exact ⟨0, true, Nat.zero_le _, rfl, rfl, rfl, Below.refl _ _⟩
      case round =>
        obtain ⟨j, v, hj, rfl, rfl, hvj, hni2⟩ := hrel
        clear y0
        have hnx2 := HN.out.trans (hni2.mono hszr)
        have x0 : wr.cell? ⟨w.heap.size, 0, none⟩ = some (.slice F.o.a F.o.l.length F.o.c) := (HBX.out.on hnx2).c0
        have x1 : wr.cell? ⟨w.heap.size, 1, none⟩ = some F.t.val := (HBX.out.on hnx2).c1
        have HVJ := Lib.hid hvj
        clear hvj
        by_cases hltj : j < F.o.l.length
        · have hltji : (j : Int) < (F.o.l.length : Int) := by omega
          have HST := Lib.hid (free_step F.o.l F.t.con k j)
          cases v with
          | false =>
            go_wp2
            go_roundw
            case rel => exact ⟨j + 1, false, by omega, by go_num, rfl, by rw [HST.out, ← HVJ.out]; rfl, hni2⟩
            case measure => simp [intOf]; omega
          | true =>
            by_cases hkj : k = j
            · have hab : ((k : Int) == (j : Int)) = true := by rw [nat_eqB, hkj]; simp
              have HRS : Hid (repB F.o.l F.t.con k j = false) := Lib.hid (by rw [hkj]; exact rep_self _ _ _)
              clear hkj
              go_wp2
              go_roundw
              case rel => exact ⟨j + 1, true, by omega, by go_num, rfl, by rw [HST.out, ← HVJ.out, HRS.out]; rfl, hni2⟩
              case measure => simp [intOf]; omega
            · have hab : ((k : Int) == (j : Int)) = false := by rw [nat_eqB]; simp [hkj]
              obtain ⟨r, hr⟩ : ∃ r, r = repB F.o.l F.t.con k j := ⟨_, rfl⟩
              have CR := l2Replaces_any F k j wr (HFA.out.on hnx2) HGD.out hlt hltj
              rw [← hr] at CR
              have CR1 := Lib.hid CR
              have HR := Lib.hid hr
              have HN2 := Lib.hid hni2
              have hsz2 := hni2.size
              clear CR hr hkj hnx2 hni2
              go_wp2_with fail
              refine (show Calls _ _ _ _ _ from CR1.out).mono ?_
              rintro e W3 ⟨rfl, hb3⟩
              have R2 := HN2.out.trans (hb3.mono hsz2)
              clear hb3 x0 x1
              go_wp2
              go_roundw
              case rel => exact ⟨j + 1, !r, by omega, by go_num, by first | rfl | simp, by rw [HST.out, ← HVJ.out, ← HR.out]; rfl, R2⟩
              case measure => simp [intOf]; omega
        · obtain rfl : j = F.o.l.length := by omega
          have HNS := Lib.hid (need_step F.o.l F.t.con k)
          have hown := owns_below HO.out hni2
          have hsz2 := hni2.size
          have hnl := need_len F.o.l F.t.con k
          cases v with
          | false =>
            have HE : Hid (needTo F.o.l F.t.con (k + 1) = needTo F.o.l F.t.con k) := Lib.hid (by rw [HNS.out, ← HVJ.out]; simp)
            have HOW := Lib.hid hown
            clear hown hnl
            go_wp2
            go_roundw
            case rel => exact ⟨k + 1, by omega, by go_num, by rw [HE.out]; exact HOW.out, hnx2⟩
            case measure => simp [intOf]; omega
          | true =>
            have HE : Hid (needTo F.o.l F.t.con (k + 1) = needTo F.o.l F.t.con k ++ [(k : Int)]) := Lib.hid (by rw [HNS.out, ← HVJ.out]; simp)
            have HX2 := Lib.hid hnx2
            clear hnx2 hni2
            go_wp2_with (at_builtin; refine wpList_append_own _ rfl _ _ 22 rfl wA.heap.size 3 i0 (.int .i64 0) 1 8 Try.underlying22 hi hz0 hz1 hz2 rfl (by decide) _ _ _ rfl (hown.alloc _) ⟨wr.heap.size, 0, none⟩ 1 1 [.int .i64 (k : Int)] rfl rfl (one_cell _ _ _) (by simp [Value.oneCell']) (by unfold maxLen; omega) (by omega) (by simp; omega) ?_; intro v' w1 hown' hgrow _)
            have R1 : w1.ownsRow wA.heap.size 3 1 v' (needTo F.o.l F.t.con (k + 1)).length (iv (needTo F.o.l F.t.con (k + 1))) := by rw [HE.out]; exact own_snoc rfl hown'
            have R2 : Below wA.heap.size wA w1 := (HX2.out.alloc (by omega) _).grown hgrow (by simp; omega) (fun j hj => (hown.lt j hj).1)
            clear hown' hgrow hown
            go_wp2
            go_roundw
            case rel => exact ⟨k + 1, by omega, by go_num, R1, R2⟩
            case measure => simp [intOf]; omega
    · obtain rfl : k = F.o.l.length := by omega
      go_wp2
      go_ret2
      exact ints_end rfl hown0 hbA.size (hbA.trans (hnx.mono hbA.size))
set_option maxHeartbeats 2000000 in
theorem implNeeded_any (F : Fld) (w : World) (hF : F.At w) (l : List Int) (b : Bool) (hv : Needs F l b) :
    Calls Try.prog 49 #[F.val] w (PInts l b w) := by
  obtain ⟨i0, hi, hz0, hz1, hz2⟩ := info_parts infoInt
  obtain ⟨wA, hA, hbA, bx, hFA, hszA⟩ := laid_fld F w 28 hF
  have HFA := Lib.hid hFA
  have HBX := Lib.hid bx
  have hown0 := empty_own wA
  have hb0 := below_alloc wA (.cells #[] 3)
  obtain ⟨w0, hw0⟩ : ∃ u, u = wA.alloc (.cells #[] 3) := ⟨_, rfl⟩
  rw [← hw0] at hown0 hb0
  have HW0 : Hid (w0 = (w.alloc (Obj.cells #[F.o.val, F.t.val] 28)).alloc (.cells #[] 3)) := Lib.hid (by rw [hw0, hA])
  have H0 := Lib.hid hown0
  have CT := Lib.hid (implIsField_any F w0 (HFA.out.on hb0))
  have hszw : Hid (wA.heap.size = w.heap.size + 1) := Lib.hid hszA
  have y00 := (HBX.out.on hb0).c0
  have y01 := (HBX.out.on hb0).c1
  have Y0 := Lib.hid (show ((w.alloc (Obj.cells #[F.o.val, F.t.val] 28)).alloc (.cells #[] 3)).cell? ⟨w.heap.size, 0, none⟩ = some F.o.val by rw [← HW0.out]; exact y00)
  have Y1 := Lib.hid (show ((w.alloc (Obj.cells #[F.o.val, F.t.val] 28)).alloc (.cells #[] 3)).cell? ⟨w.heap.size, 1, none⟩ = some F.t.val by rw [← HW0.out]; exact y01)
  have z0 := Y0.out
  have z1 := Y1.out
  clear hF hA hFA bx hw0 hown0 hszA y00 y01
  show Calls _ _ #[.agg #[F.o.val, F.t.val]] w _
  go_enter Try.func49, Try.ntmps49
  go_wp2_with fail
  rw [← HW0.out]
  refine (show Calls _ _ _ _ _ from CT.out).mono ?_
  rintro e W1 ⟨rfl, hb1⟩
  have hb01 := hb0.trans (hb1.mono hb0.size)
  have HO1 := Lib.hid (owns_below H0.out hb1)
  clear z0 z1
  rcases hv with ⟨hv, rfl, rfl⟩ | ⟨hv, rfl, rfl⟩
  · rw [hv]
    clear hv
    go_wp2
    go_ret2
    exact ints_end rfl (by have := HO1.out; rw [hszw.out] at this; exact this) (by omega) (hbA.trans (hb01.mono hbA.size))
  rw [hv]
  have hsz := good_sizes hv
  have HGD := Lib.hid hv
  have hni : (F.o.l.length : Int) ≤ 7 := by omega
  clear hv
  have y00 : W1.cell? ⟨w.heap.size, 0, none⟩ = some (.slice F.o.a F.o.l.length F.o.c) := (HBX.out.on hb01).c0
  go_wp2
  clear y00
  go_loopw [4, 5, 6, 7, 16, 22] (fun out _ _ _ i _ wr => ∃ k : Nat, k ≤ F.o.l.length ∧ i = .int .i64 k ∧ wr.ownsRow wA.heap.size 3 1 out (needTo F.o.l F.t.con k).length (iv (needTo F.o.l F.t.con k)) ∧ Below wA.heap.size wA wr) (fun _ _ _ _ i _ _ => F.o.l.length - (intOf i).toNat)
  case atStart => exact ⟨0, Nat.zero_le _, rfl, by have := HO1.out; rw [hszw.out] at this ⊢; exact this, hb01⟩
  case round =>
    obtain ⟨k, hk, rfl, hown0, hnx⟩ := hrel
    have y0 : wr.cell? ⟨w.heap.size, 0, none⟩ = some (.slice F.o.a F.o.l.length F.o.c) := (HBX.out.on hnx).c0
    by_cases hlt : k < F.o.l.length
    · have hlti : (k : Int) < (F.o.l.length : Int) := by omega
      have HO := Lib.hid hown0
      have HN := Lib.hid hnx
      have hszr := hnx.size
      clear hown0 hnx
      go_wp2
      go_loopw [6, 7, 22] (fun nv _ i wr2 => ∃ (j : Nat) (v : Bool), j ≤ F.o.l.length ∧ i = .int .i64 j ∧ nv = .bool v ∧ (!v) = freeTo F.o.l F.t.con k j ∧ Below wr.heap.size wr wr2) (fun _ _ i _ => F.o.l.length - (intOf i).toNat)
      case atStart => exact ⟨0, false, Nat.zero_le _, rfl, rfl, rfl, Below.refl _ _⟩
      case round =>
        obtain ⟨j, v, hj, rfl, rfl, hvj, hni2⟩ := hrel
        clear y0
        have hnx2 := HN.out.trans (hni2.mono hszr)
        have x0 : wr.cell? ⟨w.heap.size, 0, none⟩ = some (.slice F.o.a F.o.l.length F.o.c) := (HBX.out.on hnx2).c0
        have x1 : wr.cell? ⟨w.heap.size, 1, none⟩ = some F.t.val := (HBX.out.on hnx2).c1
        have HVJ := Lib.hid hvj
        clear hvj
        by_cases hltj : j < F.o.l.length
        · have hltji : (j : Int) < (F.o.l.length : Int) := by omega
          have HST := Lib.hid (free_step F.o.l F.t.con k j)
          cases v with
          | true =>
            go_wp2
            go_roundw
            case rel => exact ⟨j + 1, true, by omega, by go_num, rfl, by rw [HST.out, ← HVJ.out]; rfl, hni2⟩
            case measure => simp [intOf]; omega
          | false =>
            obtain ⟨r, hr⟩ : ∃ r, r = repB F.o.l F.t.con k j := ⟨_, rfl⟩
            have CR := replaces_any F k j wr (HFA.out.on hnx2) HGD.out hlt hltj
            rw [← hr] at CR
            have CR1 := Lib.hid CR
            have HR := Lib.hid hr
            have HN2 := Lib.hid hni2
            have hsz2 := hni2.size
            clear CR hr hnx2 hni2
            go_wp2_with fail
            refine (show Calls _ _ _ _ _ from CR1.out).mono ?_
            rintro e W3 ⟨rfl, hb3⟩
            have R2 := HN2.out.trans (hb3.mono hsz2)
            clear hb3 x0 x1
            go_wp2
            go_roundw
            case rel => exact ⟨j + 1, r, by omega, by go_num, by first | rfl | simp, by rw [HST.out, ← HVJ.out, ← HR.out]; rfl, R2⟩
            case measure => simp [intOf]; omega
        · obtain rfl : j = F.o.l.length := by omega
          have HNS := Lib.hid (need_step F.o.l F.t.con k)
          have hown := owns_below HO.out hni2
          have hsz2 := hni2.size
          have hnl := need_len F.o.l F.t.con k
          cases v with
          | true =>
            have HE : Hid (needTo F.o.l F.t.con (k + 1) = needTo F.o.l F.t.con k) := Lib.hid (by rw [HNS.out, ← HVJ.out]; simp)
            have HOW := Lib.hid hown
            clear hown hnl
            go_wp2
            go_roundw
            case rel => exact ⟨k + 1, by omega, by go_num, by rw [HE.out]; exact HOW.out, hnx2⟩
            case measure => simp [intOf]; omega
          | false =>
            have HE : Hid (needTo F.o.l F.t.con (k + 1) = needTo F.o.l F.t.con k ++ [(k : Int)]) := Lib.hid (by rw [HNS.out, ← HVJ.out]; simp)
            have HX2 := Lib.hid hnx2
            clear hnx2 hni2
            go_wp2_with (at_builtin; refine wpList_append_own _ rfl _ _ 22 rfl wA.heap.size 3 i0 (.int .i64 0) 1 8 Try.underlying22 hi hz0 hz1 hz2 rfl (by decide) _ _ _ rfl (hown.alloc _) ⟨wr.heap.size, 0, none⟩ 1 1 [.int .i64 (k : Int)] rfl rfl (one_cell _ _ _) (by simp [Value.oneCell']) (by unfold maxLen; omega) (by omega) (by simp; omega) ?_; intro v' w1 hown' hgrow _)
            have R1 : w1.ownsRow wA.heap.size 3 1 v' (needTo F.o.l F.t.con (k + 1)).length (iv (needTo F.o.l F.t.con (k + 1))) := by rw [HE.out]; exact own_snoc rfl hown'
            have R2 : Below wA.heap.size wA w1 := (HX2.out.alloc (by omega) _).grown hgrow (by simp; omega) (fun j hj => (hown.lt j hj).1)
            clear hown' hgrow hown
            go_wp2
            go_roundw
            case rel => exact ⟨k + 1, by omega, by go_num, R1, R2⟩
            case measure => simp [intOf]; omega
    · obtain rfl : k = F.o.l.length := by omega
      go_wp2
      go_ret2
      exact ints_end rfl hown0 hbA.size (hbA.trans (hnx.mono hbA.size))

theorem needs_like {F G : Fld} {l : List Int} {b : Bool} (h : Needs F l b) (hl : G.Like F) : Needs G l b := by
  rcases h with ⟨h1, h2, h3⟩ | ⟨h1, h2, h3⟩
  · exact .inl ⟨hl.good.trans h1, h2, h3⟩
  · exact .inr ⟨hl.good.trans h1, by rw [hl.1, hl.2]; exact h2, h3⟩
theorem needs_some (F : Fld) : ∃ (l : List Int) (b : Bool), Needs F l b ∧ l.length ≤ 1048576 := by
  by_cases h : F.good = true
  · exact ⟨_, _, .inr ⟨h, rfl, rfl⟩, by have := need_len F.o.l F.t.con F.o.l.length; have := good_sizes h; omega⟩
  · exact ⟨_, _, .inl ⟨by simpa using h, rfl, rfl⟩, by simp⟩
theorem neededSites_pair (F : Fld) (_ : F.Small) : ∃ (l : List Int) (b : Bool) (_ : l.length ≤ 1048576),
    (∀ (G : Fld) (W : World), G.At W → G.Like F → Calls Try.prog 48 #[G.val] W (PInts l b W)) ∧
    (∀ (G : Fld) (W : World), G.At W → G.Like F → Calls Try.prog 49 #[G.val] W (PInts l b W)) := by
  obtain ⟨l, b, h, hl⟩ := needs_some F
  exact ⟨l, b, hl, fun G W hG hl => specNeeded_any G W hG l b (needs_like h hl), fun G W hG hl => implNeeded_any G W hG l b (needs_like h hl)⟩
end Go.Proofs.Ytkhoojmkoajefaa
