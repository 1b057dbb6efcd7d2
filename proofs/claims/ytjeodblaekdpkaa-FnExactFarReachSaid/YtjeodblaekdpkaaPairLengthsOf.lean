/- Both sides of LengthsOf answer alike. Condition: the Field reads as such. -/
import Derived.Test.YtjeodblaekdpkaaConcatI
import Derived.Test.YtjeodblaekdpkaaPairIsMetric
import Derived.Test.YtjeodblaekdpkaaPost
namespace Go.Proofs.Ytjeodblaekdpkaa
open Go.RowKit Go.Shelf

theorem putAll_snoc (P : List Int) (x : Int) : putAll (P ++ [x]) = putS (putAll P) x := by unfold putAll; rw [List.foldl_append]; rfl
theorem putAll_size (P : List Int) : (putAll P).length ≤ P.length := by have := putAll_len P []; simpa [putAll] using this
def lensAll (F : Fld) : List Int := putAll F.t.con.flatten
theorem lensAll_like {F G : Fld} (h : F.Like G) : lensAll F = lensAll G := by unfold lensAll; rw [h.2]
theorem con_small {F : Fld} (hg : F.good = true) : ∀ l ∈ F.t.con, l.length ≤ 7 := fun l hl => by
  obtain ⟨r, hr, rfl⟩ := List.mem_map.1 (show l ∈ F.t.R.map Row.l from hl)
  rw [(good_row hg hr).1]; exact (good_sizes hg).2.1
theorem flat_small {F : Fld} (hg : F.good = true) : F.t.con.flatten.length ≤ 49 := by
  have h1 := tot_small (con_small hg)
  have h2 := good_sizes hg
  rw [con_length] at h1
  rw [flat_len]; omega
theorem lensAll_len {F : Fld} (hg : F.good = true) : (lensAll F).length ≤ 49 := Nat.le_trans (putAll_size _) (flat_small hg)

def Lens (F : Fld) (l : List Int) (b : Bool) : Prop := (F.good = false ∧ l = [] ∧ b = false) ∨ (F.good = true ∧ l = lensAll F ∧ b = true)
theorem lens_some (F : Fld) : ∃ l b, Lens F l b ∧ l.length ≤ 1048576 := by
  by_cases h : F.good = true
  · exact ⟨_, _, .inr ⟨h, rfl, rfl⟩, by have := lensAll_len h; omega⟩
  · exact ⟨_, _, .inl ⟨by simpa using h, rfl, rfl⟩, by simp⟩
theorem lens_like {F G : Fld} {l : List Int} {b : Bool} (h : Lens F l b) (hl : G.Like F) : Lens G l b := by
  unfold Lens at *
  rw [hl.good, lensAll_like hl]; exact h

set_option maxHeartbeats 1000000 in
theorem implLens_any (F : Fld) (w : World) (hF : F.At w) (l : List Int) (b : Bool) (hv : Lens F l b) :
    Calls Try.prog 60 #[F.val] w (PInts l b w) := by
  obtain ⟨wA, hA, hbA, bx, hFA, hszA⟩ := laid_fld F w 29 hF
  have HFA := Lib.hid hFA
  have HBX := Lib.hid bx
  have HA := Lib.hid hA
  have HV := Lib.hid hv
  obtain ⟨g, hg⟩ : ∃ g, g = F.good := ⟨_, rfl⟩
  have CT := Lib.hid (by have := implIsField_any F wA hFA; rw [← hg] at this; exact this)
  have HG := Lib.hid hg
  have x0 := bx.c0
  have x1 := bx.c1
  rw [hA] at x0 x1
  clear hF hA hFA bx hg hv
  show Calls _ _ #[.agg #[F.o.val, F.t.val]] w _
  go_enter Try.func60, Try.ntmps60
  go_wp2_with fail
  rw [show w.alloc (Obj.cells #[F.o.val, F.t.val] 29) = wA from HA.out.symm]
  refine (show Calls _ _ _ _ _ from CT.out).mono ?_
  rintro e W1 ⟨rfl, hb1⟩
  have hbw := hbA.trans (hb1.mono hbA.size)
  have HEND : Hid (PInts [] false w (.returned (.tuple #[.slice (some ⟨W1.heap.size, 0, none⟩) 0 0, .bool false])) (W1.alloc (.cells #[] 3))) := Lib.hid (ints_end rfl (empty_own W1) hbw.size (hbw.trans ((below_alloc W1 _).mono hbw.size)))
  have HBW := Lib.hid hbw
  clear x0 x1 hbw
  cases g with
  | false =>
    obtain ⟨rfl, rfl⟩ : l = [] ∧ b = false := by
      rcases HV.out with ⟨_, h⟩ | ⟨h, _⟩
      · exact h
      · rw [← HG.out] at h; cases h
    go_wp2
    go_ret2
    exact HEND.out
  | true =>
    obtain ⟨hl, rfl⟩ : l = lensAll F ∧ b = true := by
      rcases HV.out with ⟨h, _⟩ | ⟨_, h⟩
      · rw [← HG.out] at h; cases h
      · exact h
    have HL : Hid (l = Lib.compact (sortA F.t.con.flatten)) := Lib.hid (by rw [hl, compact_put]; rfl)
    have hsz := good_sizes HG.out.symm
    have CC := Lib.hid (concatI_any F.t W1 (HFA.out.on hb1).2 hsz.2.2 (fun r hr => by rw [(good_row HG.out.symm hr).1]; exact hsz.2.1))
    have hfl := flat_small HG.out.symm
    have y0 := (HBX.out.on hb1).c0
    have y1 : W1.cell? ⟨w.heap.size, 1, none⟩ = some (.slice F.t.a F.t.R.length F.t.c) := (HBX.out.on hb1).c1
    clear hl hb1 hsz
    go_wp2_with fail
    refine (show Calls _ _ _ _ _ from CC.out).mono ?_
    rintro e W2 ⟨t, rfl, htl, hto, hti, hb2⟩
    have htn : t.l.length ≤ 49 := by rw [htl]; exact hfl
    have CS := Lib.hid (sortRow_any t W1.heap.size W2 hto hti (by omega) hb2.size)
    have HTL := Lib.hid htl
    have HB2 := Lib.hid hb2
    clear htl hto hti hb2 y0 y1
    go_wp2_with fail
    refine (show Calls _ _ _ _ _ from CS.out).mono ?_
    rintro e W3 ⟨rfl, hso, hsi, hb3⟩
    have hsl3 : (sortA t.l).length = t.l.length := sortA_len _
    have hsz23 := Nat.le_trans HB2.out.size hb3.size
    have CP := Lib.hid (by
      have := compactRow_any ⟨t.a, t.c, sortA t.l⟩ W1.heap.size W3 hso hsi (by simp only; rw [hsl3]; omega) hsz23
      simp only at this
      rw [hsl3] at this; exact this)
    have HB3 := Lib.hid hb3
    clear hso hsi hb3 hsl3
    go_wp2_with fail
    refine (show Calls _ _ _ _ _ from CP.out).mono ?_
    rintro e W4 ⟨c, rfl, hcl4, hco, hci, hb4⟩
    have HC4 := Lib.hid hcl4
    have HB4 := Lib.hid hb4
    clear hcl4 hb4
    go_wp2
    go_ret2
    exact ⟨c, rfl, by rw [HC4.out, HL.out, HTL.out], hco, hci.wide HBW.out.size (Nat.le_refl _), HBW.out.trans (((HB2.out.trans HB3.out).trans HB4.out).mono HBW.out.size)⟩

set_option maxRecDepth 16000 in
set_option maxHeartbeats 4000000 in
theorem l5Lengths_any (F : Fld) (w : World) (hF : F.At w) (hg : F.good = true) :
    Calls Try.prog 57 #[F.val] w fun e w' => ∃ t : Row, e = .returned (.slice t.a t.l.length t.c) ∧ t.l = lensAll F ∧ t.Own 3 w' ∧ t.In w.heap.size w'.heap.size w' ∧ Below w.heap.size w w' := by
  obtain ⟨wA, hA, hbA, bx, hFA, hszA⟩ := laid_fld F w 29 hF
  have HFA := Lib.hid hFA
  have HBX := Lib.hid bx
  have HA := Lib.hid hA
  have hsz := good_sizes hg
  obtain ⟨n, hn⟩ : ∃ n, n = F.t.R.length := ⟨_, rfl⟩
  have HN := Lib.hid hn
  have hni : (n : Int) ≤ 7 := by omega
  have H0 : Hid (LRow wA.heap.size (wA.alloc (.cells #[] 3)) (.slice (some ⟨w.heap.size + 1, 0, none⟩) 0 0) [] (w.heap.size + 1) 0) := Lib.hid ⟨rfl, by have := empty_own wA; rw [hszA] at this ⊢; exact this⟩
  have HB0 := Lib.hid (below_alloc wA (.cells #[] 3))
  have HFS := Lib.hid (flat_small hg)
  have HCS := Lib.hid (con_small hg)
  have HCL : Hid (F.t.con.length = n) := Lib.hid (by rw [con_length, hn])
  have HGD := Lib.hid hg
  have hwA := hbA.size
  -- any part of the lengths is small
  have HSM : Hid (∀ j a (l : List Int), (hj : j < F.t.con.length) → F.t.con[j] = l → (putAll ((F.t.con.take j).flatten ++ l.take a)).length ≤ 1048576) := Lib.hid fun j a l hj hl => by
    have h1 := putAll_size ((F.t.con.take j).flatten ++ l.take a)
    have h2 := tot_small (d := F.t.con.take j) (fun l hl => HCS.out l (List.mem_of_mem_take hl))
    have h3 := HCS.out l (by rw [← hl]; exact List.getElem_mem _)
    rw [List.length_append, flat_len] at h1
    rw [List.length_take] at h1 h2
    have := HCL.out
    omega
  clear hF hA bx hFA hg hsz hn hszA
  show Calls _ _ #[.agg #[F.o.val, F.t.val]] w _
  go_enter Try.func57, Try.ntmps57
  go_wp2
  rw [show w.alloc (Obj.cells #[F.o.val, F.t.val] 29) = wA from HA.out.symm]
  go_loopw [3, 4, 5] (fun out jv _ wr => ∃ j g cap : Nat, j ≤ n ∧ jv = .int .i64 j ∧ out = .slice (some ⟨g, 0, none⟩) (putAll (F.t.con.take j).flatten).length cap ∧ Hid (LRow wA.heap.size wr out (putAll (F.t.con.take j).flatten) g cap) ∧ Below wA.heap.size wA wr) (fun _ jv _ _ => n - (intOf jv).toNat)
  case atStart => exact ⟨0, _, _, Nat.zero_le _, rfl, rfl, H0, HB0.out⟩
  case round =>
    obtain ⟨j, g, cap, hj, rfl, rfl, HL, hnx⟩ := hrel
    have HNX := Lib.hid hnx
    have y1 : wr.cell? ⟨w.heap.size, 1, none⟩ = some (.slice F.t.a n F.t.c) := by rw [HN.out]; exact (HBX.out.on hnx).c1
    by_cases hlt : j < n
    · have hlti : (j : Int) < (n : Int) := by omega
      have hjR : j < F.t.R.length := by rw [← HN.out]; exact hlt
      have hjc : j < F.t.con.length := by rw [HCL.out]; exact hlt
      obtain ⟨r, hr⟩ : ∃ r, r = F.t.R[j] := ⟨_, rfl⟩
      have hrl : F.t.con[j] = r.l := by rw [con_at F.t hjR, hr]
      have HRL := Lib.hid hrl
      have HRA := Lib.hid (HFA.out.2.2 r (by rw [hr]; exact List.getElem_mem _))
      rcases HFA.out.2.1.2.2 with h3 | ⟨bt, ot, hta, hbt, hct⟩
      · have h3' := congrArg List.length h3; rw [tv_length, List.length_nil] at h3'; omega
      have HRC : Hid (wA.cell? ⟨bt, ot + j, none⟩ = some (.slice r.a r.l.length r.c)) := Lib.hid (by rw [hr]; exact hct j _ (tv_at hjR))
      have HTA := Lib.hid hta
      have hr7 : r.l.length ≤ 7 := by rw [← hrl]; exact HCS.out _ (List.getElem_mem _)
      have hri : (r.l.length : Int) ≤ 7 := by omega
      have H00 : Hid (LRow wA.heap.size wr (.slice (some ⟨g, 0, none⟩) (putAll ((F.t.con.take j).flatten ++ r.l.take 0)).length cap) (putAll ((F.t.con.take j).flatten ++ r.l.take 0)) g cap) := Lib.hid (by rw [List.take_zero, List.append_nil]; exact HL.out)
      have HE0 : Hid ((putAll (F.t.con.take j).flatten).length = (putAll ((F.t.con.take j).flatten ++ r.l.take 0)).length) := Lib.hid (by rw [List.take_zero, List.append_nil])
      rw [HE0.out]
      clear hr hrl hta hct hnx hjR
      go_wp2
      go_loopw [3, 5] (fun out av wi => ∃ a g2 cap2 : Nat, a ≤ r.l.length ∧ av = .int .i64 a ∧ out = .slice (some ⟨g2, 0, none⟩) (putAll ((F.t.con.take j).flatten ++ r.l.take a)).length cap2 ∧ Hid (LRow wA.heap.size wi out (putAll ((F.t.con.take j).flatten ++ r.l.take a)) g2 cap2) ∧ Below wA.heap.size wA wi) (fun _ av _ => r.l.length - (intOf av).toNat)
      case atStart => exact ⟨0, g, cap, Nat.zero_le _, rfl, rfl, H00, HNX.out⟩
      case round =>
        obtain ⟨a, g2, cap2, ha, rfl, rfl, HL2, hnx2⟩ := hrel
        have HN2 := Lib.hid hnx2
        clear y1
        have y1 : wr.cell? ⟨w.heap.size, 1, none⟩ = some (.slice (some ⟨bt, ot, none⟩) n F.t.c) := by rw [HN.out, ← HTA.out]; exact (HBX.out.on hnx2).c1
        have hcr : wr.cell? ⟨bt, ot + j, none⟩ = some (.slice r.a r.l.length r.c) := (hnx2.cell (p := ⟨bt, ot + j, none⟩) hbt).trans HRC.out
        obtain ⟨L, hL⟩ : ∃ L, L = putAll ((F.t.con.take j).flatten ++ r.l.take a) := ⟨_, rfl⟩
        rw [← hL] at HL2 ⊢
        have HLL := Lib.hid hL
        by_cases hlta : a < r.l.length
        · have hltai : (a : Int) < (r.l.length : Int) := by omega
          rcases HRA.out.2.2 with h3 | ⟨b, o, hra, hb, hcell⟩
          · have h3' := congrArg List.length (iv_nil h3); rw [List.length_nil] at h3'; omega
          obtain ⟨x, hx⟩ : ∃ x, x = r.l[a] := ⟨_, rfl⟩
          have hcx : wr.cell? ⟨b, o + a, none⟩ = some (.int .i64 x) := (hnx2.cell (p := ⟨b, o + a, none⟩) hb).trans (by rw [hx]; exact hcell a _ (iv_at hlta))
          rw [hra] at hcr
          have hL49 : L.length ≤ 1048576 := by rw [hL]; exact HSM.out j a r.l hjc HRL.out
          have CP := Lib.hid (l1PutS_any wA.heap.size g2 cap2 L x wr HL2.out.own hL49 (by rw [hL]; exact putAll_rises _) hnx2.size)
          have HST : Hid (putAll ((F.t.con.take j).flatten ++ r.l.take (a + 1)) = putS L x) := Lib.hid (by rw [List.take_succ_eq_append_getElem hlta, ← List.append_assoc, putAll_snoc, ← hL, hx])
          clear hL hx hcell hra hnx2
          go_wp2_with fail
          refine (show Calls _ _ _ _ _ from CP.out).mono ?_
          rintro e W8 ⟨v8, g8, cap8, rfl, hl8, hb8⟩
          have HL8 : Hid (LRow wA.heap.size W8 v8 (putAll ((F.t.con.take j).flatten ++ r.l.take (a + 1))) g8 cap8) := Lib.hid (by rw [HST.out]; exact hl8)
          have HV8 := Lib.hid HL8.out.val
          have HB8 := Lib.hid (HN2.out.trans (hb8.mono HN2.out.size))
          clear hl8 hb8 y1 hcr hcx
          go_wp2
          go_roundw
          case rel => exact ⟨a + 1, g8, cap8, by omega, by go_num, HV8.out, HL8, HB8.out⟩
          case measure => simp [intOf]; omega
        · have hae : a = r.l.length := by omega
          have HE : Hid (putAll (F.t.con.take (j + 1)).flatten = L) := Lib.hid (by rw [flat_step hjc, HRL.out, hL, hae, List.take_length])
          have hai : ¬ (a : Int) < (r.l.length : Int) := by omega
          clear hL hae hnx2
          go_wp2
          go_roundw
          case rel => exact ⟨j + 1, g2, cap2, by omega, by go_num, by rw [HE.out], by rw [HE.out]; exact HL2, HN2.out⟩
          case measure => simp [intOf]; omega
    · obtain rfl : j = n := by omega
      have hfull : F.t.con.take j = F.t.con := List.take_of_length_le (by rw [HCL.out]; exact Nat.le_refl _)
      rw [hfull] at HL ⊢
      obtain ⟨t, ht, htl, hto, hti⟩ := HL.out.row
      have HTL := Lib.hid htl
      have HT9 := Lib.hid ht
      clear ht htl hfull
      go_wp2
      go_ret
      exact ⟨t, congrArg Ending.returned HT9.out, HTL.out, hto, hti.wide hwA (Nat.le_refl _), hbA.trans (hnx.mono hwA)⟩

end Go.Proofs.Ytjeodblaekdpkaa
