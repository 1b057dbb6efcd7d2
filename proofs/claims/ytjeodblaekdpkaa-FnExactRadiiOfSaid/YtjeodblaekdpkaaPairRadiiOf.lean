/- Both sides of RadiiOf answer alike. Condition: Field and set read as such. -/
import Derived.Test.YtjeodblaekdpkaaRadii
import Derived.Test.YtjeodblaekdpkaaPairReachOf
import Derived.Test.YtjeodblaekdpkaaPost
import Derived.Deep.OwnRows
import Derived.Deep.RegionLaw
import Derived.Deep.LoopGhost
namespace Go.Proofs.Ytjeodblaekdpkaa
open Go.RowKit Go.Deep

theorem infoIntR : (Try.prog.info? 3).map (fun i => (i.zero, i.size, i.bytes)) = some (some (.int .i64 0), 1, 8) := infoInt
/-- The first i numbers of one list, the others of another one. -/
def mixL (d1 d2 : List Int) (i : Nat) : List Int := d1.take i ++ d2.drop i
theorem mix_len {d1 d2 : List Int} (h : d1.length = d2.length) {i : Nat} (hi : i ≤ d1.length) : (mixL d1 d2 i).length = d1.length := by
  unfold mixL; rw [List.length_append, List.length_take, List.length_drop]; omega
theorem mix_at {d1 d2 : List Int} (h : d1.length = d2.length) {i : Nat} (hi : i < d1.length) : (mixL d1 d2 i)[i]'(by rw [mix_len h (by omega)]; exact hi) = d2[i]'(by omega) := by
  unfold mixL
  rw [List.getElem_append_right (by rw [List.length_take]; omega)]
  simp only [List.length_take, List.getElem_drop]
  congr 1
  omega
theorem mix_step {d1 d2 : List Int} (h : d1.length = d2.length) {i : Nat} (hi : i < d1.length) : mixL d1 d2 (i + 1) = (mixL d1 d2 i).set i d1[i] := by
  unfold mixL
  have e : d2.drop i = d2[i]'(by omega) :: d2.drop (i + 1) := List.drop_eq_getElem_cons (by omega)
  rw [List.set_append_right _ _ (by rw [List.length_take]; omega), List.length_take, show i - min i d1.length = 0 by omega, e, List.set_cons_zero, List.take_succ_eq_append_getElem hi, List.append_assoc]
  rfl
theorem mix_same {d1 d2 : List Int} (h : d1.length = d2.length) {i : Nat} (hi : i < d1.length) (he : d1[i] = d2[i]'(by omega)) : mixL d1 d2 (i + 1) = mixL d1 d2 i := by
  unfold mixL
  have e : d2.drop i = d2[i]'(by omega) :: d2.drop (i + 1) := List.drop_eq_getElem_cons (by omega)
  rw [List.take_succ_eq_append_getElem hi, e, he, List.append_assoc]; rfl
theorem rad_at {F : Fld} {T : List Nat} {k i : Nat} (h : i < T.length) : (radL F T k)[i]'(by rw [radL_len]; exact h) = radS F T T[i] k := by unfold radL; rw [List.getElem_map]
theorem rad_zero (F : Fld) (T : List Nat) : radL F T 0 = List.replicate T.length 0 := by
  unfold radL
  induction T with
  | nil => rfl
  | cons a t ih => rw [List.map_cons, List.length_cons, List.replicate_succ]; congr 1

set_option maxRecDepth 16000 in
set_option maxHeartbeats 4000000 in
theorem specRadii_any (F : Fld) (s : Row) (w : World) (hF : F.At w) (hs : s.At w) (hsm : s.l.length ≤ 1048576) (l : List Int) (b : Bool) (hv : Radii F s l b) :
    Calls Try.prog 10 #[F.val, .slice s.a s.l.length s.c] w (PInts l b w) := by
  obtain ⟨wA, hA, hbA, bx, hFA, hszA⟩ := laid_fld F w 29 hF
  have HSA := Lib.hid (hs.on hbA)
  have HFA := Lib.hid hFA
  have HBX := Lib.hid bx
  have HA := Lib.hid hA
  have hwA := hbA.size
  have CT := Lib.hid (l2Two_any F s wA hFA HSA.out)
  have x0 := bx.c0
  have x1 := bx.c1
  rw [hA] at x0 x1
  clear hF hs hA hFA bx
  show Calls _ _ #[.agg #[F.o.val, F.t.val], _] w _
  rcases hv with ⟨hv, rfl, rfl⟩ | ⟨T, hf, hv, rfl, rfl⟩
  · rw [hv] at CT
    clear hv
    go_enter Try.func10, Try.ntmps10
    go_wp2_with fail
    rw [show w.alloc (Obj.cells #[F.o.val, F.t.val] 29) = wA from HA.out.symm]
    refine (show Calls _ _ _ _ _ from CT.out).mono ?_
    rintro e W1 ⟨rfl, hb1⟩
    have hbw := hbA.trans (hb1.mono hwA)
    have HEND : Hid (PInts [] false w (.returned (.tuple #[.slice (some ⟨W1.heap.size, 0, none⟩) 0 0, .bool false])) (W1.alloc (.cells #[] 3))) := Lib.hid (ints_end rfl (empty_own W1) hbw.size (hbw.trans ((below_alloc W1 _).mono hbw.size)))
    clear x0 x1 hb1 hbw
    go_wp2
    go_ret2
    exact HEND.out
  · rw [hv] at CT
    have hsz := good_sizes hf.good
    have HFI := Lib.hid hf
    have HTQ : Hid (T.length = s.l.length) := Lib.hid (by rw [hf.set, up_length])
    have hqi : (s.l.length : Int) ≤ 1048576 := by omega
    obtain ⟨n, hn⟩ : ∃ n, n = F.t.R.length := ⟨_, rfl⟩
    have HN := Lib.hid hn
    have hni : (n : Int) ≤ 7 := by omega
    have hoi : (F.o.l.length : Int) ≤ 7 := by omega
    have hmk := run_make_row' (P := Try.prog) 22 3 (.int .i64 0) 8 Try.underlying22 infoIntR rfl .i64 .i64 s.l.length (by omega) (by omega)
    have CM := Lib.hid fun x y W => most_any x y W
    clear hv hf hsz hn
    go_enter Try.func10, Try.ntmps10
    go_wp2_with fail
    rw [show w.alloc (Obj.cells #[F.o.val, F.t.val] 29) = wA from HA.out.symm]
    refine (show Calls _ _ _ _ _ from CT.out).mono ?_
    rintro e W1 ⟨rfl, hb1⟩
    obtain ⟨W2, hW2⟩ : ∃ u, u = W1.alloc (.cells (madeCells #[.int .i64 0] s.l.length) 3) := ⟨_, rfl⟩
    have hown2 : W2.ownsRow W1.heap.size 3 1 (.slice (some ⟨W1.heap.size, 0, none⟩) s.l.length s.l.length) s.l.length (iv (radL F T 0)) := by
      rw [hW2]
      have h := World.ownsRow_lit (base := W1.heap.size) (e := 3) (size := 1) W1 (madeCells #[.int .i64 0] s.l.length) s.l.length (Nat.le_refl _) (by unfold maxLen; omega) (by rw [size_madeCells, Nat.mul_one])
      have e1 : (madeCells #[Value.int .i64 0] s.l.length).toList = iv (radL F T 0) := by
        rw [made_row, rad_zero, HTQ.out]
        simp [iv]
      rw [e1] at h; exact h
    have HOW2 := Lib.hid hown2
    have HB2 : Hid (Below W1.heap.size W1 W2) := Lib.hid (by rw [hW2]; exact below_alloc _ _)
    have HW2 := Lib.hid hW2
    have HB1 := Lib.hid hb1
    have hsz1 := hb1.size
    clear x0 x1 hb1 hown2 hW2
    go_wp2
    rw [show W1.alloc (.cells (madeCells #[.int .i64 0] s.l.length) 3) = W2 from HW2.out.symm]
    have HSC : Hid (∀ u, Below wA.heap.size wA u → ∀ i, (hi : i < T.length) → ∃ b o, s.a = some ⟨b, o, none⟩ ∧ u.cell? ⟨b, o + i, none⟩ = some (.int .i64 (T[i] : Int))) := Lib.hid fun u hu i hi => by
      rcases HSA.out.2.2 with h3 | ⟨b, o, ha, hbb, hcell⟩
      · have h3' := congrArg List.length (iv_nil h3); rw [List.length_nil, HFI.out.set, up_length] at h3'; omega
      refine ⟨b, o, ha, (hu.cell (p := ⟨b, o + i, none⟩) hbb).trans ?_⟩
      have h4 : i < (up T).length := by rw [up_length]; exact hi
      have h5 := hcell i (.int .i64 ((up T)[i])) (by rw [HFI.out.set]; exact iv_at h4)
      rw [up_at hi] at h5; exact h5
    go_loopw [7, 8, 9] (fun jv _ _ wr => ∃ j : Nat, j ≤ n ∧ jv = .int .i64 j ∧ wr.ownsRow W1.heap.size 3 1 (.slice (some ⟨W1.heap.size, 0, none⟩) s.l.length s.l.length) s.l.length (iv (radL F T j)) ∧ Below W1.heap.size W1 wr) (fun jv _ _ _ => n - (intOf jv).toNat)
    case atStart => exact ⟨0, Nat.zero_le _, rfl, HOW2.out, HB2.out⟩
    case round =>
      obtain ⟨j, hj, rfl, hown, hnx⟩ := hrel
      have HOW := Lib.hid hown
      have HNX := Lib.hid hnx
      have hszr := hnx.size
      have HBA := Lib.hid (HB1.out.trans (hnx.mono hsz1))
      have y0 := (HBX.out.on HBA.out).c0
      have y1 : wr.cell? ⟨w.heap.size, 1, none⟩ = some (.slice F.t.a n F.t.c) := by rw [HN.out]; exact (HBX.out.on HBA.out).c1
      clear hown
      by_cases hlt : j < n
      · have hlti : (j : Int) < (n : Int) := by omega
        have hjR : j < F.t.R.length := by rw [← HN.out]; exact hlt
        obtain ⟨m, hm⟩ : ∃ m, m = near F.t.R[j].l T := ⟨_, rfl⟩
        have hmo : m < F.o.l.length := by rw [hm]; exact HFI.out.lt _ (near_mem HFI.out.some _ (Nat.le_refl _))
        have cn := l2Site_any F s T j wr (HFA.out.on HBA.out) (HSA.out.on HBA.out) HFI.out.good HFI.out.set HFI.out.some HFI.out.lt hjR
        rw [← hm, show F.val = .agg #[F.o.val, .slice F.t.a n F.t.c] by rw [HN.out]; rfl] at cn
        have CN := Lib.hid cn
        have HST : Hid (∀ t, radS F T t (j + 1) = if m = t then max (radS F T t j) (F.len j t) else radS F T t j) := Lib.hid fun t => by
          show (if near (F.t.con.getD j []) T = t then _ else _) = _
          rw [con_getD F hjR, ← hm]
        have hmi : (m : Int) < (F.o.l.length : Int) := by omega
        clear hm cn hnx
        go_wp2_with fail
        refine (show Calls _ _ _ _ _ from CN.out).mono ?_
        rintro e W8 ⟨rfl, hb8⟩
        have HB8 := Lib.hid (HNX.out.trans (hb8.mono hszr))
        have hlen12 : (radL F T (j + 1)).length = (radL F T j).length := by rw [radL_len, radL_len]
        have HLE := Lib.hid hlen12
        have HO8 : Hid (W8.ownsRow W1.heap.size 3 1 (.slice (some ⟨W1.heap.size, 0, none⟩) s.l.length s.l.length) s.l.length (iv (mixL (radL F T (j + 1)) (radL F T j) 0))) := Lib.hid (owns_below HOW.out hb8)
        clear hb8 y0 y1 hlen12
        go_wp2
        go_loopw [9] (fun av wi => ∃ i : Nat, i ≤ s.l.length ∧ av = .int .i64 i ∧ wi.ownsRow W1.heap.size 3 1 (.slice (some ⟨W1.heap.size, 0, none⟩) s.l.length s.l.length) s.l.length (iv (mixL (radL F T (j + 1)) (radL F T j) i)) ∧ Below W1.heap.size W1 wi) (fun av _ => s.l.length - (intOf av).toNat)
        case atStart => exact ⟨0, Nat.zero_le _, rfl, HO8.out, HB8.out⟩
        case round =>
          obtain ⟨i, hi9, rfl, hown, hni9⟩ := hrel
          have HOI := Lib.hid hown
          have HNI := Lib.hid hni9
          have HBI := Lib.hid (HB1.out.trans (hni9.mono hsz1))
          clear hown
          by_cases hlti9 : i < s.l.length
          · have hii : (i : Int) < (s.l.length : Int) := by omega
            have hiT : i < T.length := by rw [HTQ.out]; exact hlti9
            have hi1 : i < (radL F T (j + 1)).length := by rw [radL_len]; exact hiT
            obtain ⟨bs, os, hsa, hcs⟩ := HSC.out wr HBI.out i hiT
            obtain ⟨t, ht⟩ : ∃ t, t = T[i] := ⟨_, rfl⟩
            rw [← ht] at hcs
            have HMS := Lib.hid (mix_step HLE.out hi1)
            rw [hsa]
            by_cases htm : m = t
            · subst htm
              have heq : ((m : Int) == (m : Int)) = true := by simp
              obtain ⟨bt, ot, bi, oi, ci, hta, hci, hri⟩ := row_cells (HFA.out.on HBI.out) HFI.out.good (DrewTo.refl _) hjR
              have y1 : wr.cell? ⟨w.heap.size, 1, none⟩ = some (.slice (some ⟨bt, ot, none⟩) n F.t.c) := by rw [HN.out, ← hta]; exact (HBX.out.on HBI.out).c1
              obtain ⟨x, hx⟩ : ∃ x, x = F.len j m := ⟨_, rfl⟩
              have hcm := hri m hmo
              rw [← hx] at hcm
              obtain ⟨y, hy⟩ : ∃ y, y = radS F T m j := ⟨_, rfl⟩
              have hmixat : (mixL (radL F T (j + 1)) (radL F T j) i)[i]'(by rw [mix_len HLE.out (by omega)]; exact hi1) = y := by
                rw [mix_at HLE.out hi1, rad_at hiT, hy, ht]
              have hcy : wr.cell? ⟨W1.heap.size, i, none⟩ = some (.int .i64 y) := by
                rw [← hmixat]
                exact (HOI.out.cellAt i (by omega)).trans (iv_at _)
              have hfz := HOI.out.frozenAt i
              obtain ⟨v, hv⟩ : ∃ v, v = max y x := ⟨_, rfl⟩
              have CM1 := Lib.hid (fun W => by have := CM.out y x W; rw [← hv] at this; exact this : ∀ W, Calls Try.prog 34 #[.int .i64 y, .int .i64 x] W fun e w' => e = .returned (.int .i64 v) ∧ w' = W)
              have HV : Hid ((radL F T (j + 1))[i] = v) := Lib.hid (by rw [rad_at hiT, HST.out, ← ht, if_pos rfl, hv, hy, hx])
              have HEND : Hid (∀ u, DrewTo wr u → (u.setCell ⟨W1.heap.size, i, none⟩ (.int .i64 v)).ownsRow W1.heap.size 3 1 (.slice (some ⟨W1.heap.size, 0, none⟩) s.l.length s.l.length) s.l.length (iv (mixL (radL F T (j + 1)) (radL F T j) (i + 1))) ∧ Below W1.heap.size W1 (u.setCell ⟨W1.heap.size, i, none⟩ (.int .i64 v))) := Lib.hid fun u hu => by
                have h1 := (owns_below HOI.out hu.below).stored i (.int .i64 v)
                refine ⟨?_, (HNI.out.trans (hu.below.mono HNI.out.size)).setCell (p := ⟨W1.heap.size, i, none⟩) (Nat.le_refl _) _⟩
                rw [HMS.out, HV.out]
                have e1 : iv ((mixL (radL F T (j + 1)) (radL F T j) i).set i v) = (iv (mixL (radL F T (j + 1)) (radL F T j) i)).set i (.int .i64 v) := by unfold iv; rw [List.map_set]
                rw [e1]; exact h1.1
              clear ht hsa hx hy hmixat hv hri hta hni9
              go_wp2
              go_region_law ((go_simp; go_at_call 34; refine (show Calls _ _ _ _ _ from CM1.out _).mono ?_; rintro e u1 ⟨rfl, rfl⟩))
              all_goals
                have HE := HEND.out wr.drew ⟨1, rfl⟩
                obtain ⟨wz, hwz⟩ : ∃ u, u = (wr.setCell ⟨W1.heap.size, i, none⟩ (.int .i64 v)).drew := ⟨_, rfl⟩
                have HE1 := Lib.hid (show _ by rw [show (wr.drew).setCell ⟨W1.heap.size, i, none⟩ (.int .i64 v) = wz from hwz.symm] at HE; exact HE)
                clear HE
                rw [← hwz]
                clear hwz
                go_wp2
                go_roundw
                case rel => exact ⟨i + 1, by omega, by go_num, HE1.out.1, HE1.out.2⟩
                case measure => simp [intOf]; omega
            · have heq : ((t : Int) == (m : Int)) = false := by simp; omega
              have HS : Hid (mixL (radL F T (j + 1)) (radL F T j) (i + 1) = mixL (radL F T (j + 1)) (radL F T j) i) := Lib.hid (mix_same HLE.out hi1 (by rw [rad_at hiT, rad_at hiT, HST.out, ← ht, if_neg htm]))
              have htm2 : ¬ ((t : Int) = (m : Int)) := by omega
              clear ht hsa hni9 htm
              go_wp2
              go_roundw
              case rel => exact ⟨i + 1, by omega, by go_num, by rw [HS.out]; exact HOI.out, HNI.out⟩
              case measure => simp [intOf]; omega
          · have hie : i = s.l.length := by omega
            have HE : Hid (mixL (radL F T (j + 1)) (radL F T j) i = radL F T (j + 1)) := Lib.hid (by
              unfold mixL
              rw [List.take_of_length_le (by rw [radL_len, HTQ.out]; omega), List.drop_of_length_le (by rw [radL_len, HTQ.out]; omega), List.append_nil])
            have hii : ¬ (i : Int) < (s.l.length : Int) := by omega
            clear hie hni9
            go_wp2
            go_roundw
            case rel => exact ⟨j + 1, by omega, by go_num, by rw [← HE.out]; exact HOI.out, HNI.out⟩
            case measure => simp [intOf]; omega
      · obtain rfl : j = n := by omega
        have HOF := Lib.hid (show wr.ownsRow W1.heap.size 3 1 (.slice (some ⟨W1.heap.size, 0, none⟩) s.l.length s.l.length) s.l.length (iv (radL F T F.t.R.length)) by rw [← HN.out]; exact HOW.out)
        go_wp2
        go_ret2
        exact ints_end (by rw [radL_len, HTQ.out]) HOF.out (Nat.le_trans hwA hsz1) (hbA.trans ((HB1.out.trans (hnx.mono hsz1)).mono hwA))

theorem radii_pair (F : Fld) (s : Row) (_ : F.Small) (hsm : s.l.length ≤ 1048576) : ∃ (l : List Int) (b : Bool) (_ : l.length ≤ 1048576),
    (∀ (G : Fld) (t : Row) (W : World), G.At W → t.At W → G.Like F → t.l = s.l → Calls Try.prog 10 #[G.val, .slice t.a t.l.length t.c] W (PInts l b W)) ∧
    (∀ (G : Fld) (t : Row) (W : World), G.At W → t.At W → G.Like F → t.l = s.l → Calls Try.prog 13 #[G.val, .slice t.a t.l.length t.c] W (PInts l b W)) := by
  obtain ⟨l, b, h, hl⟩ := radii_some F s hsm
  exact ⟨l, b, hl, fun G t W hG ht hl hs => specRadii_any G t W hG ht (by rw [hs]; exact hsm) l b (radii_like h hl hs), fun G t W hG ht hl hs => implRadii_any G t W hG ht (by rw [hs]; exact hsm) l b (radii_like h hl hs)⟩
end Go.Proofs.Ytjeodblaekdpkaa
