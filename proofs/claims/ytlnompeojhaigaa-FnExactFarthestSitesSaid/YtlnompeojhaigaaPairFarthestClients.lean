/- Both sides of FarthestClients answer alike. Condition: the Field reads as such. -/
import Derived.Test.YtlnompeojhaigaaAway
import Derived.Test.YtlnompeojhaigaaKSites
import Derived.Test.YtlnompeojhaigaaPost
namespace Go.Proofs.Ytlnompeojhaigaa
open Go.RowKit Go.Shelf

def Fths (F : Fld) (k : Int) (l : List Int) (b : Bool) : Prop :=
  (kB F k = false ∧ l = [] ∧ b = false) ∨ (∃ m : Nat, F.good = true ∧ k = m ∧ 1 ≤ m ∧ m ≤ F.o.l.length ∧ l = up (takeF F (min m F.t.R.length)) ∧ b = true)
theorem fths_no {F : Fld} {k : Int} {l : List Int} {b : Bool} (h : Fths F k l b) (hn : kB F k = false) : l = [] ∧ b = false := by
  rcases h with ⟨_, h⟩ | ⟨m, h1, rfl, h3, h4, _⟩
  · exact h
  · unfold kB at hn; rw [h1] at hn; simp at hn; omega
theorem fths_yes {F : Fld} {k : Int} {l : List Int} {b : Bool} (h : Fths F k l b) (hy : kB F k = true) : ∃ m : Nat, F.good = true ∧ k = m ∧ 1 ≤ m ∧ m ≤ F.o.l.length ∧ l = up (takeF F (min m F.t.R.length)) ∧ b = true := by
  rcases h with ⟨h, _⟩ | h
  · rw [hy] at h; cases h
  · exact h
theorem fths_some (F : Fld) (k : Int) : ∃ l b, Fths F k l b ∧ l.length ≤ 1048576 := by
  by_cases h : kB F k = true
  · obtain ⟨hg, m, rfl, h1, h2⟩ := kB_nat h
    exact ⟨_, _, .inr ⟨m, hg, rfl, h1, h2, rfl, rfl⟩, by rw [up_length, takeF_len]; have := good_sizes hg; omega⟩
  · exact ⟨_, _, .inl ⟨by simpa using h, rfl, rfl⟩, by simp⟩
theorem fths_rows {F G : Fld} (h : F.Like G) : F.t.R.length = G.t.R.length := by have := congrArg List.length h.2; rw [con_length, con_length] at this; exact this
theorem fths_like {F G : Fld} {k : Int} {l : List Int} {b : Bool} (h : Fths F k l b) (hl : G.Like F) : Fths G k l b := by
  rcases h with ⟨h1, h2⟩ | ⟨m, h1, h2, h3, h4, h5, h6⟩
  · exact .inl ⟨by rw [kB_like hl]; exact h1, h2⟩
  · exact .inr ⟨m, by rw [hl.good]; exact h1, h2, h3, by rw [hl.1]; exact h4, by rw [fths_rows hl, takeF_like hl]; exact h5, h6⟩

/-- The row of those that have been taken. -/
def Took (F : Fld) (B : Nat) (w : World) (v : Value) (m : Nat) : Prop := w.ownsRow B 3 1 v (up (takeF F m)).length (iv (up (takeF F m)))
theorem took_step (F : Fld) {m : Nat} (hm : m < F.t.R.length) : ∃ b : Nat, optI (farN F (takeF F m) F.t.R.length) = (b : Int) ∧ farN F (takeF F m) F.t.R.length = some b ∧ b < F.t.R.length ∧ up (takeF F (m + 1)) = up (takeF F m) ++ [(b : Int)] := by
  obtain ⟨b, hb, hlt⟩ := takeF_some F hm
  exact ⟨b, by rw [hb]; rfl, hb, hlt, by rw [takeF, hb]; unfold up; rw [List.map_append]; rfl⟩

set_option maxRecDepth 8000 in
set_option maxHeartbeats 2000000 in
theorem implFth_any (F : Fld) (k : Int) (w : World) (hF : F.At w) (l : List Int) (b : Bool) (hv : Fths F k l b) :
    Calls Try.prog 32 #[F.val, .int .i64 k] w (PInts l b w) := by
  obtain ⟨i0, hi, hz0, hz1, hz2⟩ := info_parts infoInt
  obtain ⟨wA, hA, hbA, bx, hFA, hszA⟩ := laid_fld F w 29 hF
  have HFA := Lib.hid hFA
  have HBX := Lib.hid bx
  have HV := Lib.hid hv
  have hown0 := empty_own wA
  have hb0 := below_alloc wA (.cells #[] 3)
  obtain ⟨w0, hw0⟩ : ∃ u, u = wA.alloc (.cells #[] 3) := ⟨_, rfl⟩
  rw [← hw0] at hown0 hb0
  have HW0 : Hid (w0 = (w.alloc (Obj.cells #[F.o.val, F.t.val] 29)).alloc (.cells #[] 3)) := Lib.hid (by rw [hw0, hA])
  have H0 := Lib.hid hown0
  obtain ⟨g, hg⟩ : ∃ g, g = kB F k := ⟨_, rfl⟩
  have CT := Lib.hid (by have := hasSites_any F k w0 (HFA.out.on hb0); rw [← hg] at this; exact this)
  have HG := Lib.hid hg
  have hszw : Hid (wA.heap.size = w.heap.size + 1) := Lib.hid hszA
  have y00 := (HBX.out.on hb0).c0
  have y01 := (HBX.out.on hb0).c1
  have Y0 := Lib.hid (show ((w.alloc (Obj.cells #[F.o.val, F.t.val] 29)).alloc (.cells #[] 3)).cell? ⟨w.heap.size, 0, none⟩ = some F.o.val by rw [← HW0.out]; exact y00)
  have Y1 := Lib.hid (show ((w.alloc (Obj.cells #[F.o.val, F.t.val] 29)).alloc (.cells #[] 3)).cell? ⟨w.heap.size, 1, none⟩ = some F.t.val by rw [← HW0.out]; exact y01)
  have z0 := Y0.out
  have z1 := Y1.out
  have hwA := hbA.size
  clear hF hA hFA bx hw0 hown0 hszA y00 y01 hv hg
  show Calls _ _ #[.agg #[F.o.val, F.t.val], _] w _
  go_enter Try.func32, Try.ntmps32
  go_wp2_with fail
  rw [← HW0.out]
  refine (show Calls _ _ _ _ _ from CT.out).mono ?_
  rintro e W1 ⟨rfl, hb1⟩
  have hb01 := hb0.trans (hb1.mono hb0.size)
  have HO1 := Lib.hid (owns_below H0.out hb1)
  have HB01 := Lib.hid hb01
  have HO2 : Hid (W1.ownsRow wA.heap.size 3 1 (.slice (some ⟨w.heap.size + 1, 0, none⟩) 0 0) 0 (iv [])) := Lib.hid (by have := HO1.out; rw [hszw.out] at this ⊢; exact this)
  clear z0 z1
  cases g with
  | false =>
    obtain ⟨rfl, rfl⟩ := fths_no HV.out HG.out.symm
    go_wp2
    go_ret2
    exact ints_end rfl HO2.out hwA (hbA.trans (hb01.mono hbA.size))
  | true =>
    obtain ⟨q, hgd, rfl, hq1, hqn, hl, rfl⟩ := fths_yes HV.out HG.out.symm
    have HL := Lib.hid hl
    have HGD := Lib.hid hgd
    have hsz := good_sizes hgd
    obtain ⟨n, hn⟩ : ∃ n, n = F.t.R.length := ⟨_, rfl⟩
    have HN := Lib.hid hn
    have hni : (n : Int) ≤ 7 := by omega
    have hqi : (q : Int) ≤ 7 := by omega
    obtain ⟨c, hc⟩ : ∃ c, c = min q n := ⟨_, rfl⟩
    have hcm : min (q : Int) (n : Int) = (c : Int) := by omega
    have HC := Lib.hid hc
    have hci : (c : Int) ≤ 7 := by omega
    have hcn : c ≤ n := by omega
    have hc7 : c ≤ 7 := by omega
    have hszB := HB01.out.size
    have y1 : W1.cell? ⟨w.heap.size, 1, none⟩ = some (.slice F.t.a n F.t.c) := by rw [hn]; exact (HBX.out.on hb01).c1
    clear hl hgd hsz hn hb1 hb01 hq1 hqn hc
    go_wp2
    go_loopw [6, 18] (fun out i wr => ∃ m : Nat, m ≤ c ∧ i = .int .i64 m ∧ Took F wA.heap.size wr out m ∧ Below wA.heap.size wA wr) (fun _ i _ => c - (intOf i).toNat)
    case atStart => exact ⟨0, Nat.zero_le _, rfl, HO2.out, HB01.out⟩
    case round =>
      obtain ⟨m, hm, rfl, htook, hnx⟩ := hrel
      have HK := Lib.hid htook
      have HNX := Lib.hid hnx
      have hszr := hnx.size
      clear y1
      have y0 := (HBX.out.on hnx).c0
      have y1 := (HBX.out.on hnx).c1
      by_cases hlt : m < c
      · have hlti : (m : Int) < (c : Int) := by omega
        have hmR : m < F.t.R.length := by rw [← HN.out]; omega
        obtain ⟨t, rfl, htl, -, hti⟩ := row_of_own htook
        obtain ⟨b, hb, _, _, hup⟩ := took_step F hmR
        have CF := Lib.hid (by
          have := farthestFrom_any F t (takeF F m) wr (HFA.out.on hnx) hti.at HGD.out htl (takeF_lt F m (by omega)) (by rw [htl, up_length, takeF_len]; omega)
          rw [hb] at this; exact this)
        have HUP := Lib.hid hup
        have hUL : (up (takeF F m)).length ≤ 7 := by rw [up_length, takeF_len]; omega
        clear htl hti htook hnx hb hup hmR
        go_wp2_with fail
        refine (show Calls _ _ _ _ _ from CF.out).mono ?_
        rintro e W8 ⟨rfl, hb8⟩
        have HB8 := Lib.hid (HNX.out.trans (hb8.mono hszr))
        have hown : W8.ownsRow wA.heap.size 3 1 (.slice t.a t.l.length t.c) (up (takeF F m)).length (iv (up (takeF F m))) := owns_below HK.out hb8
        have hszA := HB8.out.size
        clear hb8 y0 y1
        go_wp2_with (at_builtin; refine wpList_append_own _ rfl _ _ 22 rfl wA.heap.size 3 i0 (.int .i64 0) 1 8 Try.underlying22 hi hz0 hz1 hz2 rfl (by decide) _ _ _ rfl (hown.alloc _) ⟨W8.heap.size, 0, none⟩ 1 1 [.int .i64 (b : Int)] rfl rfl (one_cell _ _ _) (by simp [Value.oneCell']) (by unfold maxLen; omega) (by omega) (by simp; omega) ?_; intro v' w1 hown' hgrow _)
        have R1 : Took F wA.heap.size w1 v' (m + 1) := by unfold Took; rw [HUP.out]; exact own_snoc rfl hown'
        have R2 : Below wA.heap.size wA w1 := (HB8.out.alloc (by omega) _).grown hgrow (by simp; omega) (fun j hj => (hown.lt j hj).1)
        clear hown' hgrow hown
        go_wp2
        go_roundw
        case rel => exact ⟨m + 1, by omega, by go_num, R1, R2⟩
        case measure => simp [intOf]; omega
      · obtain rfl : m = c := by omega
        obtain ⟨t, rfl, htl, hto, hti⟩ := row_of_own htook
        have HTL := Lib.hid htl
        clear htl y0 y1
        go_wp2
        go_ret2
        exact ⟨t, rfl, by rw [HTL.out, HL.out, HC.out, HN.out], hto, hti.wide hbA.size (Nat.le_refl _), hbA.trans (hnx.mono hbA.size)⟩

def valLen : Value → Nat
  | .slice _ n _ => n
  | _ => 0

set_option maxRecDepth 16000 in
set_option maxHeartbeats 4000000 in
theorem l5Farthest_any (F : Fld) (q : Nat) (w : World) (hF : F.At w) (hg : F.good = true) (hq1 : 1 ≤ q) (hqn : q ≤ F.o.l.length) :
    Calls Try.prog 71 #[F.val, .int .i64 q] w fun e w' => ∃ t : Row, e = .returned (.slice t.a t.l.length t.c) ∧ t.l = up (takeF F (min q F.t.R.length)) ∧ t.Own 3 w' ∧ t.In w.heap.size w'.heap.size w' ∧ Below w.heap.size w w' := by
  obtain ⟨i0, hi, hz0, hz1, hz2⟩ := info_parts infoInt
  obtain ⟨wA, hA, hbA, bx, hFA, hszA⟩ := laid_fld F w 29 hF
  have HFA := Lib.hid hFA
  have HBX := Lib.hid bx
  have HA := Lib.hid hA
  have HG := Lib.hid hg
  have hsz := good_sizes hg
  obtain ⟨n, hn⟩ : ∃ n, n = F.t.R.length := ⟨_, rfl⟩
  have HN := Lib.hid hn
  have hni : (n : Int) ≤ 7 := by omega
  have hqi : (q : Int) ≤ 7 := by omega
  have hx1 : wA.cell? ⟨w.heap.size, 1, none⟩ = some (.slice F.t.a n F.t.c) := by rw [hn]; exact bx.c1
  rw [hA] at hx1
  rw [← hn]
  by_cases hn0 : n = 0
  · have H0 := Lib.hid (empty_own wA)
    have HB0 := Lib.hid (below_alloc wA (.cells #[] 3))
    have HE : Hid (takeF F (min q n) = []) := Lib.hid (by rw [hn0, Nat.min_zero]; rfl)
    have heq : ((n : Int) == 0) = true := by rw [hn0]; rfl
    have hsA : wA.heap.size ≤ w.heap.size + 1 ∧ w.heap.size + 1 ≤ wA.heap.size := by omega
    clear hF hA bx hFA hg hsz hn hszA
    show Calls _ _ #[.agg #[F.o.val, F.t.val], _] w _
    go_enter Try.func71, Try.ntmps71
    go_wp2
    go_ret
    obtain ⟨t, ht, htl, hto, hti⟩ := row_of_own H0.out
    rw [show (w.alloc (Obj.cells #[F.o.val, F.t.val] 29)) = wA from HA.out.symm]
    refine ⟨t, ?_, by rw [HE.out]; exact htl, hto, hti.wide (by omega) (Nat.le_refl _), hbA.trans (HB0.out.mono (by omega))⟩
    have e1 : wA.heap.size = w.heap.size + 1 := by omega
    rw [← ht, e1]
    rfl
  have hnpos : 0 < n := Nat.pos_of_ne_zero hn0
  have heq : ((n : Int) == 0) = false := by simp; omega
  obtain ⟨c, hc⟩ : ∃ c, c = min q n := ⟨_, rfl⟩
  have hc1 : 1 ≤ c := by omega
  have hcq : c ≤ q := by omega
  have hcn : c ≤ n := by omega
  have hcx : ¬ (c < q ∧ c < n) := by omega
  have HC := Lib.hid hc
  have hone : (wA.alloc (.cells #[.int .i64 0] 3)).ownsRow wA.heap.size 3 1 (.slice (some ⟨wA.heap.size, 0, none⟩) 1 1) 1 (iv [0]) := World.ownsRow_lit wA #[.int .i64 0] 1 (Nat.le_refl _) (by decide) rfl
  have HT1 : Hid (Took F wA.heap.size (wA.alloc (.cells #[.int .i64 0] 3)) (.slice (some ⟨w.heap.size + 1, 0, none⟩) 1 1) 1) := Lib.hid (by
    unfold Took
    rw [takeF_one F (by omega)]
    have := hone
    rw [hszA] at this ⊢
    exact this)
  have HB0 := Lib.hid (below_alloc wA (.cells #[.int .i64 0] 3))
  have hwA := hbA.size
  clear hF hA bx hFA hg hsz hn hszA hc hn0 hone
  rw [← HC.out]
  show Calls _ _ #[.agg #[F.o.val, F.t.val], _] w _
  go_enter Try.func71, Try.ntmps71
  go_wp2
  rw [show w.alloc (Obj.cells #[F.o.val, F.t.val] 29) = wA from HA.out.symm]
  clear hx1
  go_loopw [5, 6, 7] (fun out _ _ wr => ∃ (m : Nat) (a : Option Addr) (cp : Nat), 1 ≤ m ∧ m ≤ c ∧ out = .slice a m cp ∧ Hid (Took F wA.heap.size wr (.slice a m cp) m) ∧ Below wA.heap.size wA wr) (fun out _ _ _ => c - valLen out)
  case atStart => exact ⟨1, _, _, Nat.le_refl _, hc1, rfl, HT1, HB0.out⟩
  case round =>
    obtain ⟨m, a, cp, hm1, hm, rfl, HK, hnx⟩ := hrel
    have HNX := Lib.hid hnx
    have y1 : wr.cell? ⟨w.heap.size, 1, none⟩ = some (.slice F.t.a n F.t.c) := by rw [HN.out]; exact (HBX.out.on hnx).c1
    by_cases hlt : m < c
    · have hmq : (m : Int) < (q : Int) := by omega
      have hmn : (m : Int) < (n : Int) := by omega
      have hmR : m < F.t.R.length := by rw [← HN.out]; omega
      obtain ⟨t, ht, htl, -, hti⟩ := row_of_own HK.out
      have htm : t.l.length = m := by rw [htl, up_length, takeF_len]
      have hta : a = t.a ∧ cp = t.c := by
        simp only [Value.slice.injEq] at ht
        exact ⟨ht.1, ht.2.2⟩
      obtain ⟨rfl, rfl⟩ := hta
      obtain ⟨b, hb, _, _, hup⟩ := took_step F hmR
      have HUP := Lib.hid hup
      have HBB := Lib.hid hb
      obtain ⟨T, hT⟩ : ∃ T, T = takeF F m := ⟨_, rfl⟩
      have htlT : t.l = up T := by rw [htl, hT]
      have hTlt : ∀ j ∈ T, j < F.t.R.length := by rw [hT]; exact takeF_lt F m (by omega)
      have hT0 : 0 < T.length := by rw [hT, takeF_len]; omega
      have HTI := Lib.hid hti
      have HTL := Lib.hid htlT
      have HTLT := Lib.hid hTlt
      have HTM := Lib.hid htm
      have HT := Lib.hid hT
      have HTT0 := Lib.hid hT0
      clear ht htl hti hb hup htm hT htlT hTlt hT0 hmR hnx
      go_wp2
      go_loopw [6, 7] (fun bv jv wi => ∃ j : Nat, j ≤ n ∧ jv = .int .i64 j ∧ bv = .int .i64 (optI (farN F T j)) ∧ Below wr.heap.size wr wi) (fun _ jv _ => n - (intOf jv).toNat)
      case atStart => exact ⟨0, Nat.zero_le _, rfl, rfl, Below.refl _ _⟩
      case round =>
        obtain ⟨j, hj, rfl, rfl, hni9⟩ := hrel
        have HNI := Lib.hid hni9
        have hbi := HNX.out.trans (hni9.mono HNX.out.size)
        have HBI := Lib.hid hbi
        clear y1
        have y1 : wr.cell? ⟨w.heap.size, 1, none⟩ = some (.slice F.t.a n F.t.c) := by rw [HN.out]; exact (HBX.out.on hbi).c1
        by_cases hltj : j < n
        · have hltji : (j : Int) < (n : Int) := by omega
          have hjR : j < F.t.R.length := by rw [← HN.out]; exact hltj
          obtain ⟨h, hh⟩ : ∃ h, h = T.contains j := ⟨_, rfl⟩
          have HAT : Hid (∀ u, Below wr.heap.size wr u → t.At u) := Lib.hid fun u hu => ((HTI.out.on HNI.out).on hu).at
          have CH := Lib.hid (fun d => by have := l1Has_any t (j : Int) (wr.drewN d) (HAT.out _ (below_draws wr d)); rw [HTL.out, has_up, ← hh, ← HTL.out, HTM.out] at this; exact this : ∀ d, Calls Try.prog 98 #[.slice t.a m t.c, .int .i64 j] (wr.drewN d) fun e w' => e = .returned (.bool h) ∧ w' = wr.drewN d)
          have C1 := Lib.hid (fun u (hu : Below wr.heap.size wr u) => (l1Has_any t (j : Int) u (HAT.out u hu)).mono (fun e w' h2 => by rw [HTL.out, has_up, ← hh] at h2; exact ⟨h2.1, by rw [h2.2]; exact Below.refl _ _⟩) : ∀ u, Below wr.heap.size wr u → Calls Try.prog 98 #[.slice t.a t.l.length t.c, .int .i64 j] u fun e w' => e = .returned (.bool h) ∧ Below u.heap.size u w')
          rw [HTM.out] at C1
          have CA : Hid (∀ i, i < F.t.R.length → ∀ u, Below wr.heap.size wr u → Calls Try.prog 99 #[.agg #[F.o.val, F.t.val], .int .i64 (i : Int), .slice t.a m t.c] u fun e w' => e = .returned (.int .i64 (awayT F i T)) ∧ Below u.heap.size u w') := Lib.hid fun i hi u hu => by
            have := l5Away_any F i t T u ((HFA.out.on HBI.out).on hu) (HAT.out u hu) HG.out hi HTL.out HTLT.out HTT0.out (by rw [HTM.out]; omega)
            rw [HTM.out] at this; exact this
          have HS : Hid (∀ u, Below wr.heap.size wr u → ((u.cell? ⟨w.heap.size, 0, none⟩ = some F.o.val ∧ u.cell? ⟨w.heap.size, 1, none⟩ = some F.t.val) ∧ Below wr.heap.size wr u)) := Lib.hid fun u hu => ⟨⟨((HBX.out.on HBI.out).on hu).c0, ((HBX.out.on HBI.out).on hu).c1⟩, hu⟩
          have s0 := HS.out wr.drew (Below.refl _ _).drew
          have HH := Lib.hid hh
          clear hh hni9 hbi
          cases h with
          | true =>
            have HST : Hid (farN F T (j + 1) = farN F T j) := Lib.hid (by rw [farN_succ, ← HH.out]; simp)
            go_wp2
            go_quiet ((go_at_call 98; exact Calls.quiet_of_same (CH.out _)))
            have HB8 := Lib.hid (HNI.out.trans ((below_draws wr nq).mono HNI.out.size))
            go_wp2
            go_roundw
            case rel => exact ⟨j + 1, by omega, by go_num, by rw [HST.out], HB8.out⟩
            case measure => simp [intOf]; omega
          | false =>
            cases hfo : farN F T j with
            | none =>
              have HST : Hid (farN F T (j + 1) = some j) := Lib.hid (by rw [farN_succ, ← HH.out, hfo]; simp)
              clear hfo
              show Code.wp _ _ _ { tmps := #[_, _, _, _, _, _, .int .i64 (-1), _, _, _, _, _, _, _, _, _, _, _, _, _, _, _, _, _, _, _, _, _, _, _, _, _, _, _, _, _, _, _, _, _, _, _, _, _, _, _, _, _, _, _, _, _, _, _, _, _, _, _], defers := _ } _
              go_wp2
              have hd0 : decide ((-1 : Int) < 0) = true := rfl
              go_quiet ((go_at_call 98; exact Calls.quiet_of_same (CH.out _)))
              have HB8 := Lib.hid (HNI.out.trans ((below_draws wr nq).mono HNI.out.size))
              go_wp2
              go_roundw
              case rel => exact ⟨j + 1, by omega, by go_num, by rw [HST.out]; rfl, HB8.out⟩
              case measure => simp [intOf]; omega
            | some b9 =>
              have hb9 := farN_lt F T j b9 hfo
              obtain ⟨x, hx⟩ : ∃ x, x = awayT F j T := ⟨_, rfl⟩
              obtain ⟨z, hz⟩ : ∃ z, z = awayT F b9 T := ⟨_, rfl⟩
              have CX := Lib.hid (by have := CA.out j hjR; rw [← hx] at this; exact this)
              have CZ := Lib.hid (by have := CA.out b9 (by omega); rw [← hz] at this; exact this)
              have HST1 : Hid (z < x → farN F T (j + 1) = some j) := Lib.hid fun h1 => by rw [farN_succ, ← HH.out, hfo]; simp only [Bool.false_eq_true, if_false]; rw [if_pos (by omega)]
              have HST2 : Hid (¬ z < x → farN F T (j + 1) = some b9) := Lib.hid fun h1 => by rw [farN_succ, ← HH.out, hfo]; simp only [Bool.false_eq_true, if_false]; rw [if_neg (by omega)]
              have hb9i : ¬ ((b9 : Int) < 0) := by omega
              have hb9n : (b9 : Int) ≤ 7 := by omega
              clear hx hz hfo hb9 hjR
              show Code.wp _ _ _ { tmps := #[_, _, _, _, _, _, .int .i64 (b9 : Int), _, _, _, _, _, _, _, _, _, _, _, _, _, _, _, _, _, _, _, _, _, _, _, _, _, _, _, _, _, _, _, _, _, _, _, _, _, _, _, _, _, _, _, _, _, _, _, _, _, _, _], defers := _ } _
              go_wp2_with fail
              have hd0 : decide ((b9 : Int) < 0) = false := decide_eq_false (by omega)
              go_region_held3 (fun u => ((u.cell? ⟨w.heap.size, 0, none⟩ = some F.o.val ∧ u.cell? ⟨w.heap.size, 1, none⟩ = some F.t.val) ∧ Below wr.heap.size wr u)) (first | exact s0 | exact keep_reg HS.out (by first | assumption | exact And.right (by assumption)) hb1) (first | (go_at_call 98; refine (show Calls _ _ _ _ _ from C1.out _ (by first | assumption | exact And.right (by assumption))).mono ?_; rintro e u1 ⟨rfl, hb1⟩; have hb2 := hb1) | (go_at_call 99; with_reducible change Calls _ _ #[_, .int .i64 (j : Int), _] _ _; refine (show Calls _ _ _ _ _ from CX.out _ (by first | assumption | exact And.right (by assumption))).mono ?_; rintro e u1 ⟨rfl, hb1⟩) | (go_at_call 99; with_reducible change Calls _ _ #[_, .int .i64 (b9 : Int), _] _ _; refine (show Calls _ _ _ _ _ from CZ.out _ (by first | assumption | exact And.right (by assumption))).mono ?_; rintro e u1 ⟨rfl, hb1⟩))
              all_goals
                refine at_exit (W := wr) (by first | assumption | exact And.right (by assumption)) ?_
                intro W8 hb8
                have HB8 := Lib.hid (HNI.out.trans (hb8.mono HNI.out.size))
                clear s0 hb8
                by_cases hzx : z < x
                · have HS1 := Lib.hid (HST1.out hzx)
                  go_wp2
                  go_roundw
                  case rel => exact ⟨j + 1, by omega, by go_num, by rw [HS1.out]; rfl, HB8.out⟩
                  case measure => simp [intOf]; omega
                · have HS1 := Lib.hid (HST2.out (by omega))
                  go_wp2
                  go_roundw
                  case rel => exact ⟨j + 1, by omega, by go_num, by rw [HS1.out]; rfl, HB8.out⟩
                  case measure => simp [intOf]; omega
        · obtain rfl : j = n := by omega
          have hfo : optI (farN F T j) = (b : Int) := by rw [HT.out, HN.out, HBB.out]; first | done | rfl
          rw [hfo]
          have hown : wr.ownsRow wA.heap.size 3 1 (.slice t.a m t.c) (up (takeF F m)).length (iv (up (takeF F m))) := owns_below HK.out HNI.out
          have hUL : (up (takeF F m)).length ≤ 7 := by rw [up_length, takeF_len]; omega
          have hszA := HBI.out.size
          clear hfo hni9 hbi
          go_wp2_with (at_builtin; refine wpList_append_own _ rfl _ _ 22 rfl wA.heap.size 3 i0 (.int .i64 0) 1 8 Try.underlying22 hi hz0 hz1 hz2 rfl (by decide) _ _ _ rfl (hown.alloc _) ⟨wr.heap.size, 0, none⟩ 1 1 [.int .i64 (b : Int)] rfl rfl (one_cell _ _ _) (by simp [Value.oneCell']) (by unfold maxLen; omega) (by omega) (by simp; omega) ?_; intro v' w1 hown' hgrow _)
          have R1 : Took F wA.heap.size w1 v' (m + 1) := by unfold Took; rw [HUP.out]; exact own_snoc rfl hown'
          have R2 : Below wA.heap.size wA w1 := (HBI.out.alloc (by omega) _).grown hgrow (by simp; omega) (fun j hj => (hown.lt j hj).1)
          obtain ⟨a9, c9, rfl⟩ : ∃ a9 c9, v' = .slice a9 (m + 1) c9 := by
            obtain ⟨t9, ht9, htl9, _, _⟩ := row_of_own R1
            have : t9.l.length = m + 1 := by rw [htl9, up_length, takeF_len]
            rw [this] at ht9
            exact ⟨_, _, ht9⟩
          have HR1 := Lib.hid R1
          clear hown' hgrow hown R1
          go_wp2
          go_roundw
          case rel => exact ⟨m + 1, a9, c9, by omega, by omega, rfl, HR1, R2⟩
          case measure => simp [valLen]; omega
    · obtain rfl : m = c := by omega
      obtain ⟨t, ht, htl, hto, hti⟩ := row_of_own HK.out
      have htm : t.l.length = m := by rw [htl, up_length, takeF_len]
      rw [htm] at ht
      simp only [Value.slice.injEq] at ht
      obtain ⟨rfl, _, rfl⟩ := ht
      have HTL := Lib.hid htl
      have HTM := Lib.hid htm
      have HB := Lib.hid (hbA.trans (hnx.mono hbA.size))
      clear htl htm hnx
      by_cases hmq : m < q
      · have hmqi : (m : Int) < (q : Int) := by omega
        have hmni : ¬ (m : Int) < (n : Int) := by omega
        go_wp2
        go_ret
        exact ⟨t, by rw [HTM.out]; rfl, HTL.out, hto, hti.wide hwA (Nat.le_refl _), HB.out⟩
      · have hmqi : ¬ (m : Int) < (q : Int) := by omega
        go_wp2
        go_ret
        exact ⟨t, by rw [HTM.out]; rfl, HTL.out, hto, hti.wide hwA (Nat.le_refl _), HB.out⟩

set_option maxHeartbeats 1000000 in
theorem specFth_any (F : Fld) (k : Int) (w : World) (hF : F.At w) (l : List Int) (b : Bool) (hv : Fths F k l b) :
    Calls Try.prog 31 #[F.val, .int .i64 k] w (PInts l b w) := by
  obtain ⟨wA, hA, hbA, bx, hFA, hszA⟩ := laid_fld F w 29 hF
  have HFA := Lib.hid hFA
  have HBX := Lib.hid bx
  have HA := Lib.hid hA
  have HV := Lib.hid hv
  obtain ⟨g, hg⟩ : ∃ g, g = kB F k := ⟨_, rfl⟩
  have CT := Lib.hid (by have := l5Ask_any F k wA hFA; rw [← hg] at this; exact this)
  have HG := Lib.hid hg
  have x0 := bx.c0
  have x1 := bx.c1
  rw [hA] at x0 x1
  clear hF hA hFA bx hg hv
  show Calls _ _ #[.agg #[F.o.val, F.t.val], _] w _
  go_enter Try.func31, Try.ntmps31
  go_wp2_with fail
  rw [show w.alloc (Obj.cells #[F.o.val, F.t.val] 29) = wA from HA.out.symm]
  refine (show Calls _ _ _ _ _ from CT.out).mono ?_
  rintro e W1 ⟨rfl, hb1⟩
  have hbw := hbA.trans (hb1.mono hbA.size)
  have HEND : Hid (PInts [] false w (.returned (.tuple #[.slice (some ⟨W1.heap.size, 0, none⟩) 0 0, .bool false])) (W1.alloc (.cells #[] 3))) := Lib.hid (ints_end rfl (empty_own W1) hbw.size (hbw.trans ((below_alloc W1 _).mono hbw.size)))
  have HBW := Lib.hid hbw
  clear x0 x1 hbw
  cases g with
  | false =>
    obtain ⟨rfl, rfl⟩ := fths_no HV.out HG.out.symm
    go_wp2
    go_ret2
    exact HEND.out
  | true =>
    obtain ⟨q, hgd, rfl, hq1, hqn, hl, rfl⟩ := fths_yes HV.out HG.out.symm
    have HL := Lib.hid hl
    have y0 := (HBX.out.on hb1).c0
    have y1 := (HBX.out.on hb1).c1
    have CB := Lib.hid (l5Farthest_any F q W1 (HFA.out.on hb1) hgd hq1 hqn)
    clear hl hb1 hgd hq1 hqn
    go_wp2_with fail
    refine (show Calls _ _ _ _ _ from CB.out).mono ?_
    rintro e W2 ⟨t, rfl, htl, hto, hti, hb2⟩
    have HTL := Lib.hid htl
    clear htl
    go_wp2
    go_ret2
    exact ⟨t, rfl, by rw [HTL.out, HL.out], hto, hti.wide HBW.out.size (Nat.le_refl _), HBW.out.trans (hb2.mono HBW.out.size)⟩

theorem farthestClients_pair (F : Fld) (k : Int) (_ : (Lit.int .i64 k).wf = true) (_ : F.Small) : ∃ (l : List Int) (b : Bool) (_ : l.length ≤ 1048576),
    (∀ (G : Fld) (W : World), G.At W → G.Like F → Calls Try.prog 31 #[G.val, .int .i64 k] W (PInts l b W)) ∧
    (∀ (G : Fld) (W : World), G.At W → G.Like F → Calls Try.prog 32 #[G.val, .int .i64 k] W (PInts l b W)) := by
  obtain ⟨l, b, h, hl⟩ := fths_some F k
  exact ⟨l, b, hl, fun G W hG hlk => specFth_any G k W hG l b (fths_like h hlk), fun G W hG hlk => implFth_any G k W hG l b (fths_like h hlk)⟩
end Go.Proofs.Ytlnompeojhaigaa
