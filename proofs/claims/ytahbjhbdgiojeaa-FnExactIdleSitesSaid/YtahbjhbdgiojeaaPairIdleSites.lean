/- Both sides of IdleSites answer alike. Condition: Field and set read as such. -/
import Derived.Test.YtahbjhbdgiojeaaPairClientsOf
namespace Go.Proofs.Ytahbjhbdgiojeaa
open Go.RowKit

/-- The idle ones of the first k sites of a set. -/
def idleTo (d : List (List Int)) (n : Nat) (T : List Nat) (k : Nat) : List Int := ((T.take k).filter fun m => decide ((cliTo d T m n).length = 0)).map fun (m : Nat) => (m : Int)
theorem idle_step {d : List (List Int)} {n : Nat} {T : List Nat} {k : Nat} (h : k < T.length) : idleTo d n T (k + 1) = idleTo d n T k ++ (if (cliTo d T T[k] n).length = 0 then [((T[k] : Nat) : Int)] else []) := by
  unfold idleTo
  rw [List.take_succ_eq_append_getElem h, List.filter_append, List.map_append]
  simp only [List.filter_cons, List.filter_nil]
  by_cases h0 : (cliTo d T T[k] n).length = 0
  · rw [if_pos (decide_eq_true h0), if_pos h0]; rfl
  · rw [if_neg (by rw [decide_eq_true_eq]; exact h0), if_neg h0]; rfl
theorem idle_len (d : List (List Int)) (n : Nat) (T : List Nat) (k : Nat) : (idleTo d n T k).length ≤ T.length := by
  unfold idleTo
  rw [List.length_map]
  exact Nat.le_trans (List.length_filter_le _ _) (by rw [List.length_take]; omega)
/-- What IdleSites answers. -/
def Idles (F : Fld) (s : Row) (l : List Int) (b : Bool) : Prop :=
  (twoB F s = false ∧ l = [] ∧ b = false) ∨ (∃ T, Fine F s T ∧ twoB F s = true ∧ l = idleTo F.t.con F.t.R.length T T.length ∧ b = true)

set_option maxHeartbeats 2000000 in
theorem specIdle_any (F : Fld) (s : Row) (w : World) (hF : F.At w) (hs : s.At w) (hsm : s.l.length ≤ 1048576) (l : List Int) (b : Bool) (hv : Idles F s l b) :
    Calls Try.prog 33 #[F.val, .slice s.a s.l.length s.c] w (PInts l b w) := by
  obtain ⟨i0, hi, hz0, hz1, hz2⟩ := info_parts infoInt
  obtain ⟨wA, hA, hbA, bx, hFA, hszA⟩ := laid_fld F w 29 hF
  have HSA := Lib.hid (hs.on hbA)
  have HFA := Lib.hid hFA
  have HBX := Lib.hid bx
  have hb0 := below_alloc wA (.cells #[] 3)
  obtain ⟨w0, hw0⟩ : ∃ u, u = wA.alloc (.cells #[] 3) := ⟨_, rfl⟩
  have hgr0 := empty_own wA
  rw [← hw0] at hb0 hgr0
  have HW0 : Hid (w0 = (w.alloc (Obj.cells #[F.o.val, F.t.val] 29)).alloc (.cells #[] 3)) := Lib.hid (by rw [hw0, hA])
  have H0 := Lib.hid hgr0
  have CT := Lib.hid (l2Two_any F s w0 (HFA.out.on hb0) (HSA.out.on hb0))
  have hszw : Hid (wA.heap.size = w.heap.size + 1) := Lib.hid hszA
  have y00 := (HBX.out.on hb0).c0
  have y01 := (HBX.out.on hb0).c1
  have Y0 := Lib.hid (show ((w.alloc (Obj.cells #[F.o.val, F.t.val] 29)).alloc (.cells #[] 3)).cell? ⟨w.heap.size, 0, none⟩ = some F.o.val by rw [← HW0.out]; exact y00)
  have Y1 := Lib.hid (show ((w.alloc (Obj.cells #[F.o.val, F.t.val] 29)).alloc (.cells #[] 3)).cell? ⟨w.heap.size, 1, none⟩ = some F.t.val by rw [← HW0.out]; exact y01)
  have z0 := Y0.out
  have z1 := Y1.out
  clear hF hs hA hFA bx hw0 hgr0 hszA y00 y01
  show Calls _ _ #[.agg #[F.o.val, F.t.val], _] w _
  go_enter Try.func33, Try.ntmps33
  go_wp2_with fail
  rw [← HW0.out]
  refine (show Calls _ _ _ _ _ from CT.out).mono ?_
  rintro e W1 ⟨rfl, hb1⟩
  have hb01 := hb0.trans (hb1.mono hb0.size)
  have HO1 := Lib.hid (owns_below H0.out hb1)
  clear z0 z1
  rcases hv with ⟨hv, rfl, rfl⟩ | ⟨T, hf, hv, rfl, rfl⟩
  · rw [hv]
    clear hv
    go_wp2
    go_ret2
    exact ints_end rfl (by have := HO1.out; rw [hszw.out] at this; exact this) (by omega) (hbA.trans (hb01.mono hbA.size))
  · rw [hv]
    have hti : (T.length : Int) ≤ 1048576 := by have := set_few hf hsm; omega
    have hsl : s.l.length = T.length := by rw [hf.set, up_length]
    have HFI := Lib.hid hf
    rw [hsl]
    have HSL := Lib.hid hsl
    clear hv hf hsl hsm
    go_wp2
    go_loopw [6, 7] (fun out i wr => ∃ k : Nat, k ≤ T.length ∧ i = .int .i64 k ∧ wr.ownsRow wA.heap.size 3 1 out (idleTo F.t.con F.t.R.length T k).length (iv (idleTo F.t.con F.t.R.length T k)) ∧ Below wA.heap.size wA wr) (fun _ i _ => T.length - (intOf i).toNat)
    case atStart => exact ⟨0, Nat.zero_le _, rfl, by have := HO1.out; rw [hszw.out] at this ⊢; exact this, hb01⟩
    case round =>
      obtain ⟨k, hk, rfl, hown0, hnx⟩ := hrel
      by_cases hlt : k < T.length
      · have hlti : (k : Int) < (T.length : Int) := by omega
        obtain ⟨m, hm⟩ : ∃ m, m = T[k] := ⟨_, rfl⟩
        obtain ⟨_, _, h3⟩ := HSA.out
        rcases h3 with h3 | ⟨b, o, ha, hbb, hcell⟩
        · have h3' := congrArg List.length (iv_nil h3); rw [HSL.out, List.length_nil] at h3'; omega
        have hd0 : Below wr.heap.size wr wr.drew := (Below.refl _ _).drew
        have CC := Lib.hid (fun u (hu : Below wA.heap.size wA u) => by have := l2Clients_any F s T m u (HFA.out.on hu) (HSA.out.on hu) HFI.out; rw [HSL.out, ha] at this; exact this : ∀ u, Below wA.heap.size wA u → Calls Try.prog 57 #[F.val, .slice (some ⟨b, o, none⟩) T.length s.c, .int .i64 m] u fun e w' => ∃ t : Row, e = .returned (.slice t.a t.l.length t.c) ∧ t.l = cliTo F.t.con T m F.t.R.length ∧ t.Own 3 w' ∧ t.In u.heap.size w'.heap.size w' ∧ Below u.heap.size u w')
        have HST := Lib.hid (idle_step (d := F.t.con) (n := F.t.R.length) hlt)
        have HO := Lib.hid (owns_below hown0 hd0)
        have hN : Below wA.heap.size wA wr.drew := hnx.drew
        have hszr : wA.heap.size ≤ wr.drew.heap.size := hnx.size
        have HCM := Lib.hid (fun u (hu : Below wA.heap.size wA u) => by
          refine (hu.cell (p := ⟨b, o + k, none⟩) hbb).trans (hcell k _ ?_)
          rw [HFI.out.set, iv_at (by rw [up_length]; exact hlt), up_at hlt, hm] : ∀ u, Below wA.heap.size wA u → u.cell? ⟨b, o + k, none⟩ = some (.int .i64 (m : Int)))
        have HS : Hid (∀ u, Below wA.heap.size wA u → ((u.cell? ⟨w.heap.size, 0, none⟩ = some F.o.val ∧ u.cell? ⟨w.heap.size, 1, none⟩ = some F.t.val ∧ u.cell? ⟨b, o + k, none⟩ = some (.int .i64 (m : Int))) ∧ Below wA.heap.size wA u)) := Lib.hid fun u hu => ⟨⟨(HBX.out.on hu).c0, (HBX.out.on hu).c1, HCM.out u hu⟩, hu⟩
        have s0 := HS.out _ hN
        have hcl := idle_len F.t.con F.t.R.length T k
        have hcll := cli_len F.t.con T m F.t.R.length
        have hR7 := (good_sizes HFI.out.good).2.2
        rw [← hm] at HST
        rw [ha]
        clear hm hcell hnx ha hd0 hown0
        go_wp2_with fail
        go_region_held3 (fun u => ((u.cell? ⟨w.heap.size, 0, none⟩ = some F.o.val ∧ u.cell? ⟨w.heap.size, 1, none⟩ = some F.t.val ∧ u.cell? ⟨b, o + k, none⟩ = some (.int .i64 (m : Int))) ∧ Below wA.heap.size wA u)) (first | exact s0 | exact HS.out _ (by assumption)) ((go_at_call 57; refine (show Calls _ _ _ _ _ from CC.out _ hN).mono ?_; rintro e u1 ⟨t, rfl, htl, -, -, hb2⟩; have HTL := Lib.hid htl; have HB2 := Lib.hid hb2; have hB1 : Below wA.heap.size wA u1 := hN.trans (hb2.mono hszr); clear htl hb2))
        have hown := owns_below HO.out HB2.out
        have hcm := HCM.out u1 hB1
        have hsu := hB1.size
        have HB1 := Lib.hid hB1
        by_cases h0 : (cliTo F.t.con T m F.t.R.length).length = 0
        · have HL : Hid (idleTo F.t.con F.t.R.length T (k + 1) = idleTo F.t.con F.t.R.length T k ++ [(m : Int)]) := Lib.hid (by rw [HST.out, if_pos h0])
          have hce : ((t.l.length : Int) == 0) = true := by rw [HTL.out, h0]; rfl
          clear h0 s0 hB1
          go_wp2_with (at_builtin; refine wpList_append_own _ rfl _ _ 22 rfl wA.heap.size 3 i0 (.int .i64 0) 1 8 Try.underlying22 hi hz0 hz1 hz2 rfl (by decide) _ _ _ rfl (hown.alloc _) ⟨u1.heap.size, 0, none⟩ 1 1 [.int .i64 (m : Int)] rfl rfl (one_cell _ _ _) (by simp [Value.oneCell']) (by unfold maxLen; omega) (by omega) (by simp; omega) ?_; intro v' w1 hown' hgrow _)
          have R1 : w1.ownsRow wA.heap.size 3 1 v' (idleTo F.t.con F.t.R.length T (k + 1)).length (iv (idleTo F.t.con F.t.R.length T (k + 1))) := by rw [HL.out]; exact own_snoc rfl hown'
          have R2 : Below wA.heap.size wA w1 := (HB1.out.alloc (by omega) _).grown hgrow (by simp; omega) (fun j hj => (hown.lt j hj).1)
          clear hown' hgrow hown hcm
          go_wp2
          go_roundw
          case rel => exact ⟨k + 1, by omega, by go_num, R1, R2⟩
          case measure => simp [intOf]; omega
        · have HL : Hid (idleTo F.t.con F.t.R.length T (k + 1) = idleTo F.t.con F.t.R.length T k) := Lib.hid (by rw [HST.out, if_neg h0, List.append_nil])
          have hce : ((t.l.length : Int) == 0) = false := by rw [HTL.out]; simp; intro h; rw [h] at h0; exact h0 rfl
          have HOW := Lib.hid hown
          clear h0 s0 hB1 hown hcm
          go_wp2
          go_roundw
          case rel => exact ⟨k + 1, by omega, by go_num, by rw [HL.out]; exact HOW.out, HB1.out⟩
          case measure => simp [intOf]; omega
      · obtain rfl : k = T.length := by omega
        go_wp2
        go_ret2
        exact ints_end rfl hown0 hbA.size (hbA.trans (hnx.mono hbA.size))

set_option maxHeartbeats 2000000 in
theorem implIdle_any (F : Fld) (s : Row) (w : World) (hF : F.At w) (hs : s.At w) (hsm : s.l.length ≤ 1048576) (l : List Int) (b : Bool) (hv : Idles F s l b) :
    Calls Try.prog 34 #[F.val, .slice s.a s.l.length s.c] w (PInts l b w) := by
  obtain ⟨i0, hi, hz0, hz1, hz2⟩ := info_parts infoInt
  obtain ⟨wA, hA, hbA, bx, hFA, hszA⟩ := laid_fld F w 29 hF
  have HSA := Lib.hid (hs.on hbA)
  have HFA := Lib.hid hFA
  have HBX := Lib.hid bx
  have hb0 := below_alloc wA (.cells #[] 3)
  obtain ⟨w0, hw0⟩ : ∃ u, u = wA.alloc (.cells #[] 3) := ⟨_, rfl⟩
  have hgr0 := empty_own wA
  rw [← hw0] at hb0 hgr0
  have HW0 : Hid (w0 = (w.alloc (Obj.cells #[F.o.val, F.t.val] 29)).alloc (.cells #[] 3)) := Lib.hid (by rw [hw0, hA])
  have H0 := Lib.hid hgr0
  have hszw : Hid (wA.heap.size = w.heap.size + 1) := Lib.hid hszA
  have y00 := (HBX.out.on hb0).c0
  have y01 := (HBX.out.on hb0).c1
  have Y0 := Lib.hid (show ((w.alloc (Obj.cells #[F.o.val, F.t.val] 29)).alloc (.cells #[] 3)).cell? ⟨w.heap.size, 0, none⟩ = some F.o.val by rw [← HW0.out]; exact y00)
  have Y1 := Lib.hid (show ((w.alloc (Obj.cells #[F.o.val, F.t.val] 29)).alloc (.cells #[] 3)).cell? ⟨w.heap.size, 1, none⟩ = some F.t.val by rw [← HW0.out]; exact y01)
  have z0 := Y0.out
  have z1 := Y1.out
  clear hF hs hA hFA bx hw0 hgr0 hszA y00 y01
  show Calls _ _ #[.agg #[F.o.val, F.t.val], _] w _
  rcases hv with ⟨hv, rfl, rfl⟩ | ⟨T, hf, hv, rfl, rfl⟩
  · have CC := Lib.hid (implClients_any F s w0 (HFA.out.on hb0) (HSA.out.on hb0) hsm [] false (.inl ⟨hv, rfl, rfl⟩))
    clear hv
    go_enter Try.func34, Try.ntmps34
    go_wp2_with fail
    rw [← HW0.out]
    refine (show Calls _ _ _ _ _ from CC.out).mono ?_
    rintro e W1 ⟨K, rfl, hkc, -, -, hb1⟩
    have hb01 := hb0.trans (hb1.mono hb0.size)
    have HO1 := Lib.hid (owns_below H0.out hb1)
    have hk0 : K.R.length = 0 := by have := congrArg List.length hkc; rw [con_length] at this; exact this
    clear z0 z1 hkc
    rw [hk0]
    clear hk0
    go_wp2
    go_loopw [6, 9, 10, 20] (fun out _ _ i wr => i = .int .i64 0 ∧ out = .slice (some ⟨w.heap.size + 1, 0, none⟩) 0 0 ∧ W1 = wr) (fun _ _ _ _ _ => 0)
    case atStart => exact ⟨rfl, rfl, rfl⟩
    case round =>
      obtain ⟨rfl, rfl, rfl⟩ := hrel
      go_wp2
      go_ret2
      exact ints_end rfl (by have := HO1.out; rw [hszw.out] at this; exact this) (by omega) (hbA.trans (hb01.mono hbA.size))
  · have CC := Lib.hid (implClients_any F s w0 (HFA.out.on hb0) (HSA.out.on hb0) hsm (T.map fun m => cliTo F.t.con T m F.t.R.length) true (.inr ⟨T, hf, hv, rfl, rfl⟩))
    have hti : (T.length : Int) ≤ 1048576 := by have := set_few hf hsm; omega
    have hsl : s.l.length = T.length := by rw [hf.set, up_length]
    have HFI := Lib.hid hf
    have HSL := Lib.hid hsl
    have hsli : (s.l.length : Int) ≤ 1048576 := by omega
    clear hv hf hsl hsm
    go_enter Try.func34, Try.ntmps34
    go_wp2_with fail
    rw [← HW0.out]
    refine (show Calls _ _ _ _ _ from CC.out).mono ?_
    rintro e W1 ⟨K, rfl, hkc, -, hki, hb1⟩
    have hb01 := hb0.trans (hb1.mono hb0.size)
    have HO1 := Lib.hid (owns_below H0.out hb1)
    have hk0 : K.R.length = T.length := by have := congrArg List.length hkc; rw [con_length, List.length_map] at this; exact this
    have HKL := Lib.hid hk0
    have HKC := Lib.hid hkc
    have HKA := Lib.hid hki.1
    have hw0s : wA.heap.size < w0.heap.size := (owns_lt H0.out).1
    have hw1s : w0.heap.size ≤ W1.heap.size := hb1.size
    clear z0 z1 hkc hki
    rw [hk0]
    clear hk0
    go_wp2
    go_loopw [6, 9, 10, 20] (fun out _ _ i wr => ∃ k : Nat, k ≤ T.length ∧ i = .int .i64 k ∧ wr.ownsRow wA.heap.size 3 1 out (idleTo F.t.con F.t.R.length T k).length (iv (idleTo F.t.con F.t.R.length T k)) ∧ Below wA.heap.size wA wr ∧ (∀ p : Addr, p.block < W1.heap.size → wA.heap.size < p.block → wr.cell? p = W1.cell? p) ∧ (∀ g, out.ownBlock = some g → g = wA.heap.size ∨ W1.heap.size ≤ g) ∧ W1.heap.size ≤ wr.heap.size) (fun _ _ _ i _ => T.length - (intOf i).toNat)
    case atStart => exact ⟨0, Nat.zero_le _, rfl, by have := HO1.out; rw [hszw.out] at this ⊢; exact this, hb01, fun _ _ _ => rfl, fun g hg => by simp [Value.ownBlock] at hg; left; rw [hszw.out]; omega, Nat.le_refl _⟩
    case round =>
      obtain ⟨k, hk, rfl, hown0, hnx, hkeep, hob, hws⟩ := hrel
      by_cases hlt : k < T.length
      · have hlti : (k : Int) < (T.length : Int) := by omega
        have hlts : (k : Int) < (s.l.length : Int) := by rw [HSL.out]; exact hlti
        obtain ⟨m, hm⟩ : ∃ m, m = T[k] := ⟨_, rfl⟩
        obtain ⟨_, _, h3⟩ := HSA.out
        rcases h3 with h3 | ⟨b, o, ha, hbb, hcell⟩
        · have h3' := congrArg List.length (iv_nil h3); rw [HSL.out, List.length_nil] at h3'; omega
        have hcm : wr.cell? ⟨b, o + k, none⟩ = some (.int .i64 (m : Int)) := by
          refine (hnx.cell (p := ⟨b, o + k, none⟩) hbb).trans (hcell k _ ?_)
          rw [HFI.out.set, iv_at (by rw [up_length]; exact hlt), up_at hlt, hm]
        have hkR : k < K.R.length := by rw [HKL.out]; exact hlt
        obtain ⟨_, _, g3⟩ := HKA.out
        rcases g3 with g3 | ⟨bk, ok, hka, hlo, hhi, _, hkc⟩
        · have g3' := congrArg List.length g3; rw [tv_length, List.length_nil] at g3'; omega
        obtain ⟨r, hr⟩ : ∃ r, r = K.R[k] := ⟨_, rfl⟩
        have hck : wr.cell? ⟨bk, ok + k, none⟩ = some (.slice r.a r.l.length r.c) := by
          rw [hkeep ⟨bk, ok + k, none⟩ hhi (by simp only; omega), hr]; exact hkc k _ (tv_at hkR)
        have hrl : r.l = cliTo F.t.con T m F.t.R.length := by
          have h5 : (K.con)[k]? = ((T.map fun m => cliTo F.t.con T m F.t.R.length))[k]? := by rw [HKC.out]
          rw [List.getElem?_eq_getElem (by rw [con_length]; exact hkR), con_at K hkR, List.getElem?_map, List.getElem?_eq_getElem hlt, ← hr, ← hm] at h5
          simpa using h5
        have HST := Lib.hid (idle_step (d := F.t.con) (n := F.t.R.length) hlt)
        rw [← hm] at HST
        have hcl := idle_len F.t.con F.t.R.length T k
        have hrb : (r.l.length : Int) ≤ 7 := by rw [hrl]; have := cli_len F.t.con T m F.t.R.length; have := (good_sizes HFI.out.good).2.2; omega
        have HRL := Lib.hid hrl
        have HNX := Lib.hid hnx
        have HKE := Lib.hid hkeep
        have HOB := Lib.hid hob
        have hsx := hnx.size
        rw [hka, ha]
        clear hm hcell hkc hr hrl hnx hkeep hob hka ha
        by_cases h0 : (cliTo F.t.con T m F.t.R.length).length = 0
        · have HL : Hid (idleTo F.t.con F.t.R.length T (k + 1) = idleTo F.t.con F.t.R.length T k ++ [(m : Int)]) := Lib.hid (by rw [HST.out, if_pos h0])
          have hce : ((r.l.length : Int) == 0) = true := by rw [HRL.out, h0]; rfl
          clear h0
          go_wp2_with (at_builtin; refine wpList_append_own_at _ rfl _ _ 22 rfl wA.heap.size 3 i0 (.int .i64 0) 1 8 Try.underlying22 hi hz0 hz1 hz2 rfl (by decide) _ _ _ rfl (hown0.alloc _) ⟨wr.heap.size, 0, none⟩ 1 1 [.int .i64 (m : Int)] rfl rfl (one_cell _ _ _) (by simp [Value.oneCell']) (by unfold maxLen; omega) (by omega) (by simp; omega) ?_; intro v' w1 hown' hgrow hnil hloc)
          have R1 : w1.ownsRow wA.heap.size 3 1 v' (idleTo F.t.con F.t.R.length T (k + 1)).length (iv (idleTo F.t.con F.t.R.length T (k + 1))) := by rw [HL.out]; exact own_snoc rfl hown'
          have R2 : Below wA.heap.size wA w1 := (HNX.out.alloc (by omega) _).grown hgrow (by simp; omega) (fun j hj => (hown0.lt j hj).1)
          have R3 : Hid (∀ p : Addr, p.block < W1.heap.size → wA.heap.size < p.block → w1.cell? p = W1.cell? p) := Lib.hid fun p h1 h2 => by
            rw [← HKE.out p h1 h2]
            have hpb : p.block < wr.heap.size := by omega
            refine (World.cell?_of_block (hgrow.block p.block (by rw [size_alloc]; omega) (fun e => ?_))).trans ((below_alloc wr _).cell hpb)
            rcases HOB.out p.block e.symm with h | h <;> omega
          have R4 : Hid (∀ g, v'.ownBlock = some g → g = wA.heap.size ∨ W1.heap.size ≤ g) := Lib.hid fun g hg => by
            rcases hloc with h | h
            · exact HOB.out g (h.symm.trans hg)
            · rw [hg] at h; simp only [Option.some.injEq] at h; right; rw [h, size_alloc]; omega
          have R5 : W1.heap.size ≤ w1.heap.size := by have := hgrow.size; rw [size_alloc] at this; omega
          clear hown' hgrow hown0 hcm hnil hloc
          go_wp2
          go_roundw
          case rel => exact ⟨k + 1, by omega, by go_num, R1, R2, R3.out, R4.out, R5⟩
          case measure => simp [intOf]; omega
        · have HL : Hid (idleTo F.t.con F.t.R.length T (k + 1) = idleTo F.t.con F.t.R.length T k) := Lib.hid (by rw [HST.out, if_neg h0, List.append_nil])
          have hce : ((r.l.length : Int) == 0) = false := by rw [HRL.out]; simp; intro h; rw [h] at h0; exact h0 rfl
          have HOW := Lib.hid hown0
          clear h0 hown0 hcm
          go_wp2
          go_roundw
          case rel => exact ⟨k + 1, by omega, by go_num, by rw [HL.out]; exact HOW.out, HNX.out, HKE.out, HOB.out, hws⟩
          case measure => simp [intOf]; omega
      · obtain rfl : k = T.length := by omega
        go_wp2
        go_ret2
        exact ints_end rfl hown0 hbA.size (hbA.trans (hnx.mono hbA.size))

theorem idles_like {F G : Fld} {s t : Row} {l : List Int} {b : Bool} (h : Idles F s l b) (hl : G.Like F) (hs : t.l = s.l) : Idles G t l b := by
  have hR : G.t.R.length = F.t.R.length := by have := congrArg List.length hl.2; rw [con_length, con_length] at this; exact this
  rcases h with ⟨h1, h2, h3⟩ | ⟨T, h1, h3, h4, h5⟩
  · exact .inl ⟨by rw [twoB_like hl hs, h1], h2, h3⟩
  · exact .inr ⟨T, fine_like h1 hl hs, by rw [twoB_like hl hs, h3], by rw [hl.2, hR]; exact h4, h5⟩
theorem idles_some (F : Fld) (s : Row) (hs : s.l.length ≤ 1048576) : ∃ (l : List Int) (b : Bool), Idles F s l b ∧ l.length ≤ 1048576 := by
  by_cases h : twoB F s = true
  · obtain ⟨T, hf⟩ := fine_of h
    exact ⟨_, _, .inr ⟨T, hf, h, rfl, rfl⟩, Nat.le_trans (idle_len _ _ _ _) (set_few hf hs)⟩
  · exact ⟨_, _, .inl ⟨by simpa using h, rfl, rfl⟩, by simp⟩
theorem idleSites_pair (F : Fld) (s : Row) (_ : F.Small) (hsm : s.l.length ≤ 1048576) : ∃ (l : List Int) (b : Bool) (_ : l.length ≤ 1048576),
    (∀ (G : Fld) (t : Row) (W : World), G.At W → t.At W → G.Like F → t.l = s.l → Calls Try.prog 33 #[G.val, .slice t.a t.l.length t.c] W (PInts l b W)) ∧
    (∀ (G : Fld) (t : Row) (W : World), G.At W → t.At W → G.Like F → t.l = s.l → Calls Try.prog 34 #[G.val, .slice t.a t.l.length t.c] W (PInts l b W)) := by
  obtain ⟨l, b, h, hl⟩ := idles_some F s hsm
  exact ⟨l, b, hl, fun G t W hG ht hl hs => specIdle_any G t W hG ht (by rw [hs]; exact hsm) l b (idles_like h hl hs), fun G t W hG ht hl hs => implIdle_any G t W hG ht (by rw [hs]; exact hsm) l b (idles_like h hl hs)⟩
end Go.Proofs.Ytahbjhbdgiojeaa
