/- The cost of an allocation: both sides' sums. Condition: a valid network and an allocation. -/
import Derived.Test.YtmbgipllkbahpaaNet
import Derived.Test.YtmbgipllkbahpaaDisp
namespace Go.Proofs.Ytmbgipllkbahpaa
open Go.RowKit

/-- Places that are hubs of n places. -/
structure HubL (n : Nat) (s : Row) (H : List Nat) : Prop where
  eq : s.l = up H
  len : H.length = n
  lt : ∀ m ∈ H, m < n
theorem hubL_of {n : Nat} {s : Row} (h : hubB n s.l = true) : ∃ H, HubL n s H := by
  unfold hubB at h
  simp only [Bool.and_eq_true, decide_eq_true_eq] at h
  have hb : ∀ x ∈ s.l, 0 ≤ x ∧ x < (n : Int) := fun x hx => mem_upTo h.1.2 hx
  have he : s.l = up (s.l.map Int.toNat) := by
    unfold up
    rw [List.map_map]
    refine (List.map_id s.l).symm.trans (List.map_congr_left fun x hx => ?_)
    have := hb x hx
    simp only [id, Function.comp]; omega
  refine ⟨s.l.map Int.toNat, he, by rw [List.length_map]; exact h.1.1, fun m hm => ?_⟩
  obtain ⟨x, hx, rfl⟩ := List.mem_map.1 hm
  have := hb x hx
  omega
theorem HubL.at {n : Nat} {s : Row} {H : List Nat} (h : HubL n s H) {k : Nat} (hk : k < n) : H.getD k 0 < n := by
  have : k < H.length := by rw [h.len]; exact hk
  rw [getD_nat this]; exact h.lt _ (List.getElem_mem this)

set_option maxRecDepth 16000 in
set_option maxHeartbeats 3000000 in
theorem l11Cost_any (T Q : Tab) (s : Row) (H : List Nat) (c : Int) (w : World) (hT : T.At w) (hQ : Q.At w) (hs : s.At w) (hn : Net T.con Q.con c) (hh : HubL T.R.length s H) :
    Calls Try.prog 47 #[.slice T.a T.R.length T.c, .slice Q.a Q.R.length Q.c, .slice s.a s.l.length s.c, .int .i64 c] w fun e w' => e = .returned (.int .i64 (totH T.con Q.con H c T.R.length T.R.length)) ∧ DrewTo w w' := by
  have hsl : s.l.length = T.R.length := by rw [hh.eq, up_length, hh.len]
  have hQl : Q.R.length = T.R.length := by have := hn.len; rw [con_length, con_length] at this; exact this
  have hn5 : T.R.length ≤ 5 := by have := hn.few; rw [con_length] at this; exact this
  obtain ⟨n, hnn⟩ : ∃ n, n = T.R.length := ⟨_, rfl⟩
  rw [hsl, hQl, ← hnn]
  by_cases h0 : n = 0
  · subst h0
    clear hT hQ hs hh hsl hQl hn5 hnn hn
    go_enter Try.func47, Try.ntmps47
    go_wp2
    go_loopw [9, 10, 11] (fun sv i _ wr => i = .int .i64 0 ∧ sv = .int .i64 0 ∧ w = wr) (fun _ _ _ _ => 0)
    case atStart => exact ⟨rfl, rfl, rfl⟩
    case round =>
      obtain ⟨rfl, rfl, rfl⟩ := hrel
      go_wp2
      go_ret
      exact ⟨by rw [totH_zero]; rfl, DrewTo.refl _⟩
  obtain ⟨b, o, ha, hrow⟩ := sq_cells hT (n := n) (by have := hn.grd.rows; rw [con_length, ← hnn] at this; exact this) (by omega) (by omega)
  obtain ⟨bq, oq, haq, hrowq⟩ := sq_cells hQ (n := n) (by have := hn.rows; rw [con_length, ← hnn] at this; exact this) (by omega) (by omega)
  obtain ⟨bh, oh, hah, hch⟩ := up_row hs hh.eq (by rw [hh.len]; omega)
  rw [hQl] at hrowq
  rw [← hnn] at hrow hrowq hh hn5
  rw [hh.len] at hch
  have HROW := Lib.hid (fun i (hi : i < n) => (let ⟨b', o', c, h⟩ := hrow i hi; ⟨b', o', c, fun u (hu : DrewTo w u) => h u hu.below⟩ : ∃ b' o' c, ∀ u, DrewTo w u → u.cell? ⟨b, o + i, none⟩ = some (.slice (some ⟨b', o', none⟩) n c) ∧ ∀ m, m < n → u.cell? ⟨b', o' + m, none⟩ = some (.int .i64 (cel T.con i m))))
  have HROQ := Lib.hid (fun i (hi : i < n) => (let ⟨b', o', c, h⟩ := hrowq i hi; ⟨b', o', c, fun u (hu : DrewTo w u) => h u hu.below⟩ : ∃ b' o' c, ∀ u, DrewTo w u → u.cell? ⟨bq, oq + i, none⟩ = some (.slice (some ⟨b', o', none⟩) n c) ∧ ∀ m, m < n → u.cell? ⟨b', o' + m, none⟩ = some (.int .i64 (cel Q.con i m))))
  have HH := Lib.hid (fun k (hk : k < n) u (hu : DrewTo w u) => hch u hu.below k hk)
  have HLT := Lib.hid (fun k (hk : k < n) => hh.at hk)
  have HN := Lib.hid hn
  have hni : (n : Int) ≤ 5 := by omega
  rw [ha, haq, hah]
  clear hT hQ hs hh hsl hQl hn5 hnn hn ha haq hah hrow hrowq hch
  go_enter Try.func47, Try.ntmps47
  go_wp2
  go_loopw [9, 10, 11] (fun sv iv _ wr => ∃ i : Nat, i ≤ n ∧ iv = .int .i64 i ∧ sv = .int .i64 (totH T.con Q.con H c n i) ∧ DrewTo w wr) (fun _ iv _ _ => n - (intOf iv).toNat)
  case atStart => exact ⟨0, Nat.zero_le _, rfl, by rw [totH_zero], DrewTo.refl _⟩
  case round =>
    obtain ⟨i, hi, rfl, rfl, hdw⟩ := hrel
    by_cases hlt : i < n
    · have hlti : (i : Int) < (n : Int) := by omega
      obtain ⟨A, hA⟩ : ∃ A, A = totH T.con Q.con H c n i := ⟨_, rfl⟩
      have hAb := HN.out.tot H (n := n) (by omega) i
      rw [← hA] at hAb ⊢
      have HS1 : Hid (totH T.con Q.con H c n (i + 1) = A + rowH T.con Q.con H c i n) := Lib.hid (by rw [totH_step, hA])
      have HD := Lib.hid hdw
      obtain ⟨p, hp⟩ : ∃ p, p = H.getD i 0 := ⟨_, rfl⟩
      have hpn := HLT.out i hlt
      have HHI := Lib.hid (fun u hu => HH.out i hlt u hu)
      rw [← hp] at hpn HHI
      have HP := Lib.hid hp
      have hpi : (p : Int) < (n : Int) := by omega
      obtain ⟨bi, oi, ci, hri⟩ := HROW.out i hlt
      obtain ⟨bp, op, cp, hrp⟩ := HROW.out p hpn
      obtain ⟨bf, of, cf, hrf⟩ := HROQ.out i hlt
      have HRI := Lib.hid hri
      have HRP := Lib.hid hrp
      have HRF := Lib.hid hrf
      obtain ⟨x, hx⟩ : ∃ x, x = cel T.con i p := ⟨_, rfl⟩
      have hxb := HN.out.grd.bound i p
      have HX := Lib.hid (fun u hu => (HRI.out u hu).2 p hpn)
      rw [← hx] at hxb HX
      have HXE := Lib.hid hx
      clear hA hdw hp hri hrp hrf hx
      go_wp2
      go_loopw [9, 11] (fun sv jv wr => ∃ j : Nat, j ≤ n ∧ jv = .int .i64 j ∧ sv = .int .i64 (A + rowH T.con Q.con H c i j) ∧ DrewTo w wr) (fun _ jv _ => n - (intOf jv).toNat)
      case atStart => exact ⟨0, Nat.zero_le _, rfl, by rw [rowH_zero, Int.add_zero], HD.out⟩
      case round =>
        obtain ⟨j, hj, rfl, rfl, hdw⟩ := hrel
        by_cases hltj : j < n
        · have hltji : (j : Int) < (n : Int) := by omega
          obtain ⟨S, hS⟩ : ∃ S, S = A + rowH T.con Q.con H c i j := ⟨_, rfl⟩
          have hSb := HN.out.row H i j
          have hSb1 : 0 ≤ S := by omega
          have hSb2 : S ≤ 1470150 * 5 + 294030 * 5 := by omega
          have HST : Hid (A + rowH T.con Q.con H c i (j + 1) = S + flowV T.con Q.con H c i j) := Lib.hid (by rw [rowH_step, hS]; omega)
          rw [← hS]
          clear hS hSb
          by_cases hij : i = j
          · have hne : ((i : Int) != (j : Int)) = false := by rw [nat_neB, hij]; simp
            have HFL : Hid (flowV T.con Q.con H c i j = 0) := Lib.hid (by unfold flowV; rw [if_pos hij])
            clear hij
            go_wp2
            go_roundw
            case rel => exact ⟨j + 1, by omega, by go_num, by rw [HST.out, HFL.out, Int.add_zero], hdw⟩
            case measure => simp [intOf]; omega
          · have hne : ((i : Int) != (j : Int)) = true := by rw [nat_neB]; simp [hij]
            obtain ⟨q, hq⟩ : ∃ q, q = H.getD j 0 := ⟨_, rfl⟩
            have hqn := HLT.out j hltj
            have k1 := HH.out j hltj wr hdw
            rw [← hq] at hqn k1
            have hqi : (q : Int) < (n : Int) := by omega
            obtain ⟨bj, oj, cj, hrj⟩ := HROW.out j hltj
            have k0 := HHI.out wr hdw
            have r1 := (HRI.out wr hdw).1
            have r2 := HX.out wr hdw
            have r3 := (hrj wr hdw).1
            obtain ⟨y, hy⟩ : ∃ y, y = cel T.con j q := ⟨_, rfl⟩
            have r4 := (hrj wr hdw).2 q hqn
            have hyb := HN.out.grd.bound j q
            rw [← hy] at r4 hyb
            have r5 := (HRP.out wr hdw).1
            obtain ⟨z, hz⟩ : ∃ z, z = cel T.con p q := ⟨_, rfl⟩
            have r6 := (HRP.out wr hdw).2 q hqn
            have hzb := HN.out.disc p q
            rw [← hz] at r6 hzb
            have r7 := (HRF.out wr hdw).1
            obtain ⟨f, hf⟩ : ∃ f, f = cel Q.con i j := ⟨_, rfl⟩
            have r8 := (HRF.out wr hdw).2 j hltj
            rw [← hf] at r8
            obtain ⟨cz, hcz⟩ : ∃ t, t = c * z := ⟨_, rfl⟩
            rw [← hcz] at hzb
            obtain ⟨u, hu⟩ : ∃ u, u = 10 * (x + y) + cz := ⟨_, rfl⟩
            have hpr := HN.out.prod H i j
            have hfl : Hid (flowV T.con Q.con H c i j = f * (10 * (x + y) + cz)) := Lib.hid (by
              unfold flowV unitV; rw [if_neg hij, hf, HXE.out, hy, hcz, hz, ← HP.out, ← hq])
            have hfe : f * (10 * (x + y) + cz) = cel Q.con i j * unitV T.con H c i j := by unfold unitV; rw [hf, HXE.out, hy, hcz, hz, ← HP.out, ← hq]
            rw [← hfe] at hpr
            obtain ⟨pr, hprr⟩ : ∃ t, t = f * (10 * (x + y) + cz) := ⟨_, rfl⟩
            rw [← hprr] at hpr
            have e1 : IntKind.i64.wrap (x + y) = x + y := IntWalk.i64_in _ (by omega)
            have e2 : IntKind.i64.wrap (10 * (x + y)) = 10 * (x + y) := IntWalk.i64_in _ (by omega)
            have e3 : IntKind.i64.wrap (c * z) = cz := by rw [← hcz]; exact IntWalk.i64_in _ (by omega)
            have e4 : IntKind.i64.wrap (10 * (x + y) + cz) = 10 * (x + y) + cz := IntWalk.i64_in _ (by omega)
            have e5 : IntKind.i64.wrap (f * (10 * (x + y) + cz)) = pr := by rw [← hprr]; exact IntWalk.i64_in _ (by omega)
            have e6 : IntKind.i64.wrap (S + pr) = S + pr := IntWalk.i64_in _ (by omega)
            have HPR := Lib.hid hprr
            clear hij hq hrj hy hz hf hcz hu hfe hprr hqn
            go_wp2
            go_quiet (fail)
            go_wp2
            go_roundw
            case rel => exact ⟨j + 1, by omega, by go_num, by rw [HST.out, hfl.out, ← HPR.out], hdw.more _⟩
            case measure => simp [intOf]; omega
        · obtain rfl : j = n := by omega
          go_wp2
          go_roundw
          case rel => exact ⟨i + 1, by omega, by go_num, by rw [HS1.out], hdw⟩
          case measure => simp [intOf]; omega
    · obtain rfl : i = n := by omega
      go_wp2
      go_ret
      exact ⟨rfl, hdw⟩
end Go.Proofs.Ytmbgipllkbahpaa
