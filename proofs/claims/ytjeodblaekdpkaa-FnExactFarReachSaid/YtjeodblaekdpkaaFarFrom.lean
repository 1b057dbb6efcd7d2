/- Clients that are far from others: the program's side. Condition: a valid Field, clients that are there. -/
import Derived.Test.YtjeodblaekdpkaaFarImpl
import Derived.Deep.RegionHeld3
import Derived.Deep.AppendLies
namespace Go.Proofs.Ytjeodblaekdpkaa
open Go.RowKit

/-- No site is near to both clients. -/
def apartB (F : Fld) (r : Int) (i j : Nat) : Bool := decide (∀ a, a < F.o.l.length → ¬ (F.len i a ≤ r ∧ F.len j a ≤ r))
theorem apart_like {F G : Fld} (h : F.Like G) (r : Int) (i j : Nat) : apartB F r i j = apartB G r i j := by
  unfold apartB
  rw [h.1]
  simp only [len_like h]
theorem apart_marks {F : Fld} (hg : F.good = true) (r : Int) {i j : Nat} (hi : i < F.t.R.length) (hj : j < F.t.R.length) (u : Nat → Bool)
    (hu : u = fun a => nearAt F.t.R[i].l r F.t.R[i].l.length a && nearAt F.t.R[j].l r F.t.R[j].l.length a) :
    (!u 0 && !u 1 && !u 2 && !u 3 && !u 4 && !u 5 && !u 6) = apartB F r i j := by
  have hn := good_sizes hg
  have e1 := (good_row hg (List.getElem_mem hi)).1
  have e2 := (good_row hg (List.getElem_mem hj)).1
  have hA : ∀ a, u a = (decide (a < F.o.l.length) && (decide (F.len i a ≤ r) && decide (F.len j a ≤ r))) := fun a => by
    rw [hu]; simp only; unfold nearAt
    rw [e1, e2, len_at F hi, len_at F hj]
    cases decide (a < F.o.l.length) <;> simp
  rw [Bool.eq_iff_iff]
  unfold apartB
  rw [decide_eq_true_iff]
  simp only [Bool.and_eq_true, Bool.not_eq_true', and_assoc]
  constructor
  · rintro ⟨h0, h1, h2, h3, h4, h5, h6⟩ a ha hl
    have hu1 : u a = true := by rw [hA]; simp [ha, hl]
    rcases lt7 (by omega : a < 7) with rfl | rfl | rfl | rfl | rfl | rfl | rfl
    · rw [hu1] at h0; cases h0
    · rw [hu1] at h1; cases h1
    · rw [hu1] at h2; cases h2
    · rw [hu1] at h3; cases h3
    · rw [hu1] at h4; cases h4
    · rw [hu1] at h5; cases h5
    · rw [hu1] at h6; cases h6
  · intro h
    have hF : ∀ a, u a = false := fun a => by
      rw [hA, Bool.eq_false_iff]
      intro e
      simp only [Bool.and_eq_true, decide_eq_true_eq] at e
      exact h a e.1 e.2
    exact ⟨hF 0, hF 1, hF 2, hF 3, hF 4, hF 5, hF 6⟩

theorem row_far {w : World} {F : Fld} (hF : F.At w) (hg : F.good = true) (r : Int) {i : Nat} (hi : i < F.t.R.length) :
    Calls Try.prog 96 #[.slice F.t.R[i].a F.t.R[i].l.length F.t.R[i].c, .int .i64 r] w fun e w' => e = .returned (nearV (nearAt F.t.R[i].l r F.t.R[i].l.length)) ∧ Below w.heap.size w w' :=
  sitesWithin_any _ r w (hF.2.2 _ (List.getElem_mem hi)) (by have := good_sizes hg; rw [(good_row hg (List.getElem_mem hi)).1]; omega)

/-- Far from the first k of some others. -/
def farTo (F : Fld) (r : Int) (i : Nat) (T : List Nat) : Bool := T.all fun j => apartB F r i j

set_option maxRecDepth 16000 in
set_option maxHeartbeats 4000000 in
theorem isFarFrom_any (F : Fld) (i : Nat) (s : Row) (T : List Nat) (r : Int) (w : World) (hF : F.At w) (hs : s.At w) (hg : F.good = true) (hi : i < F.t.R.length) (hsl : s.l = up T) (hT : ∀ j ∈ T, j < F.t.R.length) (hsm : s.l.length ≤ 1048576) :
    Calls Try.prog 89 #[F.val, .int .i64 i, .slice s.a s.l.length s.c, .int .i64 r] w fun e w' => e = .returned (.bool (farTo F r i T)) ∧ Below w.heap.size w w' := by
  obtain ⟨wA, hA, hbA, bx, hFA, _⟩ := laid_fld F w 29 hF
  have hsA := hs.on hbA
  have hsz := good_sizes hg
  have hmi : (F.t.R.length : Int) ≤ 7 := by omega
  have hii : (i : Int) < (F.t.R.length : Int) := by omega
  obtain ⟨hr1, hr2, hr3⟩ := hFA.2.1
  rcases hr3 with hr3 | ⟨bt, ot, hta, hbt, hct⟩
  · have h3' := congrArg List.length hr3; rw [tv_length, List.length_nil] at h3'; omega
  obtain ⟨x, hx⟩ : ∃ x, x = F.t.R[i] := ⟨_, rfl⟩
  have hci : wA.cell? ⟨bt, ot + i, none⟩ = some (.slice x.a x.l.length x.c) := by rw [hx]; exact hct i _ (tv_at hi)
  have C1 := Lib.hid (by have := row_far hFA hg r hi; rw [← hx] at this; exact this)
  have HCT := Lib.hid hct
  have HFA := Lib.hid hFA
  have HBX := Lib.hid bx
  have HA := Lib.hid hA
  have x1 : wA.cell? ⟨w.heap.size, 1, none⟩ = some (.slice (some ⟨bt, ot, none⟩) F.t.R.length F.t.c) := by rw [← hta]; exact bx.c1
  have HX1 := Lib.hid x1
  have HA1 : Hid (wA = w.alloc (Obj.cells #[F.o.val, .slice (some ⟨bt, ot, none⟩) F.t.R.length F.t.c] 29)) := Lib.hid (by rw [← hta]; exact hA)
  rw [HA1.out] at x1 hci
  have HX := Lib.hid hx
  have HTA := Lib.hid hta
  have HG := Lib.hid hg
  have HSL := Lib.hid hsl
  have HTT := Lib.hid hT
  have HSA := Lib.hid hsA
  obtain ⟨n, hn⟩ : ∃ n, n = s.l.length := ⟨_, rfl⟩
  have HN := Lib.hid hn
  have hni : (n : Int) ≤ 1048576 := by omega
  clear hF hs hA bx hFA hsA hct hx hg hsl hT hsz hr1 hr2
  show Calls _ _ #[.agg #[F.o.val, .slice F.t.a F.t.R.length F.t.c], _, _, _] w _
  rw [HTA.out, ← hn]
  clear hta hn
  go_enter Try.func89, Try.ntmps89
  go_wp2_with fail
  rw [← HA1.out]
  refine (show Calls _ _ _ _ _ from C1.out).mono ?_
  rintro e W1 ⟨rfl, hb1⟩
  clear x1 hci
  unfold nearV arr7
  obtain ⟨p, hp⟩ : ∃ p : Nat → Bool, p = nearAt x.l r x.l.length := ⟨_, rfl⟩
  have hpa : ∀ a, nearAt x.l r x.l.length a = p a := fun a => by rw [hp]
  simp only [hpa]
  obtain ⟨W2, hW2⟩ : ∃ u, u = W1.alloc (Obj.cells (arr7 p) 93) := ⟨_, rfl⟩
  have HN2 : Hid (Near7 W2 W1.heap.size p) := Lib.hid (by rw [hW2]; exact heap_alloc_new _ _)
  have HB2 : Hid (Below wA.heap.size wA W2) := Lib.hid (by rw [hW2]; exact hb1.trans ((below_alloc _ _).mono hb1.size))
  have HW2 : Hid (W2 = W1.alloc (Obj.cells #[.bool (p 0), .bool (p 1), .bool (p 2), .bool (p 3), .bool (p 4), .bool (p 5), .bool (p 6)] 93)) := Lib.hid hW2
  have HP := Lib.hid hp
  have hsz2 := HB2.out.size
  have hTn : T.length = n := by have := congrArg List.length HSL.out; rw [up_length, ← HN.out] at this; exact this.symm
  have HTN := Lib.hid hTn
  clear hW2 hp hpa hb1 hTn
  go_wp2
  rw [show W1.alloc (Obj.cells #[.bool (p 0), .bool (p 1), .bool (p 2), .bool (p 3), .bool (p 4), .bool (p 5), .bool (p 6)] 93) = W2 from HW2.out.symm]
  go_loopw [11, 21] (fun _ iv wr => ∃ k : Nat, k ≤ n ∧ iv = .int .i64 k ∧ farTo F r i (T.take k) = true ∧ Below W2.heap.size W2 wr) (fun _ iv _ => n - (intOf iv).toNat)
  case atStart => exact ⟨0, Nat.zero_le _, rfl, rfl, Below.refl _ _⟩
  case round =>
    obtain ⟨k, hk, rfl, hfar, hnx⟩ := hrel
    have HFAR := Lib.hid hfar
    have HNX := Lib.hid hnx
    have hszr := hnx.size
    clear hfar
    by_cases hlt : k < n
    · have hlti : (k : Int) < (n : Int) := by omega
      rcases HSA.out.2.2 with h3 | ⟨b, o, ha, hbb, hcell⟩
      · have h3' := congrArg List.length (iv_nil h3); rw [List.length_nil, ← HN.out] at h3'; omega
      have hkT : k < T.length := by rw [HTN.out]; exact hlt
      obtain ⟨j, hj⟩ : ∃ j, j = T[k] := ⟨_, rfl⟩
      have hcl : wr.cell? ⟨b, o + k, none⟩ = some (.int .i64 (j : Int)) := by
        refine ((HB2.out.trans (hnx.mono hsz2)).cell (p := ⟨b, o + k, none⟩) hbb).trans ?_
        have h4 : k < (up T).length := by rw [up_length]; exact hkT
        have h5 := hcell k (.int .i64 ((up T)[k])) (by rw [HSL.out]; exact iv_at h4)
        rw [up_at hkT, ← hj] at h5; exact h5
      have hjm : j < F.t.R.length := HTT.out j (by rw [hj]; exact List.getElem_mem _)
      have hji : (j : Int) < (F.t.R.length : Int) := by omega
      obtain ⟨y, hy⟩ : ∃ y, y = F.t.R[j] := ⟨_, rfl⟩
      have hcj : wA.cell? ⟨bt, ot + j, none⟩ = some (.slice y.a y.l.length y.c) := by rw [hy]; exact HCT.out j _ (tv_at hjm)
      have HBR : Hid (Below wA.heap.size wA wr) := Lib.hid (HB2.out.trans (hnx.mono hsz2))
      have D1 := Lib.hid (fun u (hu : Below wr.heap.size wr u) => by have := row_far (HFA.out.on (HBR.out.trans (hu.mono HBR.out.size))) HG.out r hjm; rw [← hy] at this; exact this : ∀ u, Below wr.heap.size wr u → Calls Try.prog 96 #[.slice y.a y.l.length y.c, .int .i64 r] u fun e w' => e = .returned (nearV (nearAt y.l r y.l.length)) ∧ Below u.heap.size u w')
      obtain ⟨q, hq⟩ : ∃ q : Nat → Bool, q = nearAt y.l r y.l.length := ⟨_, rfl⟩
      rw [← hq] at D1
      have D2 := Lib.hid (fun u => shared_any p q u : ∀ u, Calls Try.prog 114 #[.agg #[.bool (p 0), .bool (p 1), .bool (p 2), .bool (p 3), .bool (p 4), .bool (p 5), .bool (p 6)], nearV q] u fun e w' => e = .returned (nearV (fun a => p a && q a)) ∧ Below u.heap.size u w')
      obtain ⟨v, hv⟩ : ∃ v, v = apartB F r i j := ⟨_, rfl⟩
      obtain ⟨nv, hnv⟩ : ∃ nv, nv = nearV (fun a => p a && q a) := ⟨_, rfl⟩
      have D3 := Lib.hid (fun u => by have := isEmpty_any (fun a => p a && q a) u; rw [apart_marks HG.out r hi hjm (fun a => p a && q a) (by rw [HP.out, hq, HX.out, hy]), ← hv, ← hnv] at this; exact this : ∀ u, Calls Try.prog 97 #[nv] u fun e w' => e = .returned (.bool v) ∧ Below u.heap.size u w')
      rw [← hnv] at D2
      obtain ⟨nq, hnq⟩ : ∃ nq, nq = nearV q := ⟨_, rfl⟩
      rw [← hnq] at D1 D2
      have HST : Hid (v = true → farTo F r i (T.take (k + 1)) = true) := Lib.hid fun e => by
        unfold farTo at *
        exact all_take hkT HFAR.out (by rw [← hj, ← hv, e])
      have HNO : Hid (v = false → farTo F r i T = false) := Lib.hid fun e => by
        unfold farTo
        exact all_out hkT (by rw [← hj, ← hv, e])
      have HS : Hid (∀ u, Below wr.heap.size wr u → ((u.cell? ⟨w.heap.size, 1, none⟩ = some (.slice (some ⟨bt, ot, none⟩) F.t.R.length F.t.c) ∧ u.cell? ⟨bt, ot + j, none⟩ = some (.slice y.a y.l.length y.c) ∧ (u.cell? ⟨W1.heap.size, 0, none⟩ = some (.bool (p 0)) ∧ u.cell? ⟨W1.heap.size, 1, none⟩ = some (.bool (p 1)) ∧ u.cell? ⟨W1.heap.size, 2, none⟩ = some (.bool (p 2)) ∧ u.cell? ⟨W1.heap.size, 3, none⟩ = some (.bool (p 3))) ∧ u.cell? ⟨W1.heap.size, 4, none⟩ = some (.bool (p 4)) ∧ u.cell? ⟨W1.heap.size, 5, none⟩ = some (.bool (p 5)) ∧ u.cell? ⟨W1.heap.size, 6, none⟩ = some (.bool (p 6))) ∧ Below wr.heap.size wr u)) := Lib.hid fun u hu => by
        have h1 := HBR.out.trans (hu.mono HBR.out.size)
        have h2 := ((HN2.out.on HNX.out).on hu).cells
        exact ⟨⟨(h1.cell (p := ⟨w.heap.size, 1, none⟩) (World.block_lt_of_cell? _ _ HX1.out)).trans HX1.out, (h1.cell (p := ⟨bt, ot + j, none⟩) hbt).trans hcj, h2.1, h2.2⟩, hu⟩
      have s0 := HS.out wr.drew (Below.refl _ _).drew
      rw [ha]
      have hki2 : (n : Int) ≤ 1048576 := hni
      clear hj hcell ha hy hcj hq hv hnv hnq hjm hkT
      go_wp2_with fail
      go_region_held3 (fun u => ((u.cell? ⟨w.heap.size, 1, none⟩ = some (.slice (some ⟨bt, ot, none⟩) F.t.R.length F.t.c) ∧ u.cell? ⟨bt, ot + j, none⟩ = some (.slice y.a y.l.length y.c) ∧ (u.cell? ⟨W1.heap.size, 0, none⟩ = some (.bool (p 0)) ∧ u.cell? ⟨W1.heap.size, 1, none⟩ = some (.bool (p 1)) ∧ u.cell? ⟨W1.heap.size, 2, none⟩ = some (.bool (p 2)) ∧ u.cell? ⟨W1.heap.size, 3, none⟩ = some (.bool (p 3))) ∧ u.cell? ⟨W1.heap.size, 4, none⟩ = some (.bool (p 4)) ∧ u.cell? ⟨W1.heap.size, 5, none⟩ = some (.bool (p 5)) ∧ u.cell? ⟨W1.heap.size, 6, none⟩ = some (.bool (p 6))) ∧ Below wr.heap.size wr u)) (first | exact s0 | exact keep_reg HS.out (by first | assumption | exact And.right (by assumption)) hb1) (first | (go_at_call 96; refine (show Calls _ _ _ _ _ from D1.out _ (by first | assumption | exact And.right (by assumption))).mono ?_; rintro e u1 ⟨rfl, hb1⟩) | (go_at_call 114; refine (show Calls _ _ _ _ _ from D2.out _).mono ?_; rintro e u1 ⟨rfl, hb1⟩) | (go_at_call 97; refine (show Calls _ _ _ _ _ from D3.out _).mono ?_; rintro e u1 ⟨rfl, hb1⟩))
      refine at_exit (W := wr) (by first | assumption | exact And.right (by assumption)) ?_
      intro W8 hb8
      have HB8 : Hid (Below W2.heap.size W2 W8) := Lib.hid (HNX.out.trans (hb8.mono HNX.out.size))
      clear s0 hb8
      cases v with
      | true =>
        have HS1 := Lib.hid (HST.out rfl)
        go_wp2
        go_roundw
        case rel => exact ⟨k + 1, by omega, by go_num, HS1.out, HB8.out⟩
        case measure => simp [intOf]; omega
      | false =>
        have HS1 := Lib.hid (HNO.out rfl)
        go_wp2
        go_ret
        exact ⟨by rw [HS1.out]; rfl, hbA.trans ((HB2.out.trans (HB8.out.mono hsz2)).mono hbA.size)⟩
    · obtain rfl : k = n := by omega
      have HE : Hid (farTo F r i T = true) := Lib.hid (by have := HFAR.out; rw [List.take_of_length_le (by rw [HTN.out]; exact Nat.le_refl _)] at this; exact this)
      go_wp2
      go_ret
      exact ⟨by rw [HE.out]; rfl, hbA.trans ((HB2.out.trans (hnx.mono hsz2)).mono hbA.size)⟩
end Go.Proofs.Ytjeodblaekdpkaa
