/- The radii of a set: the program's side. Condition: Field and set read as such. -/
import Derived.Test.YtjeodblaekdpkaaPairClientsOf
import Derived.Test.YtjeodblaekdpkaaPairIsMetric
namespace Go.Proofs.Ytjeodblaekdpkaa
open Go.RowKit

/-- The greatest length to a site of those of the first k clients that it serves. -/
def radS (F : Fld) (T : List Nat) (m : Nat) : Nat → Int
  | 0 => 0
  | k + 1 => if near (F.t.con.getD k []) T = m then max (radS F T m k) (F.len k m) else radS F T m k
def radL (F : Fld) (T : List Nat) (k : Nat) : List Int := T.map fun m => radS F T m k
theorem radL_len (F : Fld) (T : List Nat) (k : Nat) : (radL F T k).length = T.length := List.length_map _
theorem rad_like {F G : Fld} (h : F.Like G) (T : List Nat) (m : Nat) : ∀ k, radS F T m k = radS G T m k
  | 0 => rfl
  | k + 1 => by unfold radS; rw [rad_like h T m k, h.2, len_like h]
theorem rad_bound {F : Fld} (hg : F.good = true) (T : List Nat) (m : Nat) : ∀ k, k ≤ F.t.R.length → 0 ≤ radS F T m k ∧ radS F T m k ≤ 99
  | 0, _ => by unfold radS; omega
  | k + 1, h => by
    have h1 := rad_bound hg T m k (by omega)
    have h2 := len_bound hg (show k < F.t.R.length by omega) m
    unfold radS
    split <;> omega
/-- The greatest length of some clients to a site. -/
def maxC (F : Fld) (m : Nat) (L : List Int) : Int := L.foldl (fun b c => max b (F.len c.toNat m)) 0
theorem maxC_step {F : Fld} {m : Nat} {L : List Int} {k : Nat} (h : k < L.length) : maxC F m (L.take (k + 1)) = max (maxC F m (L.take k)) (F.len (L[k]).toNat m) := by
  unfold maxC; rw [List.take_succ_eq_append_getElem h, List.foldl_append]; rfl
theorem maxC_cli (F : Fld) (T : List Nat) (m : Nat) : ∀ k, maxC F m (cliTo F.t.con T m k) = radS F T m k
  | 0 => by simp [maxC, cliTo, radS]
  | k + 1 => by
    have ih := maxC_cli F T m k
    rw [cli_step]
    unfold radS
    by_cases h : near (F.t.con.getD k []) T = m
    · rw [if_pos h, if_pos h]
      unfold maxC at *
      rw [List.foldl_append, ih]
      simp
    · rw [if_neg h, if_neg h, List.append_nil, ih]
theorem cli_mem {d : List (List Int)} {T : List Nat} {m k : Nat} {c : Int} (h : c ∈ cliTo d T m k) : ∃ i : Nat, c = i ∧ i < k := by
  unfold cliTo at h
  obtain ⟨i, hi, rfl⟩ := List.mem_map.1 h
  exact ⟨i, rfl, List.mem_range.1 (List.mem_filter.1 hi).1⟩

/-- What RadiiOf answers. -/
def Radii (F : Fld) (s : Row) (l : List Int) (b : Bool) : Prop :=
  (twoB F s = false ∧ l = [] ∧ b = false) ∨ (∃ T, Fine F s T ∧ twoB F s = true ∧ l = radL F T F.t.R.length ∧ b = true)
theorem radii_rows {F G : Fld} (h : F.Like G) : F.t.R.length = G.t.R.length := by have := congrArg List.length h.2; rw [con_length, con_length] at this; exact this
theorem radii_like {F G : Fld} {s t : Row} {l : List Int} {b : Bool} (h : Radii F s l b) (hl : G.Like F) (hs : t.l = s.l) : Radii G t l b := by
  rcases h with ⟨h1, h2, h3⟩ | ⟨T, hf, h1, h2, h3⟩
  · exact .inl ⟨by rw [twoB_like hl hs]; exact h1, h2, h3⟩
  · refine .inr ⟨T, fine_like hf hl hs, by rw [twoB_like hl hs]; exact h1, ?_, h3⟩
    rw [h2, radii_rows hl]
    unfold radL
    congr 1
    funext m
    exact (rad_like hl T m _).symm
theorem radii_some (F : Fld) (s : Row) (hsm : s.l.length ≤ 1048576) : ∃ (l : List Int) (b : Bool), Radii F s l b ∧ l.length ≤ 1048576 := by
  by_cases h : twoB F s = true
  · obtain ⟨T, hf⟩ := fine_of h
    exact ⟨_, _, .inr ⟨T, hf, h, rfl, rfl⟩, by rw [radL_len]; exact set_few hf hsm⟩
  · exact ⟨_, _, .inl ⟨by simpa using h, rfl, rfl⟩, by simp⟩

set_option maxRecDepth 16000 in
set_option maxHeartbeats 4000000 in
theorem implRadii_any (F : Fld) (s : Row) (w : World) (hF : F.At w) (hs : s.At w) (hsm : s.l.length ≤ 1048576) (l : List Int) (b : Bool) (hv : Radii F s l b) :
    Calls Try.prog 13 #[F.val, .slice s.a s.l.length s.c] w (PInts l b w) := by
  obtain ⟨i0, hi, hz0, hz1, hz2⟩ := info_parts infoInt
  obtain ⟨wA, hA, hbA, bx, hFA, hszA⟩ := laid_fld F w 29 hF
  have HSA := Lib.hid (hs.on hbA)
  have HFA := Lib.hid hFA
  have HBX := Lib.hid bx
  have HA := Lib.hid hA
  have hwA := hbA.size
  have x0 := bx.c0
  have x1 := bx.c1
  rw [hA] at x0 x1
  rcases hv with ⟨hv, rfl, rfl⟩ | ⟨T, hf, hv, rfl, rfl⟩
  · have CT := Lib.hid (implClients_any F s wA hFA HSA.out hsm [] false (.inl ⟨hv, rfl, rfl⟩))
    clear hF hs hA hFA bx hv
    show Calls _ _ #[.agg #[F.o.val, F.t.val], _] w _
    go_enter Try.func13, Try.ntmps13
    go_wp2_with fail
    rw [show w.alloc (Obj.cells #[F.o.val, F.t.val] 29) = wA from HA.out.symm]
    refine (show Calls _ _ _ _ _ from CT.out).mono ?_
    rintro e W1 ⟨G, rfl, hcon, -, -, hb1⟩
    have hG0 : G.R.length = 0 := by have := congrArg List.length hcon; rw [con_length] at this; simpa using this
    have hbw := hbA.trans (hb1.mono hwA)
    have HEND : Hid (PInts [] false w (.returned (.tuple #[.slice (some ⟨W1.heap.size, 0, none⟩) 0 0, .bool false])) (W1.alloc (.cells #[] 3))) := Lib.hid (ints_end rfl (empty_own W1) hbw.size (hbw.trans ((below_alloc W1 _).mono hbw.size)))
    clear x0 x1 hcon hb1 hbw
    rw [hG0]
    clear hG0
    go_wp2
    go_loopw [8, 9, 10, 11, 13, 23] (fun out _ _ _ _ jv wr => jv = .int .i64 ((0 : Nat) : Int) ∧ out = .slice (some ⟨W1.heap.size, 0, none⟩) 0 0 ∧ wr = W1.alloc (.cells #[] 3)) (fun _ _ _ _ _ _ _ => 0)
    case atStart => exact ⟨rfl, rfl, rfl⟩
    case round =>
      obtain ⟨rfl, rfl, rfl⟩ := hrel
      go_wp2
      go_ret2
      exact HEND.out
  · have CT := Lib.hid (implClients_any F s wA hFA HSA.out hsm _ true (.inr ⟨T, hf, hv, rfl, rfl⟩))
    have hsz := good_sizes hf.good
    have HFI := Lib.hid hf
    have hTs := set_few hf hsm
    obtain ⟨q, hq⟩ : ∃ q, q = T.length := ⟨_, rfl⟩
    have HQ := Lib.hid hq
    have hqi : (q : Int) ≤ 1048576 := by omega
    obtain ⟨n, hn⟩ : ∃ n, n = F.t.R.length := ⟨_, rfl⟩
    have HN := Lib.hid hn
    have hni : (n : Int) ≤ 7 := by omega
    have hoi : (F.o.l.length : Int) ≤ 7 := by omega
    have hsl : (s.l.length : Int) ≤ 1048576 := by omega
    clear hF hs hA hFA bx hv hf hsz hTs hq hn
    show Calls _ _ #[.agg #[F.o.val, F.t.val], _] w _
    go_enter Try.func13, Try.ntmps13
    go_wp2_with fail
    rw [show w.alloc (Obj.cells #[F.o.val, F.t.val] 29) = wA from HA.out.symm]
    refine (show Calls _ _ _ _ _ from CT.out).mono ?_
    rintro e W1 ⟨G, rfl, hcon, -, hGi, hb1⟩
    have hGl : G.R.length = q := by have := congrArg List.length hcon; rw [con_length, List.length_map, ← HQ.out] at this; exact this
    have HGL := Lib.hid hGl
    have HCON := Lib.hid hcon
    have HGI := Lib.hid hGi.at
    have HB1 := Lib.hid hb1
    have hsz1 := hb1.size
    have hown0 := Lib.hid (empty_own W1)
    have hbel0 := Lib.hid (below_alloc W1 (.cells #[] 3))
    rw [hGl]
    clear x0 x1 hcon hGi hb1 hGl
    go_wp2
    go_loopw [8, 9, 10, 11, 13, 23] (fun out _ _ _ _ jv wr => ∃ p : Nat, p ≤ q ∧ jv = .int .i64 p ∧ wr.ownsRow W1.heap.size 3 1 out p (iv ((radL F T n).take p)) ∧ Below W1.heap.size W1 wr) (fun _ _ _ _ _ jv _ => q - (intOf jv).toNat)
    case atStart => exact ⟨0, Nat.zero_le _, rfl, by rw [List.take_zero]; exact hown0.out, hbel0.out⟩
    case round =>
      obtain ⟨p, hp, rfl, hown, hnx⟩ := hrel
      have HOW := Lib.hid hown
      have HNX := Lib.hid hnx
      have hszr := hnx.size
      clear hown
      by_cases hlt : p < q
      · have hlti : (p : Int) < (q : Int) := by omega
        have hpT : p < T.length := by rw [← HQ.out]; exact hlt
        have hpG : p < G.R.length := by rw [HGL.out]; exact hlt
        rcases HGI.out.1.2.2 with h3 | ⟨bg, og, hga, hgb, hgc⟩
        · have h3' := congrArg List.length h3; rw [tv_length, List.length_nil] at h3'; omega
        obtain ⟨c, hc⟩ : ∃ c, c = G.R[p] := ⟨_, rfl⟩
        have hcg : wr.cell? ⟨bg, og + p, none⟩ = some (.slice c.a c.l.length c.c) := (hnx.cell (p := ⟨bg, og + p, none⟩) hgb).trans (by rw [hc]; exact hgc p _ (tv_at hpG))
        obtain ⟨m, hm⟩ : ∃ m, m = T[p] := ⟨_, rfl⟩
        have hcl : c.l = cliTo F.t.con T m n := by
          have h1 : G.con[p]'(by rw [con_length]; exact hpG) = c.l := by rw [con_at G hpG, hc]
          rw [← h1]
          simp only [HCON.out, List.getElem_map]
          rw [hm, HN.out]
        have hmo : m < F.o.l.length := HFI.out.lt m (by rw [hm]; exact List.getElem_mem _)
        have hcat : c.At W1 := HGI.out.2 c (by rw [hc]; exact List.getElem_mem _)
        have HCL := Lib.hid hcl
        have HCA := Lib.hid hcat
        have hcn : c.l.length ≤ 7 := by rw [hcl]; have := cli_len F.t.con T m n; omega
        have hcni : (c.l.length : Int) ≤ 7 := by omega
        -- the set's cell
        rcases HSA.out.2.2 with h3 | ⟨bs, os, hsa, hsb, hsc⟩
        · have h3' := congrArg List.length (iv_nil h3); rw [List.length_nil, HFI.out.set, up_length] at h3'; omega
        have HMS : Hid (wA.cell? ⟨bs, os + p, none⟩ = some (.int .i64 (m : Int))) := Lib.hid (by
          have h4 : p < (up T).length := by rw [up_length]; exact hpT
          have h5 := hsc p (.int .i64 ((up T)[p])) (by rw [HFI.out.set]; exact iv_at h4)
          rw [up_at hpT, ← hm] at h5; exact h5)
        have hpsl : (p : Int) < (s.l.length : Int) := by rw [HFI.out.set, up_length]; omega
        have HSTP : Hid ((radL F T n).take (p + 1) = (radL F T n).take p ++ [radS F T m n]) := Lib.hid (by
          rw [List.take_succ_eq_append_getElem (by rw [radL_len]; exact hpT)]
          unfold radL
          rw [List.getElem_map, hm])
        rw [hga]
        have hmi : (m : Int) < (F.o.l.length : Int) := by omega
        have HSAA := Lib.hid hsa
        clear hc hm hcl hcat hga hgc hsc hpT hpG hnx hsa
        go_wp2
        go_loopw [11, 13, 30] (fun rv _ kv wi => ∃ k : Nat, k ≤ c.l.length ∧ kv = .int .i64 k ∧ rv = .int .i64 (maxC F m (c.l.take k)) ∧ Below wr.heap.size wr wi) (fun _ _ kv _ => c.l.length - (intOf kv).toNat)
        case atStart => exact ⟨0, Nat.zero_le _, rfl, rfl, Below.refl _ _⟩
        case round =>
          obtain ⟨k, hk, rfl, rfl, hnk⟩ := hrel
          have HNK := Lib.hid hnk
          have hb1k := HNX.out.trans (hnk.mono hszr)
          have HB1K := Lib.hid hb1k
          have hbAk := HB1.out.trans (hb1k.mono hsz1)
          have HBAK := Lib.hid hbAk
          obtain ⟨y, hy⟩ : ∃ y, y = maxC F m (c.l.take k) := ⟨_, rfl⟩
          rw [← hy]
          by_cases hltk : k < c.l.length
          · have hltki : (k : Int) < (c.l.length : Int) := by omega
            rcases HCA.out.2.2 with h3 | ⟨b, o, hca, hb, hcell⟩
            · have h3' := congrArg List.length (iv_nil h3); rw [List.length_nil] at h3'; omega
            obtain ⟨i, hie, hin⟩ := cli_mem (show c.l[k] ∈ cliTo F.t.con T m n by rw [← HCL.out]; exact List.getElem_mem _)
            have hcx : wr.cell? ⟨b, o + k, none⟩ = some (.int .i64 (i : Int)) := (hb1k.cell (p := ⟨b, o + k, none⟩) hb).trans (by rw [← hie]; exact hcell k _ (iv_at hltk))
            have hiR : i < F.t.R.length := by rw [← HN.out]; exact hin
            have hini : (i : Int) < (n : Int) := by omega
            obtain ⟨bt, ot, bi, oi, ci, hta, hci, hri⟩ := row_cells (HFA.out.on hbAk) HFI.out.good (DrewTo.refl _) hiR
            have y1 : wr.cell? ⟨w.heap.size, 1, none⟩ = some (.slice (some ⟨bt, ot, none⟩) n F.t.c) := by rw [HN.out, ← hta]; exact (HBX.out.on hbAk).c1
            obtain ⟨x, hx⟩ : ∃ x, x = F.len i m := ⟨_, rfl⟩
            have hcm := hri m hmo
            rw [← hx] at hcm
            have hcs : wr.cell? ⟨bs, os + p, none⟩ = some (.int .i64 (m : Int)) := (hbAk.cell (p := ⟨bs, os + p, none⟩) hsb).trans HMS.out
            have HST : Hid (maxC F m (c.l.take (k + 1)) = max y x) := Lib.hid (by rw [maxC_step hltk, hie, hy, hx]; rfl)
            rw [hca, HSAA.out]
            clear hy hx hcell hca hie hri hta hnk hb1k hbAk hiR
            go_wp2
            go_quiet (fail)
            have HB8 := Lib.hid (HNK.out.trans ((below_draws wr nq).mono HNK.out.size))
            go_wp2
            go_roundw
            case rel => exact ⟨k + 1, by omega, by go_num, by rw [HST.out]; first | done | rfl | (congr 1; omega), HB8.out⟩
            case measure => simp [intOf]; omega
          · have hke : k = c.l.length := by omega
            have HY : Hid (y = radS F T m n) := Lib.hid (by rw [hy, hke, List.take_length, HCL.out, maxC_cli])
            have hki : ¬ (k : Int) < (c.l.length : Int) := by omega
            have hown := owns_below HOW.out HNK.out
            have hszk := HB1K.out.size
            clear hy hke hnk hb1k hbAk
            go_wp2_with (at_builtin; refine wpList_append_own _ rfl _ _ 22 rfl W1.heap.size 3 i0 (.int .i64 0) 1 8 Try.underlying22 hi hz0 hz1 hz2 rfl (by decide) _ _ _ rfl (hown.alloc _) ⟨_, 0, none⟩ 1 1 [.int .i64 y] rfl rfl (one_cell _ _ _) (by simp [Value.oneCell']) (by unfold maxLen; omega) (by omega) (by simp; omega) ?_; intro v' w1 hown' hgrow _)
            have R1 : w1.ownsRow W1.heap.size 3 1 v' (p + 1) (iv ((radL F T n).take (p + 1))) := by rw [HSTP.out, ← HY.out]; simpa [iv] using hown'
            have R2 : Below W1.heap.size W1 w1 := (HB1K.out.alloc (by omega) _).grown hgrow (by simp; omega) (fun j hj => (hown.lt j hj).1)
            clear hown' hgrow hown
            go_wp2
            go_roundw
            case rel => exact ⟨p + 1, by omega, by go_num, R1, R2⟩
            case measure => simp [intOf]; omega
      · obtain rfl : p = q := by omega
        have hfull : (radL F T n).take p = radL F T n := List.take_of_length_le (by rw [radL_len, ← HQ.out]; exact Nat.le_refl _)
        have h9 := HOW.out
        rw [hfull] at h9
        have HN2 := Lib.hid (show radL F T F.t.R.length = radL F T n by rw [HN.out])
        have h10 := Lib.hid h9
        clear hfull h9
        go_wp2
        go_ret2
        rw [HN2.out]
        exact ints_end (by rw [radL_len, ← HQ.out]) h10.out (Nat.le_trans hwA hsz1) (hbA.trans ((HB1.out.trans (hnx.mono hsz1)).mono hwA))
end Go.Proofs.Ytjeodblaekdpkaa
