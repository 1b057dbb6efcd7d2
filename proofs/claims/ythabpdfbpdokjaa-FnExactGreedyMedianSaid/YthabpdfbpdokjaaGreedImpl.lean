/- GreedyMedian, the program's side. Condition: the Field reads as such. -/
import Derived.Test.YthabpdfbpdokjaaReverse
import Derived.Test.YthabpdfbpdokjaaPlainGreed
namespace Go.Proofs.Ythabpdfbpdokjaa
open Go.RowKit Go.Shelf

/-- What GreedyMedian answers. -/
def Greeds (F : Fld) (k : Int) (l : List Int) (b : Bool) : Prop :=
  (kB F k = false ∧ l = [] ∧ b = false) ∨ (∃ m : Nat, F.good = true ∧ k = m ∧ 1 ≤ m ∧ m ≤ F.o.l.length ∧ l = up (grD (servT F) F.o.l.length m) ∧ b = true)
theorem greeds_like {F G : Fld} {k : Int} {l : List Int} {b : Bool} (h : Greeds F k l b) (hl : G.Like F) : Greeds G k l b := by
  rcases h with ⟨h1, h2⟩ | ⟨m, h1, h2, h3, h4, h5, h6⟩
  · exact .inl ⟨by rw [kB_like hl]; exact h1, h2⟩
  · exact .inr ⟨m, by rw [hl.good]; exact h1, h2, h3, by rw [hl.1]; exact h4, by rw [servT_like hl, hl.1]; exact h5, h6⟩
theorem greeds_some (F : Fld) (k : Int) : ∃ l b, Greeds F k l b ∧ l.length ≤ 1048576 := by
  cases h : kB F k with
  | false => exact ⟨_, _, .inl ⟨h, rfl, rfl⟩, by simp⟩
  | true =>
    obtain ⟨hg, m, rfl, h1, h2⟩ := kB_nat h
    refine ⟨_, _, .inr ⟨m, hg, rfl, h1, h2, rfl, rfl⟩, ?_⟩
    have := (grD_ok (servT F) F.o.l.length m h2).len
    have h7 := good_sizes hg
    rw [up_length]; omega
theorem grC_mem {T U : List Nat} {n : Nat} (h : U ∈ grC T n) : ∃ i, i < n ∧ U = T ++ [i] := by
  unfold grC at h
  obtain ⟨i, hi, rfl⟩ := List.mem_map.1 h
  exact ⟨i, List.mem_range.1 (List.mem_filter.1 hi).1, rfl⟩
theorem grC_len (T : List Nat) (n : Nat) : (grC T n).length ≤ n := by
  unfold grC
  rw [List.length_map]
  exact Nat.le_trans (List.length_filter_le _ _) (by rw [List.length_range]; exact Nat.le_refl _)
theorem up_snocG (T : List Nat) (i : Nat) : up T ++ [(i : Int)] = up (T ++ [i]) := by unfold up; rw [List.map_append]; rfl
theorem contG_any (s : Row) (x : Int) (w : World) (hs : s.At w) (hsm : s.l.length ≤ 1048576) :
    Calls Try.prog 78 #[.slice s.a s.l.length s.c, .int .i64 x] w fun e w' => e = .returned (.bool (s.l.contains x)) ∧ w' = w := by
  obtain ⟨a, c, l⟩ := s
  obtain ⟨h1, h2, h3⟩ := hs
  simp only at h1 h2 h3 hsm ⊢
  by_cases h0 : l = []
  · subst h0
    exact Try.slices_Contains_int_empty a c x w
  rcases h3 with h3 | ⟨b, o, rfl, hb, hcell⟩
  · exact absurd (iv_nil h3) h0
  have := Try.slices_Contains_int b o l.length c l x w (Nat.le_refl _) (by omega) (fun j hj => by rw [hcell j _ (iv_at hj), List.getD_eq_getElem?_getD, List.getElem?_eq_getElem hj]; rfl)
  rw [List.take_length] at this; exact this
theorem contUp (T : List Nat) (i : Nat) : (up T).contains (i : Int) = decide (i ∈ T) := by
  rw [Bool.eq_iff_iff, List.contains_iff_mem, decide_eq_true_iff]
  unfold up
  rw [List.mem_map]
  constructor
  · rintro ⟨m, hm, e⟩
    have : m = i := by omega
    subst this; exact hm
  · intro h; exact ⟨i, h, rfl⟩
theorem cloneG_any (s : Row) (w : World) (hs : s.At w) (ha : s.a ≠ none) (hn : s.l.length ≤ 1048576) :
    Calls Try.prog 79 #[.slice s.a s.l.length s.c] w fun e w' => ∃ v', e = .returned v' ∧ w'.ownsRow w.heap.size 3 1 v' s.l.length (iv s.l) ∧ Below w.heap.size w w' := by
  obtain ⟨a, c, l⟩ := s
  obtain ⟨q1, q2, q3⟩ := hs
  simp only at q1 q2 q3 ha hn ⊢
  by_cases h0 : l = []
  · subst h0
    cases a with
    | none => exact absurd rfl ha
    | some x => exact (Try.slices_Clone_int_zero x c w).mono fun e w' ⟨v', h1, h2, _, h3⟩ => ⟨v', h1, h2, h3⟩
  · rcases q3 with h3 | ⟨bk, of, rfl, hbb, hcell⟩
    · exact absurd (iv_nil h3) h0
    have HC : ∀ j, j < l.length → w.cell? ⟨bk, of + j, none⟩ = some (.int .i64 (l.getD j 0)) := fun j hj => by
      rw [hcell j _ (iv_at hj), List.getD_eq_getElem?_getD, List.getElem?_eq_getElem hj]; rfl
    refine (Try.slices_Clone_int bk of l.length c l w (Nat.le_refl _) (by omega) HC).mono ?_
    rintro e w' ⟨v', rfl, ho, _, hb⟩
    rw [List.take_length] at ho
    exact ⟨v', rfl, ho, hb⟩

set_option maxRecDepth 32000 in
set_option maxHeartbeats 4000000 in
theorem implGreed_any (F : Fld) (k : Int) (w : World) (hF : F.At w) (l : List Int) (b : Bool) (hv : Greeds F k l b) :
    Calls Try.prog 34 #[F.val, .int .i64 k] w (PInts l b w) := by
  obtain ⟨j0, hj, hj0, hj1, hj2⟩ := info_parts infoInts
  obtain ⟨i0, hi, hz0, hz1, hz2⟩ := info_parts infoInt
  obtain ⟨wA, hA, hbA, bx, hFA, hszA⟩ := laid_fld F w 29 hF
  have HFA := Lib.hid hFA
  have HBX := Lib.hid bx
  have HA := Lib.hid hA
  have HV := Lib.hid hv
  have CT := Lib.hid (hasSites_any F k wA hFA)
  have x0 := bx.c0
  have x1 := bx.c1
  rw [hA] at x0 x1
  clear hF hA hFA bx hv
  show Calls _ _ #[.agg #[F.o.val, F.t.val], _] w _
  go_enter Try.func34, Try.ntmps34
  go_wp2_with fail
  rw [show w.alloc (Obj.cells #[F.o.val, F.t.val] 29) = wA from HA.out.symm]
  refine (show Calls _ _ _ _ _ from CT.out).mono ?_
  rintro e W1 ⟨rfl, hb1⟩
  have hbw := hbA.trans (hb1.mono hbA.size)
  have HEND : Hid (PInts [] false w (.returned (.tuple #[.slice (some ⟨W1.heap.size, 0, none⟩) 0 0, .bool false])) (W1.alloc (.cells #[] 3))) := Lib.hid (ints_end rfl (empty_own W1) hbw.size (hbw.trans ((below_alloc W1 _).mono hbw.size)))
  clear x0 x1
  obtain ⟨t, ht⟩ : ∃ t, t = kB F k := ⟨_, rfl⟩
  rw [← ht]
  have HT := Lib.hid ht
  clear ht
  cases t with
  | false =>
    obtain ⟨rfl, rfl⟩ : l = [] ∧ b = false := by
      rcases HV.out with ⟨_, h⟩ | ⟨m, h1, h2, h3, h4, _⟩
      · exact h
      · have := HT.out; unfold kB at this; rw [h1, h2] at this; simp at this; omega
    go_wp2
    go_ret2
    exact HEND.out
  | true =>
    obtain ⟨m, hg, rfl, hm1, hmo, hl, rfl⟩ : ∃ m : Nat, F.good = true ∧ k = m ∧ 1 ≤ m ∧ m ≤ F.o.l.length ∧ l = up (grD (servT F) F.o.l.length m) ∧ b = true := by
      rcases HV.out with ⟨h, _⟩ | h
      · rw [← HT.out] at h; cases h
      · exact h
    obtain ⟨n, hn⟩ : ∃ n, n = F.o.l.length := ⟨_, rfl⟩
    have HN := Lib.hid hn
    have hsz := good_sizes hg
    have hn7 : n ≤ 7 := by omega
    have hni : (n : Int) ≤ 7 := by omega
    have hmn : m ≤ n := by omega
    obtain ⟨φ, hφ⟩ : ∃ φ, φ = servT F := ⟨_, rfl⟩
    have HPHI := Lib.hid hφ
    have HL : Hid (l = up (grD φ n m)) := Lib.hid (by rw [hl, hn, hφ])
    have HOK := Lib.hid (grD_ok φ n)
    have HG := Lib.hid hg
    have HB1 := Lib.hid hb1
    have hwA := hbA.size
    have hwW := hbw.size
    have hmi : (m : Int) ≤ 7 := by omega
    obtain ⟨s, hsv, hsl, hso, hsi⟩ := row_of_own (empty_own W1)
    have HSV : Hid (Value.slice (some ⟨W1.heap.size, 0, none⟩) 0 0 = .slice s.a s.l.length s.c) := Lib.hid hsv
    have HSL : Hid (s.l = up (grD φ n 0)) := Lib.hid hsl
    have HSO := Lib.hid hso
    have HSI := Lib.hid (hsi.wide HB1.out.size (Nat.le_refl _))
    have HSN : Hid (s.a ≠ none) := Lib.hid (by intro h; simp only [Value.slice.injEq] at hsv; rw [h] at hsv; exact absurd hsv.1 (by simp))
    have HB2 := Lib.hid (HB1.out.trans ((below_alloc W1 (.cells #[] 3)).mono HB1.out.size))
    clear hl hn hsz hφ hb1 hbw hsv hsl hso hsi
    go_wp2
    go_loopw [6, 7, 8, 16, 22] (fun yv _ _ kv _ wr => ∃ (d : Nat) (y : Row), d ≤ m ∧ kv = .int .i64 d ∧ yv = .slice y.a y.l.length y.c ∧ Hid (y.l = up (grD φ n d)) ∧ Hid (y.a ≠ none) ∧ Hid (y.Own 3 wr) ∧ Hid (y.In wA.heap.size wr.heap.size wr) ∧ Below wA.heap.size wA wr) (fun _ _ _ kv _ _ => m - (intOf kv).toNat)
    case atStart => exact ⟨0, s, Nat.zero_le _, rfl, HSV.out, HSL, HSN, HSO, HSI, HB2.out⟩
    case round =>
      obtain ⟨d, y, hd, rfl, rfl, HYL, HYN, HYO, HYI, hnx⟩ := hrel
      obtain ⟨V, rfl⟩ : ∃ V, V = wr := ⟨_, rfl⟩
      have HNX := Lib.hid hnx
      have hszr := hnx.size
      by_cases hlt : d < m
      · have hlti : (d : Int) < (m : Int) := by omega
        obtain ⟨T, hT⟩ : ∃ T, T = grD φ n d := ⟨_, rfl⟩
        have hS := HOK.out d (by omega)
        rw [← hT] at hS HYL
        have HS := Lib.hid hS
        have HTT := Lib.hid hT
        have hyl : y.l.length = d := by rw [HYL.out, up_length, hS.len]
        have HYD := Lib.hid hyl
        obtain ⟨wB, hwB⟩ : ∃ u, u = V.alloc (.cells #[] 22) := ⟨_, rfl⟩
        have HG0 : Hid (Grows V.heap.size wB (.slice (some ⟨V.heap.size, 0, none⟩) 0 0) []) := Lib.hid (by rw [hwB]; exact tab_empty V)
        have HBB : Hid (Below V.heap.size V wB) := Lib.hid (by rw [hwB]; exact below_alloc _ _)
        have HWB := Lib.hid hwB
        have z0 : (V.alloc (.cells #[] 22)).cell? ⟨w.heap.size, 0, none⟩ = some (.slice F.o.a n F.o.c) := by
          rw [HN.out]; exact (HBX.out.on (HNX.out.trans ((below_alloc V (.cells #[] 22)).mono hszr))).c0
        clear hS hT hwB hnx
        rw [hyl]
        clear hyl
        go_wp2
        rw [← HWB.out]
        clear z0
        go_loopw [7, 8, 22] (fun fv _ iv' wi => ∃ (i : Nat) (Q : List Row), i ≤ n ∧ iv' = .int .i64 i ∧ Hid (Grows V.heap.size wi fv Q) ∧ Hid (Q.map Row.l = (grC T i).map up) ∧ Below V.heap.size V wi) (fun _ _ iv' _ => n - (intOf iv').toNat)
        case atStart => exact ⟨0, [], Nat.zero_le _, rfl, HG0, Lib.hid rfl, HBB.out⟩
        case round =>
          obtain ⟨i, Q, hi', rfl, HGR, HQM, hni2⟩ := hrel
          have HNI := Lib.hid hni2
          have hszi := hni2.size
          have HYA := Lib.hid (HYI.out.on hni2)
          by_cases hlti2 : i < n
          · have hii : (i : Int) < (n : Int) := by omega
            obtain ⟨v, hv⟩ : ∃ v, v = decide (i ∈ T) := ⟨_, rfl⟩
            have CH := Lib.hid (by have := contG_any y (i : Int) wr HYA.out.at (by rw [HYD.out]; omega); rw [HYL.out, contUp, ← hv, ← HYL.out, HYD.out] at this; exact this : Calls Try.prog 78 #[.slice y.a d y.c, .int .i64 i] wr fun e w' => e = .returned (.bool v) ∧ w' = wr)
            have HV2 := Lib.hid hv
            clear hni2 hv
            cases v with
            | true =>
              have HC : Hid (grC T (i + 1) = grC T i) := Lib.hid (grC_skip (decide_eq_true_iff.1 HV2.out.symm))
              go_wp2_with fail
              refine (show Calls _ _ _ wr _ from CH.out).mono ?_
              rintro e W4 ⟨rfl, rfl⟩
              go_wp2
              go_roundw
              case rel => exact ⟨i + 1, Q, by omega, by go_num, HGR, by rw [HC.out]; exact HQM, HNI.out⟩
              case measure => simp [intOf]; omega
            | false =>
              have HC : Hid (grC T (i + 1) = grC T i ++ [T ++ [i]]) := Lib.hid (grC_take (decide_eq_false_iff_not.1 HV2.out.symm))
              have hQl : Q.length ≤ 7 := by
                have := congrArg List.length HQM.out
                rw [List.length_map, List.length_map] at this
                have h2 := grC_len T i; omega
              have CL := Lib.hid (by have := cloneG_any y wr HYA.out.at HYN.out (by rw [HYD.out]; omega); rw [HYD.out] at this; exact this)
              go_wp2_with fail
              refine (show Calls _ _ _ wr _ from CH.out).mono ?_
              rintro e W3 ⟨rfl, rfl⟩
              go_wp2_with fail
              refine (show Calls _ _ _ W3 _ from CL.out).mono ?_
              rintro e W4 ⟨v4, rfl, ho4, hb4⟩
              have HGR4 := Lib.hid (HGR.out.on hb4)
              have HB4 := Lib.hid hb4
              have hs4 := hb4.size
              have HQN : Hid (Q.length ≤ 7) := Lib.hid hQl
              have hd7 : d ≤ 7 := by omega
              clear hb4
              go_wp2_with (first | (at_builtin; refine wpList_append_own_at _ rfl _ _ 22 rfl W3.heap.size 3 i0 (.int .i64 0) 1 8 Try.underlying22 hi hz0 hz1 hz2 rfl (by decide) _ _ _ rfl (ho4.alloc _) ⟨W4.heap.size, 0, none⟩ 1 1 [.int .i64 (i : Int)] rfl rfl (one_cell _ _ _) (by simp [Value.oneCell']) (by unfold maxLen; omega) (by omega) (by simp; omega) ?_; intro v5 w5 hown5 hgrow5 hnil5 hloc5; rw [← HYD.out] at hown5; obtain ⟨t, ht, htl, hto, hti⟩ := row_of_own (own_snoc rfl hown5); have HB5 := Lib.hid ((HB4.out.alloc (by omega) (.cells #[.int .i64 (i : Int)] 3)).grown hgrow5 (by rw [size_alloc]; omega) (fun j hj' => (owned_block ho4 hj').1)); subst ht; have HGR5 := Lib.hid (HGR.out.on HB5.out); have hown6 := HGR5.out.own; have hfr := HGR.out.fresh hti; have HTL := Lib.hid htl; have HTO := Lib.hid hto; have HTI := Lib.hid hti; have HAP := Lib.hid hfr.1; have HOF := Lib.hid hfr.2; have hs5 := HB5.out.size; clear ho4 hown5 hgrow5 hnil5 hloc5 hfr htl hto hti) | (at_builtin; refine wpList_append_own_at _ rfl _ _ 23 rfl V.heap.size 22 j0 (.slice none 0 0) 1 24 Try.underlying23 hj hj0 hj1 hj2 rfl (by decide) _ _ _ rfl (hown6.alloc _) ⟨w5.heap.size, 0, none⟩ 1 1 [.slice t.a t.l.length t.c] rfl rfl (one_cell _ _ _) (by simp [Value.oneCell']) (by unfold maxLen; omega) (by omega) (by simp; omega) ?_; intro v' w1 hown' hgrow hnil hloc))
              have hba := below_alloc w5 (.cells #[.slice t.a t.l.length t.c] 22)
              have hloc2 : v'.ownBlock = u7.ownBlock ∨ ∃ g', v'.ownBlock = some g' ∧ (w5.alloc (.cells #[.slice t.a t.l.length t.c] 22)).heap.size ≤ g' := hloc.imp id fun h => ⟨_, h, Nat.le_refl _⟩
              have R1 := Lib.hid ((HGR5.out.on hba).append (HTO.out.on hba) (((HTI.out.wide hszi (Nat.le_refl _)).on hba).wide (Nat.le_refl _) hba.size) HAP.out HOF.out hown' hgrow hloc2)
              have R2 := ((HNI.out.trans (HB5.out.mono hszi)).alloc (by omega) (.cells #[.slice t.a t.l.length t.c] 22)).grown hgrow (by rw [size_alloc]; omega) (fun j hj' => (owned_block HGR5.out.own hj').1)
              have HQ2 : Hid ((Q ++ [t]).map Row.l = (grC T (i + 1)).map up) := Lib.hid (by rw [List.map_append, HQM.out, HC.out, List.map_append]; simp [HTL.out, HYL.out, ← up_snocG])
              clear hown' hgrow hown6 hnil hloc hloc2 hba
              go_wp2
              go_roundw
              case rel => exact ⟨i + 1, Q ++ [t], by omega, by go_num, R1, HQ2, R2⟩
              case measure => simp [intOf]; omega
          · obtain rfl : i = n := by omega
            obtain ⟨i1, _, _, _, hfb, _⟩ := greed_step φ HS.out (show d < i by omega)
            have hne : grC T i ≠ [] := fun h => by rw [h] at hfb; simp [firstB] at hfb
            have hQl : Q.length = (grC T i).length := by have := congrArg List.length HQM.out; rw [List.length_map, List.length_map] at this; exact this
            have hQ0 : 0 < Q.length := by rw [hQl]; exact List.length_pos_iff.2 hne
            obtain ⟨TT, hTv, hTR, hTI, hTH⟩ := tab_held HGR.out hQ0
            obtain ⟨q, hq⟩ : ∃ q, q = TT.R.length := ⟨_, rfl⟩
            have hTRl : TT.R.length = q := hq.symm
            have hq7 : q ≤ 7 := by rw [hq, hTR, hQl]; exact Nat.le_trans (grC_len _ _) hn7
            rw [hTRl] at hTv
            obtain ⟨wI, hwI⟩ : ∃ u, u = wr := ⟨_, rfl⟩
            rw [← hwI] at hTI hTH hszi
            have HTI := Lib.hid hTI
            have HTH := Lib.hid hTH
            have HTRL := Lib.hid hTRl
            have HCON : Hid (TT.con = (grC T i).map up) := Lib.hid (by unfold Tab.con; rw [hTR]; exact HQM.out)
            have HNA : Hid (Below wA.heap.size wA wI) := Lib.hid (by rw [hwI]; exact HNX.out.trans (hni2.mono hszr))
            have hszI := HNA.out.size
            have CV := Lib.hid (fun (u : World) (hu : Below wI.heap.size wI u) => (by
              refine (values_any TT.a q TT.c u).mono (R' := fun e u2 => ∃ B0, e = .returned (.func (.func 98) #[] #[.pointer (some ⟨B0, 0, none⟩)]) ∧ Hid (TabHeld V.heap.size u2.heap.size B0 TT u2 ∧ V.heap.size ≤ B0 ∧ B0 < u2.heap.size) ∧ Below u.heap.size u u2) ?_
              rintro e u2 ⟨rfl, rfl⟩
              have hb := below_alloc u (.cells #[.slice TT.a q TT.c] 23)
              have hus := hu.size
              refine ⟨u.heap.size, rfl, Lib.hid ⟨⟨?_, ((HTI.out.on hu).on hb).wide (Nat.le_refl _) (by rw [size_alloc]; omega), fun r hr => ((HTH.out r hr).on hu).on hb⟩, by omega, by rw [size_alloc]; omega⟩, hb⟩
              rw [HTRL.out]
              exact (Boxed.new u 23 (.slice TT.a q TT.c)).cell : Calls Try.prog 75 #[.slice TT.a q TT.c] u fun e u2 => ∃ B0, e = .returned (.func (.func 98) #[] #[.pointer (some ⟨B0, 0, none⟩)]) ∧ Hid (TabHeld V.heap.size u2.heap.size B0 TT u2 ∧ V.heap.size ≤ B0 ∧ B0 < u2.heap.size) ∧ Below u.heap.size u u2))
            have CS := Lib.hid (fun (u : World) (hu : Below wI.heap.size wI u) (B0 : Nat) (hB : Hid (TabHeld V.heap.size u.heap.size B0 TT u ∧ V.heap.size ≤ B0 ∧ B0 < u.heap.size)) => (by
              have hq := values_seq 3 (by omega) B0 TT u V.heap.size u.heap.size hB.out.1 (by rw [HTRL.out]; exact hq7) hB.out.2.1 hB.out.2.2
              rw [HCON.out] at hq
              refine (leastServedB_any F 98 #[.pointer (some ⟨B0, 0, none⟩)] (grC T i) V.heap.size V.heap.size u.heap.size u u (Nat.le_refl _) (enters_of Try.func98 (by kernel_rfl) rfl) hq (Below.refl _ _) ((HFA.out.on HNA.out).on hu) HG.out (fun U hU => by
                obtain ⟨i, hi, hU2⟩ := grC_mem hU
                rw [hU2]
                refine ⟨by simp, fun x hx => ?_⟩
                rw [← HN.out]
                rcases List.mem_append.1 hx with hx | hx
                · exact HS.out.lt x hx
                · rw [List.mem_singleton] at hx; rw [hx]; exact hi)).mono (R' := fun e u2 => ∃ t : Row, e = .returned (.slice t.a t.l.length t.c) ∧ Hid (Best1 V.heap.size u2 t (firstB φ (grC T i)) ∧ Below wI.heap.size wI u2) ∧ Below u.heap.size u u2) ?_
              rintro e u2 ⟨t, rfl, hbt, hb⟩
              exact ⟨t, rfl, Lib.hid ⟨by rw [HPHI.out]; exact hbt, hu.trans (hb.mono hu.size)⟩, hb⟩ : Calls Try.prog 74 #[.agg #[F.o.val, F.t.val], .func (.func 98) #[] #[.pointer (some ⟨B0, 0, none⟩)]] u fun e u2 => ∃ t : Row, e = .returned (.slice t.a t.l.length t.c) ∧ Hid (Best1 V.heap.size u2 t (firstB φ (grC T i)) ∧ Below wI.heap.size wI u2) ∧ Below u.heap.size u u2))
            have HGRE : Hid (grD φ i (d + 1) = firstB φ (grC T i)) := Lib.hid (by rw [HTT.out]; rfl)
            have HSN2 := Lib.hid ((HOK.out (d + 1) (by omega)).len)
            have HS0 : Hid (∀ u, Below wI.heap.size wI u → ((u.cell? ⟨w.heap.size, 0, none⟩ = some F.o.val ∧ u.cell? ⟨w.heap.size, 1, none⟩ = some F.t.val) ∧ Below wI.heap.size wI u)) := Lib.hid fun u hu => ⟨⟨((HBX.out.on HNA.out).on hu).c0, ((HBX.out.on HNA.out).on hu).c1⟩, hu⟩
            have s0 := HS0.out wI.drew (Below.refl _ _).drew
            rw [← hwI, hTv]
            clear hQl hTv hTR hTI hTH hTRl hwI hni2 hq hne hfb hQ0
            go_wp2_with fail
            go_region_held3 (fun u => ((u.cell? ⟨w.heap.size, 0, none⟩ = some F.o.val ∧ u.cell? ⟨w.heap.size, 1, none⟩ = some F.t.val) ∧ Below wI.heap.size wI u)) (first | exact s0 | exact keep_reg HS0.out (by first | assumption | exact And.right (by assumption)) hb1) (first | (go_at_call 75; refine (show Calls _ _ _ _ _ from CV.out _ (by first | assumption | exact And.right (by assumption))).mono ?_; rintro e u1 ⟨B0, rfl, HB0, hb1⟩) | (go_at_call 74; refine (show Calls _ _ _ _ _ from CS.out _ (by first | assumption | exact And.right (by assumption)) _ HB0).mono ?_; rintro e u9 ⟨t, rfl, HBT, hb1⟩))
            have HTL : Hid (t.l = up (grD φ i (d + 1))) := Lib.hid (by rw [HBT.out.1.l, HGRE.out])
            have HTO := Lib.hid HBT.out.1.own
            have HTW := Lib.hid (HBT.out.1.ins.wide hszr (Nat.le_refl _))
            have HTN : Hid (t.a ≠ none) := Lib.hid (by
              have hl1 : t.l.length = d + 1 := by rw [HTL.out, up_length, HSN2.out]
              obtain ⟨_, _, h3⟩ := HTW.out
              rcases h3 with h3 | ⟨b', o', e, _⟩
              · rw [iv_nil h3] at hl1; simp at hl1
              · rw [e]; simp)
            have HNF := Lib.hid (HNA.out.trans (HBT.out.2.mono hszI))
            clear hb1 s0
            go_wp2
            go_roundw
            case rel => exact ⟨d + 1, t, by omega, by go_num, rfl, HTL, HTN, HTO, HTW, HNF.out⟩
            case measure => simp [intOf]; omega
      · obtain rfl : d = m := by omega
        have HLL : Hid (y.l = l) := Lib.hid (by rw [HYL.out, HL.out])
        go_wp2
        go_ret2
        exact ⟨y, rfl, HLL.out, HYO.out, HYI.out.wide hbA.size (Nat.le_refl _), hbA.trans (HNX.out.mono hbA.size)⟩
end Go.Proofs.Ythabpdfbpdokjaa
