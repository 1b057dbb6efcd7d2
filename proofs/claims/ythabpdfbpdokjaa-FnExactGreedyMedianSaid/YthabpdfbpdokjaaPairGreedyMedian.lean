/- Both sides of GreedyMedian answer alike. Condition: the Field reads as such. -/
import Derived.Test.YthabpdfbpdokjaaGreedImpl
import Derived.Test.YthabpdfbpdokjaaPutAny
import Derived.Test.YthabpdfbpdokjaaPost
import Derived.Deep.Onto
import Derived.Maps.AppendAt
import Derived.BigQuiet
namespace Go.Proofs.Ythabpdfbpdokjaa
open Go.RowKit

theorem put_nat {Z T : List Nat} (h : Z.Perm T) (i : Nat) : ∃ U : List Nat, putAt (up Z) (i : Int) = up U ∧ U.Perm (T ++ [i]) := by
  have hp := putAt_perm (up Z) (i : Int)
  refine ⟨(putAt (up Z) (i : Int)).map Int.toNat, ?_, ?_⟩
  · unfold up
    rw [List.map_map]
    refine ((List.map_id _).symm.trans (List.map_congr_left fun x hx => ?_))
    have hx2 := hp.mem_iff.1 hx
    rcases List.mem_cons.1 hx2 with e | e
    · rw [e]; simp
    · obtain ⟨m, _, rfl⟩ := List.mem_map.1 e
      simp
  · refine (hp.map Int.toNat).trans ?_
    rw [List.map_cons]
    unfold up
    rw [List.map_map, show (fun x : Int => x.toNat) ∘ (fun m : Nat => (m : Int)) = id from funext fun m => by simp, List.map_id, Int.toNat_natCast]
    exact (h.cons i).trans (List.perm_append_singleton i T).symm
theorem owns_keepG {w w' : World} {B n : Nat} {e : TypeId} {v : Value} {xs : List Value} (h : w.ownsRow B e 1 v n xs) (hb : ∀ g, v.ownBlock = some g → g < w.heap.size → w'.heap[g]? = w.heap[g]?) : w'.ownsRow B e 1 v n xs := by
  obtain ⟨h1, h2⟩ := id h
  refine ⟨h1, ?_⟩
  rcases h2 with h2 | ⟨g, cap, cur, rfl, hB, hg, r⟩
  · exact .inl h2
  · exact .inr ⟨g, cap, cur, rfl, hB, (hb g rfl (Array.getElem?_eq_some_iff.1 hg).1).trans hg, r⟩
theorem hasG {Z T : List Nat} (h : Z.Perm T) (i : Nat) : hasI (up Z) (i : Int) = decide (i ∈ T) := by
  unfold hasI
  rw [contUp, Bool.eq_iff_iff, decide_eq_true_iff, decide_eq_true_iff]; exact h.mem_iff

set_option maxRecDepth 32000 in
set_option maxHeartbeats 4000000 in
theorem specGreed_any (F : Fld) (k : Int) (w : World) (hF : F.At w) (l : List Int) (b : Bool) (hv : Greeds F k l b) :
    Calls Try.prog 33 #[F.val, .int .i64 k] w (PInts l b w) := by
  obtain ⟨i0, hi, hz0, hz1, hz2⟩ := info_parts infoInt
  obtain ⟨wA, hA, hbA, bx, hFA, hszA⟩ := laid_fld F w 29 hF
  have HFF := Lib.hid hF
  have h1 := below_alloc wA (.cells #[] 3)
  have h2 := below_alloc (wA.alloc (.cells #[] 3)) (.cells #[] 3)
  obtain ⟨W0, hW0⟩ : ∃ u, u = (wA.alloc (.cells #[] 3)).alloc (.cells #[] 3) := ⟨_, rfl⟩
  have hb0 : Below wA.heap.size wA W0 := by rw [hW0]; exact h1.trans (h2.mono h1.size)
  have hs0 : W0.heap.size = w.heap.size + 3 := by rw [hW0, size_alloc, size_alloc, hszA]
  have ho6 : W0.ownsRow (w.heap.size + 1) 3 1 (.slice (some ⟨w.heap.size + 1, 0, none⟩) 0 0) 0 (iv []) := by
    rw [hW0, ← hszA]; exact owns_below (empty_own wA) h2
  have ho7 : W0.ownsRow 0 3 1 (.slice (some ⟨w.heap.size + 1 + 1, 0, none⟩) 0 0) 0 (iv []) := by
    have := empty_own (wA.alloc (.cells #[] 3))
    rw [size_alloc, hszA] at this
    rw [hW0]; exact this.mono (Nat.zero_le _)
  have HW0 : Hid (W0 = ((w.alloc (Obj.cells #[F.o.val, F.t.val] 29)).alloc (.cells #[] 3)).alloc (.cells #[] 3)) := Lib.hid (by rw [hW0, hA])
  have HFA := Lib.hid (hFA.on hb0)
  have HBX := Lib.hid (bx.on hb0)
  have HBA := Lib.hid (hbA.trans (hb0.mono hbA.size))
  have HV := Lib.hid hv
  have CT := Lib.hid (l4K_any F k W0 HFA.out)
  have HO6 := Lib.hid ho6
  have HO7 := Lib.hid ho7
  have x0 := HBX.out.c0
  have x1 := HBX.out.c1
  rw [HW0.out] at x0 x1
  clear hF hA hFA bx hv hbA hszA h1 h2 hW0 hb0 ho6 ho7
  show Calls _ _ #[.agg #[F.o.val, F.t.val], _] w _
  go_enter Try.func33, Try.ntmps33
  go_wp2_with fail
  rw [← HW0.out]
  refine (show Calls _ _ _ _ _ from CT.out).mono ?_
  rintro e W1 ⟨rfl, hb1⟩
  have HBW := Lib.hid (HBA.out.trans (hb1.mono HBA.out.size))
  have HB1 := Lib.hid hb1
  have hs1 := hb1.size
  have HP6 := Lib.hid (owns_below HO6.out hb1)
  have HP7 := Lib.hid (owns_below HO7.out hb1)
  clear x0 x1 hb1
  obtain ⟨t, ht⟩ : ∃ t, t = kB F k := ⟨_, rfl⟩
  rw [← ht]
  have HT := Lib.hid ht
  clear ht
  cases t with
  | false =>
    obtain ⟨rfl, rfl⟩ : l = [] ∧ b = false := by
      rcases HV.out with ⟨_, h⟩ | ⟨m, h1, h2, h3, h4, _⟩
      · exact h
      · have := HT.out; unfold kB at this; rw [h1, h2] at this; simp at this; omega
    have HEND : Hid (PInts [] false w (.returned (.tuple #[.slice (some ⟨w.heap.size + 1, 0, none⟩) 0 0, .bool false])) W1) := Lib.hid (ints_end rfl HP6.out (by omega) HBW.out)
    go_wp2
    go_ret2
    exact HEND.out
  | true =>
    obtain ⟨m, hg, rfl, hm1, hmo, hl, rfl⟩ : ∃ m : Nat, F.good = true ∧ k = m ∧ 1 ≤ m ∧ m ≤ F.o.l.length ∧ l = up (grD (servT F) F.o.l.length m) ∧ b = true := by
      rcases HV.out with ⟨h, _⟩ | h
      · rw [← HT.out] at h; cases h
      · exact h
    obtain ⟨n, hn⟩ : ∃ n, n = F.o.l.length := ⟨_, rfl⟩
    have HN := Lib.hid hn
    have hsz := good_sizes hg
    have hn7 : n ≤ 7 := by omega
    have hni : (n : Int) ≤ 7 := by omega
    have hmn : m ≤ n := by omega
    obtain ⟨φ, hφ⟩ : ∃ φ, φ = servT F := ⟨_, rfl⟩
    have HPHI := Lib.hid hφ
    have HL : Hid (l = up (grD φ n m)) := Lib.hid (by rw [hl, hn, hφ])
    have HOK := Lib.hid (grD_ok φ n)
    have HG := Lib.hid hg
    have hmi : (m : Int) ≤ 7 := by omega
    clear hl hn hsz hφ
    go_wp2
    go_loopw [6, 7, 8, 9] (fun v6 v7 _ _ wr => ∃ (d : Nat) (a6 : Option Addr) (c6 g7 c7 : Nat) (Z : List Nat), d ≤ m ∧ v6 = .slice a6 d c6 ∧ v7 = .slice (some ⟨g7, 0, none⟩) d c7 ∧ Hid (wr.ownsRow (w.heap.size + 1) 3 1 (.slice a6 d c6) d (iv (up (grD φ n d)))) ∧ Hid (wr.ownsRow 0 3 1 (.slice (some ⟨g7, 0, none⟩) d c7) d (iv (up Z))) ∧ Hid (Z.Perm (grD φ n d)) ∧ Hid ((Value.slice a6 d c6).ownBlock ≠ some g7 ∧ g7 < wr.heap.size) ∧ Below (w.heap.size + 1) W1 wr) (fun v6 _ _ _ _ => m - (match v6 with | .slice _ q _ => q | _ => 0))
    case atStart => exact ⟨0, _, _, _, _, [], Nat.zero_le _, rfl, rfl, HP6, HP7, Lib.hid (List.Perm.refl _), Lib.hid ⟨by simp [Value.ownBlock], by omega⟩, Below.refl _ _⟩
    case round =>
      obtain ⟨d, a6, c6, g7, c7, Z, hd, rfl, rfl, HR6, HR7, HZ, HAP, hnx⟩ := hrel
      obtain ⟨V, rfl⟩ : ∃ V, V = wr := ⟨_, rfl⟩
      have HNX := Lib.hid hnx
      have hszr := hnx.size
      have hFV : F.At V ∧ Box2 V w.heap.size F.o.val F.t.val 29 := by
        constructor
        · exact HFF.out.on (HBW.out.trans (hnx.mono (by omega)))
        · exact (hnx.block w.heap.size (by omega)).trans (HBX.out.on HB1.out)
      by_cases hlt : d < m
      · have hlti : (d : Int) < (m : Int) := by omega
        obtain ⟨T, hT⟩ : ∃ T, T = grD φ n d := ⟨_, rfl⟩
        have hS := HOK.out d (by omega)
        rw [← hT] at hS HR6 HZ
        have HS := Lib.hid hS
        have HTT := Lib.hid hT
        have hZl : (up Z).length = d := by rw [up_length, HZ.out.length_eq, hS.len]
        have HZL := Lib.hid hZl
        have HFV := Lib.hid hFV
        have hR7' : V.ownsRow 0 3 1 (.slice (some ⟨g7, 0, none⟩) (up Z).length c7) (up Z).length (iv (up Z)) := by rw [hZl]; exact HR7.out
        have H7 := Lib.hid hR7'
        have HA7 : Hid (∀ u, Below V.heap.size V u → Row.At u ⟨some ⟨g7, 0, none⟩, c7, up Z⟩) := Lib.hid fun u hu => by
          obtain ⟨⟨a, c, l'⟩, h7, h7l, _, h7i⟩ := row_of_own (owns_below hR7' hu)
          simp only [Value.slice.injEq] at h7 h7l
          obtain ⟨rfl, _, rfl⟩ := h7
          rw [← h7l]; exact h7i.at
        have HPS : Hid (∀ j, j < n → j ∉ T → ∃ U : List Nat, U.Perm (T ++ [j]) ∧ (∀ u, u.ownsRow 0 3 1 (.slice (some ⟨g7, 0, none⟩) (up Z).length c7) (up Z).length (iv (up Z)) → Calls Try.prog 77 #[.slice (some ⟨g7, 0, none⟩) d c7, .int .i64 (j : Int)] u fun e w' => ∃ t : Row, e = .returned (.slice t.a t.l.length t.c) ∧ Hid (t.Own 3 w' ∧ t.In u.heap.size w'.heap.size w' ∧ t.l = up U) ∧ Below u.heap.size u w') ∧
            (∀ u, Below V.heap.size V u → ∀ t : Row, t.At u → t.l = up U → Calls Try.prog 70 #[.agg #[F.o.val, F.t.val], .slice t.a t.l.length t.c] u fun e w' => e = .returned (.int .i64 (φ (T ++ [j]))) ∧ Below u.heap.size u w')) := Lib.hid fun j hj hjT => by
          obtain ⟨U, hU, hUp⟩ := put_nat HZ.out j
          refine ⟨U, hUp, fun u hu => ?_, fun u hu t ht htl => ?_⟩
          · have := l1Put_any g7 c7 (up Z) (j : Int) u hu (by rw [HZL.out]; omega) (by rw [hasG HZ.out]; exact decide_eq_false hjT)
            rw [HZL.out] at this
            refine this.mono ?_
            rintro e w' ⟨t, rfl, h1, h2, h3, h4⟩
            exact ⟨t, rfl, Lib.hid ⟨h2, h3, by rw [h1, hU]⟩, h4⟩
          · have hU0 : U ≠ [] := fun e => by rw [e] at hUp; have := hUp.length_eq; simp at this
            have hfi : Fine F t U := ⟨HG.out, htl, List.length_pos_iff.2 hU0, fun z hz => by
              have h9 := hUp.mem_iff.1 hz
              rw [← HN.out]
              rcases List.mem_append.1 h9 with h9 | h9
              · exact HS.out.lt z h9
              · rw [List.mem_singleton] at h9; rw [h9]; exact hj⟩
            have := l2Serve_any F t U u (HFV.out.1.on hu) ht hfi
            have e9 : φ (T ++ [j]) = servT F U := by rw [HPHI.out]; unfold servT; rw [lens_perm hUp hU0]
            rw [e9]; exact this
        have z0 : V.cell? ⟨w.heap.size, 0, none⟩ = some (.slice F.o.a n F.o.c) := by rw [HN.out]; exact HFV.out.2.c0
        clear hS hT hZl hR7' hFV hnx
        go_wp2
        clear z0
        go_loopw [8, 9] (fun bv iv' wi => ∃ i : Nat, i ≤ n ∧ iv' = .int .i64 i ∧ bv = .int .i64 (grE φ T i) ∧ Below V.heap.size V wi) (fun _ iv' _ => n - (intOf iv').toNat)
        case atStart => exact ⟨0, Nat.zero_le _, rfl, rfl, Below.refl _ _⟩
        case round =>
          obtain ⟨i, hi', rfl, rfl, hni2⟩ := hrel
          have HNI := Lib.hid hni2
          have hszi := hni2.size
          have hbox := HFV.out.2.on hni2
          have z0 : wr.cell? ⟨w.heap.size, 0, none⟩ = some (.slice F.o.a n F.o.c) := by rw [HN.out]; exact hbox.c0
          by_cases hlti2 : i < n
          · have hii : (i : Int) < (n : Int) := by omega
            obtain ⟨h, hh⟩ : ∃ h, h = decide (i ∈ T) := ⟨_, rfl⟩
            have CH := Lib.hid (fun q => by have := l1Has_any ⟨some ⟨g7, 0, none⟩, c7, up Z⟩ (i : Int) (wr.drewN q) (HA7.out _ (hni2.trans ((below_draws wr q).mono hszi))); simp only at this; rw [hasG HZ.out, ← hh, HZL.out] at this; exact this : ∀ q, Calls Try.prog 76 #[.slice (some ⟨g7, 0, none⟩) d c7, .int .i64 i] (wr.drewN q) fun e w' => e = .returned (.bool h) ∧ w' = wr.drewN q)
            have C1 := Lib.hid (fun u (hu : Below wr.heap.size wr u) => by
              have := l1Has_any ⟨some ⟨g7, 0, none⟩, c7, up Z⟩ (i : Int) u (HA7.out _ (HNI.out.trans (hu.mono hszi)))
              simp only at this
              rw [hasG HZ.out, ← hh, HZL.out] at this
              exact this.mono (R' := fun e w' => e = .returned (.bool h) ∧ Below u.heap.size u w') (fun e w' h2 => ⟨h2.1, by rw [h2.2]; exact Below.refl _ _⟩) : ∀ u, Below wr.heap.size wr u → Calls Try.prog 76 #[.slice (some ⟨g7, 0, none⟩) d c7, .int .i64 i] u fun e w' => e = .returned (.bool h) ∧ Below u.heap.size u w')
            have HSS : Hid (∀ u, Below wr.heap.size wr u → ((u.cell? ⟨w.heap.size, 0, none⟩ = some F.o.val ∧ u.cell? ⟨w.heap.size, 1, none⟩ = some F.t.val) ∧ Below wr.heap.size wr u)) := Lib.hid fun u hu => by
              have hb := HFV.out.2.on (HNI.out.trans (hu.mono hszi))
              exact ⟨⟨hb.c0, hb.c1⟩, hu⟩
            have s0 := HSS.out wr.drew (Below.refl _ _).drew
            have HH := Lib.hid hh
            clear hh hni2 hbox
            cases h with
            | true =>
              have HST : Hid (grE φ T (i + 1) = grE φ T i) := Lib.hid (by rw [grE, if_neg (fun h => h.1 (decide_eq_true_iff.1 HH.out.symm))])
              go_wp2
              go_quiet ((go_at_call 76; exact Calls.quiet_of_same (CH.out _)))
              have HB8 := Lib.hid (HNI.out.trans ((below_draws wr nq).mono HNI.out.size))
              go_wp2
              go_roundw
              case rel => exact ⟨i + 1, by omega, by go_num, by rw [HST.out], HB8.out⟩
              case measure => simp [intOf]; omega
            | false =>
              have hiT : i ∉ T := decide_eq_false_iff_not.1 HH.out.symm
              rcases grE_first φ T i with ⟨he, _, _⟩ | ⟨b9, he, hb9, hb9T, _⟩
              · have HST : Hid (grE φ T (i + 1) = (i : Int)) := Lib.hid (by rw [grE, if_pos ⟨hiT, .inl (by rw [he]; decide)⟩])
                rw [he]
                clear he hiT
                go_wp2
                have hd0 : decide ((-1 : Int) < 0) = true := rfl
                go_quiet ((go_at_call 76; exact Calls.quiet_of_same (CH.out _)))
                have HB8 := Lib.hid (HNI.out.trans ((below_draws wr nq).mono HNI.out.size))
                go_wp2
                go_roundw
                case rel => exact ⟨i + 1, by omega, by go_num, by rw [HST.out], HB8.out⟩
                case measure => simp [intOf]; omega
              · obtain ⟨U1, _, p1, q1⟩ := HPS.out i hlti2 hiT
                obtain ⟨U2, _, p2, q2⟩ := HPS.out b9 (by omega) hb9T
                obtain ⟨v1, hv1⟩ : ∃ v, v = φ (T ++ [i]) := ⟨_, rfl⟩
                obtain ⟨v2, hv2⟩ : ∃ v, v = φ (T ++ [b9]) := ⟨_, rfl⟩
                rw [← hv1] at q1
                rw [← hv2] at q2
                have HBS : Hid (grE φ T (i + 1) = if v1 < v2 then (i : Int) else (b9 : Int)) := Lib.hid (by
                  rw [grE, he, Int.toNat_natCast, ← hv1, ← hv2]
                  by_cases hc : v1 < v2
                  · rw [if_pos ⟨hiT, .inr hc⟩, if_pos hc]
                  · rw [if_neg (by rintro ⟨_, h | h⟩ <;> omega), if_neg hc])
                have CX := Lib.hid (fun u (hu : Below wr.heap.size wr u) => p1 u (owns_below (owns_below H7.out HNI.out) hu))
                have CZ := Lib.hid (fun u (hu : Below wr.heap.size wr u) => p2 u (owns_below (owns_below H7.out HNI.out) hu))
                have CF1 := Lib.hid (fun u (hu : Below wr.heap.size wr u) => q1 u (HNI.out.trans (hu.mono hszi)))
                have CF2 := Lib.hid (fun u (hu : Below wr.heap.size wr u) => q2 u (HNI.out.trans (hu.mono hszi)))
                have hb9i : ¬ ((b9 : Int) < 0) := by omega
                have hib : i ≠ b9 := by omega
                rw [he]
                clear p1 q1 p2 q2 hv1 hv2 he hb9 hb9T hiT
                go_wp2_with fail
                have hd0 : decide ((b9 : Int) < 0) = false := decide_eq_false (by omega)
                go_region_held3 (fun u => ((u.cell? ⟨w.heap.size, 0, none⟩ = some F.o.val ∧ u.cell? ⟨w.heap.size, 1, none⟩ = some F.t.val) ∧ Below wr.heap.size wr u)) (first | exact s0 | exact keep_reg HSS.out (by first | assumption | exact And.right (by assumption)) hb1) (first
                  | (go_at_call 76; refine (show Calls _ _ _ _ _ from C1.out _ (by first | assumption | exact And.right (by assumption))).mono ?_; rintro e u1 ⟨rfl, hb1⟩; (try have HR1 := Lib.hid (HR1.out.on hb1)); (try have HR2 := Lib.hid (HR2.out.on hb1)))
                  | (go_at_call 77; with_reducible change Calls _ _ #[_, .int .i64 (i : Int)] _ _; refine (show Calls _ _ _ _ _ from CX.out _ (by first | assumption | exact And.right (by assumption))).mono ?_; rintro e u1 ⟨t1, rfl, HT1, hb1⟩; have HR1 := Lib.hid HT1.out.2.1.at; have HL1 := Lib.hid HT1.out.2.2; (try have HR2 := Lib.hid (HR2.out.on hb1)))
                  | (go_at_call 77; with_reducible change Calls _ _ #[_, .int .i64 (b9 : Int)] _ _; refine (show Calls _ _ _ _ _ from CZ.out _ (by first | assumption | exact And.right (by assumption))).mono ?_; rintro e u1 ⟨t2, rfl, HT2, hb1⟩; have HR2 := Lib.hid HT2.out.2.1.at; have HL2 := Lib.hid HT2.out.2.2; (try have HR1 := Lib.hid (HR1.out.on hb1)))
                  | (go_at_call 70; with_reducible change Calls _ _ #[_, .slice t1.a _ _] _ _; refine (show Calls _ _ _ _ _ from CF1.out _ (by first | assumption | exact And.right (by assumption)) t1 HR1.out HL1.out).mono ?_; rintro e u1 ⟨rfl, hb1⟩; (try have HR1 := Lib.hid (HR1.out.on hb1)); (try have HR2 := Lib.hid (HR2.out.on hb1)))
                  | (go_at_call 70; with_reducible change Calls _ _ #[_, .slice t2.a _ _] _ _; refine (show Calls _ _ _ _ _ from CF2.out _ (by first | assumption | exact And.right (by assumption)) t2 HR2.out HL2.out).mono ?_; rintro e u1 ⟨rfl, hb1⟩; (try have HR1 := Lib.hid (HR1.out.on hb1)); (try have HR2 := Lib.hid (HR2.out.on hb1))))
                all_goals
                  refine at_exit (W := wr) (by first | assumption | exact And.right (by assumption)) ?_
                  intro W8 hb8
                  have HB8 := Lib.hid (HNI.out.trans (hb8.mono hszi))
                  clear s0 hb8
                  by_cases hlv : v1 < v2
                  · have HE : Hid (grE φ T (i + 1) = (i : Int)) := Lib.hid (by rw [HBS.out, if_pos hlv])
                    go_wp2
                    go_roundw
                    case rel => exact ⟨i + 1, by omega, by go_num, by rw [HE.out], HB8.out⟩
                    case measure => simp [intOf]; omega
                  · have HE : Hid (grE φ T (i + 1) = (b9 : Int)) := Lib.hid (by rw [HBS.out, if_neg hlv])
                    go_wp2
                    go_roundw
                    case rel => exact ⟨i + 1, by omega, by go_num, by rw [HE.out], HB8.out⟩
                    case measure => simp [intOf]; omega
          · obtain rfl : i = n := by omega
            obtain ⟨i1, he, hi1, hi1T, hfb, hS2⟩ := greed_step φ HS.out (show d < i by omega)
            have HGRE : Hid (up (grD φ i (d + 1)) = up T ++ [(i1 : Int)]) := Lib.hid (by rw [grD, ← HTT.out, hfb, up_snocG])
            obtain ⟨U, hUp, pU, _⟩ := HPS.out i1 hi1 hi1T
            have hown := owns_below HR6.out HNI.out
            have HOWN7 := Lib.hid (owns_below H7.out HNI.out)
            have hTl : (up T).length = d := by rw [up_length, HS.out.len]
            have hg7 : g7 < wr.heap.size := Nat.lt_of_lt_of_le HAP.out.2 hszi
            have HUP : Hid (U.Perm (grD φ i (d + 1))) := Lib.hid (by rw [grD, ← HTT.out, hfb]; exact hUp)
            have HUL : Hid (U.length = d + 1) := Lib.hid (by rw [hUp.length_eq, List.length_append, HS.out.len]; rfl)
            have PU := Lib.hid pU
            rw [he]
            have HNV := Lib.hid (HNX.out.trans (HNI.out.mono (by omega)))
            clear he hi1 hi1T hfb hS2 hUp pU hni2 hbox
            go_wp2_with (at_builtin; refine wpList_append_own_at _ rfl _ _ 22 rfl (w.heap.size + 1) 3 i0 (.int .i64 0) 1 8 Try.underlying22 hi hz0 hz1 hz2 rfl (by decide) _ _ _ rfl (hown.alloc _) ⟨wr.heap.size, 0, none⟩ 1 1 [.int .i64 (i1 : Int)] rfl rfl (one_cell _ _ _) (by simp [Value.oneCell']) (by unfold maxLen; omega) (by omega) (by simp; omega) ?_; intro v' w1 hown' hgrow hnil hloc)
            have hR6 : w1.ownsRow (w.heap.size + 1) 3 1 v' (d + 1) (iv (up (grD φ i (d + 1)))) := by rw [HGRE.out]; simpa [iv] using hown'
            have hR7 : w1.ownsRow 0 3 1 (.slice (some ⟨g7, 0, none⟩) (up Z).length c7) (up Z).length (iv (up Z)) := owns_keepG (owns_below HOWN7.out (below_alloc wr (.cells #[.int .i64 (i1 : Int)] 3))) fun g hg hlt => hgrow.block g hlt fun e => by
              simp only [Value.ownBlock, Option.some.injEq] at hg
              subst hg
              exact HAP.out.1 e.symm
            have hb1 := (HNV.out.alloc (by omega) (.cells #[.int .i64 (i1 : Int)] 3)).grown hgrow (by rw [size_alloc]; omega) (fun j hj' => (owned_block hown hj').1)
            have PU1 := Lib.hid (PU.out w1 hR7)
            have HB1' := Lib.hid hb1
            have hs1' := hb1.size
            have HR6' := Lib.hid hR6
            clear hR6 hR7 hb1 hown hown' hgrow hnil hloc
            go_wp2_with fail
            refine (show Calls _ _ _ w1 _ from PU1.out).mono ?_
            rintro e w5 ⟨t, rfl, HTT5, hb5⟩
            have htn : t.l.length = d + 1 := by rw [HTT5.out.2.2, up_length, HUL.out]
            obtain ⟨g, hta, htg, hto⟩ : ∃ g, t.a = some ⟨g, 0, none⟩ ∧ w1.heap.size ≤ g ∧ w5.ownsRow 0 3 1 (.slice (some ⟨g, 0, none⟩) t.l.length t.c) t.l.length (iv t.l) := by
              rcases HTT5.out.1 with h0 | ⟨g, hga, ho⟩
              · rw [h0] at htn; simp at htn
              · refine ⟨g, hga, ?_, ho⟩
                obtain ⟨_, _, h3⟩ := HTT5.out.2.1
                rcases h3 with h3 | ⟨b', o', e, hlo, _⟩
                · have := congrArg List.length (iv_nil h3); rw [htn] at this; simp at this
                · rw [hga] at e; simp only [Option.some.injEq, Addr.mk.injEq] at e; omega
            rw [htn] at hto ⊢
            rw [hta]
            obtain ⟨a9, c9, hv9⟩ : ∃ a9 c9, v' = .slice a9 (d + 1) c9 := by
              have h9 := HR6'.out
              rcases h9.2 with ⟨_, h0⟩ | ⟨g9, cap9, cur9, hv9, _⟩
              · omega
              · exact ⟨_, _, hv9⟩
            subst hv9
            have R1 := Lib.hid (owns_below HR6'.out hb5)
            have R2 : Hid (w5.ownsRow 0 3 1 (.slice (some ⟨g, 0, none⟩) (d + 1) t.c) (d + 1) (iv (up U))) := Lib.hid (by have := hto; rw [HTT5.out.2.2] at this; exact this)
            have R3 : Hid ((Value.slice a9 (d + 1) c9).ownBlock ≠ some g ∧ g < w5.heap.size) := Lib.hid ⟨fun e => by have := (HR6'.out.lt g e).2; omega, (owns_lt hto).1⟩
            have R4 := Lib.hid (HB1'.out.trans (hb5.mono (by omega)))
            clear hta htg hto hb5 htn
            go_wp2
            go_roundw
            case rel => exact ⟨d + 1, a9, c9, g, t.c, U, by omega, rfl, rfl, R1, R2, HUP, R3, R4.out⟩
            case measure => simp; omega
      · obtain rfl : d = m := by omega
        obtain ⟨t, ht, htl, hto, hti⟩ := row_of_ownN (show d = (up (grD φ n d)).length by rw [up_length, (HOK.out d (by omega)).len]) HR6.out
        have HRES : Hid (PInts l true w (.returned (.tuple #[.slice a6 d c6, .bool true])) V) := Lib.hid ⟨t, by rw [ht], by rw [htl, HL.out], hto, hti.wide (by omega) (Nat.le_refl _), HBW.out.trans (hnx.mono (by omega))⟩
        clear ht htl hto hti hFV hnx
        go_wp2
        go_ret2
        exact HRES.out

theorem greedyMedian_pair (F : Fld) (k : Int) (_ : (Lit.int .i64 k).wf = true) (_ : F.Small) : ∃ (l : List Int) (b : Bool) (_ : l.length ≤ 1048576),
    (∀ (G : Fld) (W : World), G.At W → G.Like F → Calls Try.prog 33 #[G.val, .int .i64 k] W (PInts l b W)) ∧
    (∀ (G : Fld) (W : World), G.At W → G.Like F → Calls Try.prog 34 #[G.val, .int .i64 k] W (PInts l b W)) := by
  obtain ⟨l, b, h, hs⟩ := greeds_some F k
  exact ⟨l, b, hs, fun G W hG hl => specGreed_any G k W hG l b (greeds_like h hl), fun G W hG hl => implGreed_any G k W hG l b (greeds_like h hl)⟩
end Go.Proofs.Ythabpdfbpdokjaa
