/- slices.Concat over the rows of a table of integers, and all lengths of a Field, each once. Condition: a table that reads as such, at most seven rows of at most seven numbers. -/
import Derived.Test.YtjeodblaekdpkaaDedup
import Derived.Lib.SliceRun
namespace Go.Proofs.Ytjeodblaekdpkaa
open Go.RowKit Go.Shelf

set_option maxRecDepth 100000 in
set_option maxHeartbeats 2000000 in
theorem growInts_any (n : Nat) (h0 : 0 < n) (hn : n ≤ 49) (w : World) :
    Calls Try.prog 115 #[.slice none 0 0, .int .i64 n] w fun e w' => ∃ g cap, e = .returned (.slice (some ⟨g, 0, none⟩) 0 cap) ∧ w'.ownsRow w.heap.size 3 1 (.slice (some ⟨g, 0, none⟩) 0 cap) 0 [] ∧ Below w.heap.size w w' := by
  obtain ⟨i0, hi, hz0, hz1, hz2⟩ := info_parts infoInt
  have hrz : ∀ ty, (Builtin.append_ #[22, 3] ty #[.slice none 0 0, .int .i64 (n : Int)]).run Try.prog w =
      .ok (.slice (some ⟨w.heap.size, 0, none⟩) (0 + n) (grownCap w (0 + n) 0 3)) (w.drew.alloc (.cells ([].toArray ++ Builtin.zeroCells (Value.int .i64 0).cells n ++ Builtin.zeroCells (Value.int .i64 0).cells (grownCap w (0 + n) 0 3 - (0 + n))) 3)) := fun ty =>
    Lib.run_append_grow_zeros w 22 3 ty 3 i0 (.int .i64 0) .i64 .i64 rfl rfl hi hz0 none 0 0 [] (run_firstCells_none w.drew i0.size 0 0 0) n h0 (by omega) (by omega) (by omega) (by rw [hz2]; omega)
      (by rw [hz2]; exact growslice_fits (by omega) (by omega))
  have hG1 : 0 + n ≤ grownCap w (0 + n) 0 3 := grownCap_ge w _ _ _
  have hG2 := grownCap_le_maxLen w (0 + n) 0 3 (by unfold maxLen; omega)
  obtain ⟨G, hG⟩ : ∃ G, G = grownCap w (0 + n) 0 3 := ⟨_, rfl⟩
  rw [← hG] at hrz hG1 hG2
  have hG3 : G ≤ 9223372036854775807 := by unfold maxLen at hG2; omega
  obtain ⟨wG, hW⟩ : ∃ u, u = w.drew.alloc (.cells ([].toArray ++ Builtin.zeroCells (Value.int .i64 0).cells n ++ Builtin.zeroCells (Value.int .i64 0).cells (G - (0 + n))) 3) := ⟨_, rfl⟩
  rw [← hW] at hrz
  have HO : Hid (wG.ownsRow w.heap.size 3 1 (.slice (some ⟨w.heap.size, 0, none⟩) 0 G) 0 []) := Lib.hid (by
    rw [hW]; exact World.ownsRow_made w.drew _ G (Nat.le_refl _) hG2 (by simp [Builtin.zeroCells, Value.cells]; omega))
  have HB : Hid (Below w.heap.size w wG) := Lib.hid (by rw [hW]; exact (Below.refl _ _).drew.alloc (Nat.le_refl _) _)
  clear hG hG2 hW
  have hn0 : ¬ ((n : Int) < 0) := by omega
  have hnp : (0 : Int) < n := by omega
  have hni : (n : Int) ≤ 49 := by omega
  show Calls _ _ #[.slice none 0 0, .int .i64 (n : Int)] w _
  go_enter Try.func115, Try.ntmps115
  go_wp2_with (at_builtin; refine Lib.wpList_append_run _ rfl _ _ _ _ rfl _ _ rfl rfl _ _ (hrz _) ?_)
  all_goals (go_ret; exact ⟨_, _, rfl, HO.out, HB.out⟩)

set_option maxRecDepth 100000 in
/-- Numbers that are appended to an own row, none of them among these. -/
theorem append_ints (B : Nat) (v : Value) (n : Nat) (xs : List Value) (w : World) (hown : w.ownsRow B 3 1 v n xs) (a : Option Addr) (c m : Nat) (news : List Value) (hm : m = news.length) (hx : RowAt w a c news) (h1 : ∀ u ∈ news, u.oneCell' = true)
    (hb : n + m ≤ 49) (hB : B ≤ w.heap.size) : ∃ v' w', (Builtin.append_ #[22, 22] 22 #[v, .slice a m c]).run Try.prog w = .ok v' w' ∧ w'.ownsRow B 3 1 v' (n + m) (xs ++ news) ∧ Below B w w' ∧ (v' = v ∨ ∃ g k, v' = .slice (some ⟨g, 0, none⟩) (n + m) k) := by
  obtain ⟨i0, hi, hz0, hz1, hz2⟩ := info_parts infoInt
  subst hm
  obtain ⟨_, _, h3⟩ := hx
  by_cases hn : news = []
  · subst hn
    refine ⟨v, w, ?_, by simpa using hown, Below.refl _ _, .inl rfl⟩
    have hs : Src Try.prog i0.size 22 (.slice a 0 c) 0 [] w := by rw [hz1]; exact src_none a c w
    rcases hown.2 with ⟨rfl, rfl⟩ | ⟨g, cap, cur, rfl, _, _, hnc, _⟩
    · exact run_append_nothing w _ _ _ 3 i0 rfl hi none 0 0 (Nat.le_refl _) _ hs
    · exact run_append_nothing w _ _ _ 3 i0 rfl hi _ n cap hnc _ hs
  · rcases h3 with h3 | ⟨b, o, rfl, _, h4⟩
    · exact absurd h3 hn
    · obtain ⟨v', w', hr, ho, hg, hv, _⟩ := run_append_own_at (P := Try.prog) (w := w) B 22 22 3 i0 (.int .i64 0) 1 8 rfl hi hz0 hz1 hz2 rfl (by decide) v n xs hown ⟨b, o, none⟩ news.length c news (by omega) (fun j u hj => by have h5 := h4 j u hj; by_cases e : j = 0 <;> simp_all [Addr.add]) h1 (by unfold maxLen; omega) (by omega) hB
      refine ⟨v', w', hr, ho, ⟨hg.os, hg.tape, hg.output, hg.size, fun k hk => hg.block k (by omega) fun e => ?_⟩, ?_⟩
      · have := (hown.lt k e.symm).1; omega
      · rcases ho.2 with ⟨e, _⟩ | ⟨g, cap, cur, e, _⟩
        · have h5 := (hv.1 e).2
          exact absurd (List.length_eq_zero_iff.1 h5) hn
        · exact .inr ⟨g, cap, e⟩

set_option maxRecDepth 100000 in
theorem growAllI_any (n : Nat) (hn : n ≤ 49) (w : World) :
    Calls Try.prog 115 #[.slice none 0 0, .int .i64 n] w fun e w' => ∃ v, e = .returned v ∧ w'.ownsRow w.heap.size 3 1 v 0 [] ∧ Below w.heap.size w w' := by
  by_cases h0 : 0 < n
  · refine (growInts_any n h0 hn w).mono ?_
    rintro e w' ⟨g, cap, rfl, ho, hb⟩
    exact ⟨_, rfl, ho, hb⟩
  · obtain rfl : n = 0 := by omega
    show Calls _ _ #[.slice none 0 0, .int .i64 0] w _
    go_enter Try.func115, Try.ntmps115
    go_wp2
    go_ret
    exact ⟨_, rfl, World.ownsRow_nil _ _ _ _, Below.refl _ _⟩


theorem flat_step {d : List (List Int)} {k : Nat} (h : k < d.length) : (d.take (k + 1)).flatten = (d.take k).flatten ++ d[k] := by
  rw [List.take_succ_eq_append_getElem h, List.flatten_append]; simp
theorem flat_len (d : List (List Int)) : d.flatten.length = tot d := by
  unfold tot; rw [List.length_flatten]
theorem tot_small {d : List (List Int)} (h : ∀ l ∈ d, l.length ≤ 7) : tot d ≤ 7 * d.length := by
  induction d with
  | nil => simp [tot]
  | cons a t ih =>
    have h1 := ih (fun l hl => h l (List.mem_cons_of_mem _ hl))
    have h2 := h a (List.mem_cons_self ..)
    unfold tot at *
    simp only [List.map_cons, List.sum_cons, List.length_cons]
    omega

set_option maxRecDepth 100000 in
set_option maxHeartbeats 4000000 in
theorem concatI_any (T : Tab) (w : World) (hT : T.At w) (h7 : T.R.length ≤ 7) (hr7 : ∀ r ∈ T.R, r.l.length ≤ 7) :
    Calls Try.prog 91 #[.slice T.a T.R.length T.c] w fun e w' => ∃ t : Row, e = .returned (.slice t.a t.l.length t.c) ∧ t.l = T.con.flatten ∧ t.Own 3 w' ∧ t.In w.heap.size w'.heap.size w' ∧ Below w.heap.size w w' := by
  obtain ⟨⟨h1, h2, h3⟩, hrows⟩ := hT
  obtain ⟨n, hn⟩ : ∃ n, n = T.R.length := ⟨_, rfl⟩
  have HN := Lib.hid hn
  have hni : (n : Int) ≤ 7 := by omega
  have HR := Lib.hid h3
  have HW := Lib.hid hrows
  have HCL : Hid (T.con.length = n) := Lib.hid (by rw [con_length, hn])
  have HTK : Hid (∀ k, tot (T.con.take k) ≤ 49) := Lib.hid fun k => by
    have := tot_small (d := T.con.take k) (fun l hl => by
      obtain ⟨r, hr, rfl⟩ := List.mem_map.1 (show l ∈ T.R.map Row.l from List.mem_of_mem_take hl)
      exact hr7 r hr)
    rw [List.length_take] at this
    have := HCL.out
    omega
  have HC : Hid (∀ u, Below w.heap.size w u → ∀ k, (hk : k < n) → ∃ b o, ∃ r : Row, T.a = some ⟨b, o, none⟩ ∧ u.cell? ⟨b, o + k, none⟩ = some (.slice r.a r.l.length r.c) ∧ r.At u ∧ r.l.length ≤ 7 ∧ ∃ hk2 : k < T.con.length, T.con[k] = r.l) := Lib.hid fun u hu k hk => by
    rcases HR.out with h3 | ⟨b, o, ha, hb, hcell⟩
    · have h3' := congrArg List.length h3; rw [tv_length, List.length_nil] at h3'; omega
    have hkR : k < T.R.length := by rw [← hn]; exact hk
    exact ⟨b, o, T.R[k], ha, (hu.cell (p := ⟨b, o + k, none⟩) hb).trans (hcell k _ (tv_at hkR)), (hrows _ (List.getElem_mem hkR)).on hu, hr7 _ (List.getElem_mem hkR), by rw [HCL.out]; exact hk, con_at T hkR⟩
  have one : ∀ (L : List Int), ∀ u ∈ iv L, u.oneCell' = true := fun L u hu => by
    unfold iv at hu; obtain ⟨y, _, rfl⟩ := List.mem_map.1 hu; rfl
  have HO := Lib.hid one
  rw [← hn]
  clear h1 h2 h3 hrows hn hr7 one
  go_enter Try.func91, Try.ntmps91
  go_wp2
  go_loopw [3, 5, 11] (fun sv _ jv wr => ∃ k : Nat, k ≤ n ∧ jv = .int .i64 k ∧ sv = .int .i64 ((tot (T.con.take k) : Nat) : Int) ∧ wr = w) (fun _ _ jv _ => n - (intOf jv).toNat)
  case atStart => exact ⟨0, Nat.zero_le _, rfl, rfl, rfl⟩
  case round =>
    obtain ⟨k, hk, rfl, rfl, hw⟩ := hrel
    have hw' := hw.symm
    clear hw
    subst hw'
    by_cases hlt : k < n
    · have hlti : (k : Int) < (n : Int) := by omega
      obtain ⟨b, o, r, ha, hcl, _, hr7, hk2, hrl⟩ := HC.out w (Below.refl _ _) k hlt
      obtain ⟨m, hm⟩ : ∃ m, m = tot (T.con.take k) := ⟨_, rfl⟩
      have hm49 : m ≤ 49 := by rw [hm]; exact HTK.out k
      have HST : Hid (tot (T.con.take (k + 1)) = m + r.l.length) := Lib.hid (by rw [tot_step hk2, hrl, hm])
      rw [← hm, ha]
      have hneg : ¬ ((m : Int) + (r.l.length : Int) < 0) := by omega
      have hri : (r.l.length : Int) ≤ 7 := by omega
      have hmi : (m : Int) ≤ 49 := by omega
      clear hm ha hrl
      go_wp2
      go_roundw
      case rel => exact ⟨k + 1, by omega, by go_num, by rw [HST.out]; first | done | (push_cast; rfl) | go_num, by first | rfl | trivial⟩
      case measure => simp [intOf]; omega
    · obtain rfl : k = n := by omega
      obtain ⟨m, hm⟩ : ∃ m, m = tot (T.con.take k) := ⟨_, rfl⟩
      have hm49 : m ≤ 49 := by rw [hm]; exact HTK.out k
      have CG := Lib.hid (growAllI_any m hm49 w)
      rw [← hm]
      clear hm
      go_wp2_with fail
      refine (show Calls _ _ _ _ _ from CG.out).mono ?_
      rintro e w2 ⟨v, rfl, ho, hb⟩
      have HS := Lib.hid ho
      have HB := Lib.hid hb
      have hsz := hb.size
      clear ho hb
      go_wp2
      go_loopw [6, 8, 27] (fun v _ jv w3 => ∃ j : Nat, j ≤ k ∧ jv = .int .i64 j ∧ w3.ownsRow w.heap.size 3 1 v (tot (T.con.take j)) (iv ((T.con.take j).flatten)) ∧ Below w.heap.size w w3) (fun _ _ jv _ => k - (intOf jv).toNat)
      case atStart => exact ⟨0, Nat.zero_le _, rfl, HS.out, HB.out⟩
      case round =>
        obtain ⟨j, hj, rfl, ho, hb3⟩ := hrel
        have HB3 := Lib.hid hb3
        by_cases hltj : j < k
        · have hltji : (j : Int) < (k : Int) := by omega
          obtain ⟨b, o, r, ha, hcl, hrat, hr7, hk2, hrl⟩ := HC.out _ hb3 j hltj
          have h49 := HTK.out (j + 1)
          have hst : tot (T.con.take (j + 1)) = tot (T.con.take j) + r.l.length := by rw [tot_step hk2, hrl]
          obtain ⟨v', w4, hr, ho', hb4, _⟩ := append_ints w.heap.size u6 (tot (T.con.take j)) (iv ((T.con.take j).flatten)) _ ho r.a r.c r.l.length (iv r.l) (by rw [iv_length]) hrat (HO.out r.l) (by omega) hb3.size
          have HO4 : Hid (w4.ownsRow w.heap.size 3 1 v' (tot (T.con.take (j + 1))) (iv ((T.con.take (j + 1)).flatten))) := Lib.hid (by
            rw [hst, flat_step hk2, hrl]
            have : iv ((T.con.take j).flatten ++ r.l) = iv ((T.con.take j).flatten) ++ iv r.l := by simp [iv]
            rw [this]; exact ho')
          have HB4 := Lib.hid (hb3.trans hb4)
          rw [ha]
          clear ho ho' hb4 hb3 hst hrl ha hrat
          go_wp2_with (at_builtin; refine Lib.wpList_append_run _ rfl _ _ _ _ rfl _ _ rfl rfl _ _ hr ?_)
          go_roundw
          case rel => exact ⟨j + 1, by omega, by go_num, HO4.out, HB4.out⟩
          case measure => simp [intOf]; omega
        · obtain rfl : j = k := by omega
          have hfull : T.con.take j = T.con := List.take_of_length_le (by rw [HCL.out]; exact Nat.le_refl _)
          rw [hfull] at ho
          obtain ⟨t, rfl, htl, hto, hti⟩ := rowN_of_own (flat_len _).symm ho
          have HTL := Lib.hid htl
          clear hfull ho htl
          go_wp2
          go_ret
          exact ⟨t, rfl, HTL.out, hto, hti, HB3.out⟩
end Go.Proofs.Ytjeodblaekdpkaa
