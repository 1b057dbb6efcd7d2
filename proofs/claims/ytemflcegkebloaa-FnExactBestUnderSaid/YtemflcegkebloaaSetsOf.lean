/- The contract of the model's list of all sets. Condition: at most seven sites. -/
import Derived.Test.YtemflcegkebloaaBits
import Derived.Test.YtemflcegkebloaaGrow
import Derived.Test.YtemflcegkebloaaPut
namespace Go.Proofs.Ytemflcegkebloaa
open Go.RowKit

theorem putT_len (L : List (List Nat)) (T : List Nat) : (putT L T).length = L.length + 1 := by
  unfold putT; rw [List.length_append, List.length_cons, ← Nat.add_assoc, ← List.length_append, List.take_append_drop]
theorem setsTo_len (n : Nat) : ∀ c, (setsTo n c).length = c
  | 0 => rfl
  | c + 1 => by rw [setsTo_step, putT_len, setsTo_len n c]
theorem placeT_le (T : List Nat) (L : List (List Nat)) : ∀ k, placeT T L k ≤ k
  | 0 => Nat.le_refl _
  | k + 1 => by
    unfold placeT
    split
    · exact Nat.le_succ_of_le (placeT_le T L k)
    · exact Nat.le_refl _
theorem bitsT_small (n c : Nat) : (bitsT n c).length ≤ n := bitsTo_len c n

/-- The table of the sets so far. -/
structure SetTab (n : Nat) (B : Nat) (w : World) (c : Nat) (v : Value) (g cap : Nat) (Q : List Row) : Prop where
  val : v = .slice (some ⟨g, 0, none⟩) c cap
  len : Q.length = c
  grows : Grows B w v Q
  con : Q.map Row.l = (setsTo n c).map up
theorem SetTab.row {n B c g cap : Nat} {w : World} {v : Value} {Q : List Row} (h : SetTab n B w c v g cap Q) {k : Nat} (hk : k < Q.length) : Q[k].l = up ((setsTo n c).getD k []) := by
  have h1 : (Q.map Row.l)[k]? = some Q[k].l := by rw [List.getElem?_map, List.getElem?_eq_getElem hk]; rfl
  rw [h.con, List.getElem?_map] at h1
  have hk2 : k < (setsTo n c).length := by rw [setsTo_len, ← h.len]; exact hk
  rw [List.getElem?_eq_getElem hk2] at h1
  rw [List.getD_eq_getElem?_getD, List.getElem?_eq_getElem hk2]
  simpa using h1.symm
theorem SetTab.on {n B c g cap : Nat} {w w' : World} {v : Value} {Q : List Row} (h : SetTab n B w c v g cap Q) (t : Below w.heap.size w w') : SetTab n B w' c v g cap Q := ⟨h.val, h.len, h.grows.on t, h.con⟩
theorem SetTab.cell {n B c g cap : Nat} {w : World} {v : Value} {Q : List Row} (h : SetTab n B w c v g cap Q) {k : Nat} (hk : k < Q.length) : w.cell? ⟨g, k, none⟩ = some (.slice Q[k].a Q[k].l.length Q[k].c) := by
  have h1 := h.grows.own
  rw [h.val, ← h.len] at h1
  exact (h1.cellAt k (by omega)).trans (tv_at hk)
theorem SetTab.lt {n B c g cap : Nat} {w : World} {v : Value} {Q : List Row} (h : SetTab n B w c v g cap Q) : g < w.heap.size ∧ c ≤ cap ∧ cap ≤ maxLen ∧ B ≤ g := by
  have h1 := h.grows.own
  rw [h.val, ← h.len] at h1
  have := owns_lt h1
  rw [h.len] at this; exact this

/-- A table with one row put in between, in an array of its own. -/
theorem Grows.put {B : Nat} {w w3 : World} {v v' : Value} {Q : List Row} {s : Row} {k g : Nat} (h : Grows B w v Q) (hso : s.Own 3 w) (hsi : s.In B w.heap.size w) (hap : ∀ r ∈ Q, r.Apart s)
    (hown : w3.ownsRow w.heap.size 22 1 v' (Q.length + 1) (tv (Q.take k ++ s :: Q.drop k))) (hb : Below w.heap.size w w3) (hg : v'.ownBlock = some g) (hgw : w.heap.size ≤ g) (hB : B ≤ w.heap.size) : Grows B w3 v' (Q.take k ++ s :: Q.drop k) := by
  have hperm : (Q.take k ++ s :: Q.drop k).Perm (s :: Q) := by
    refine List.perm_middle.trans (List.Perm.cons _ ?_)
    rw [List.take_append_drop]
  have hlen : (Q.take k ++ s :: Q.drop k).length = Q.length + 1 := by rw [hperm.length_eq]; rfl
  have hmem : ∀ r, r ∈ Q.take k ++ s :: Q.drop k → r = s ∨ r ∈ Q := fun r hr => by
    have := hperm.mem_iff.1 hr
    simpa using this
  refine ⟨?_, ⟨fun r hr => ?_, ?_⟩, fun r hr => ?_, fun r hr hne x hx e => ?_⟩
  · rw [hlen]
    obtain ⟨h1, h2⟩ := id hown
    refine ⟨h1, ?_⟩
    rcases h2 with h2 | ⟨g', cap, cur, e, hB', r⟩
    · exact .inl h2
    · exact .inr ⟨g', cap, cur, e, by omega, r⟩
  · rcases hmem r hr with rfl | hr
    · exact hso.on hb
    · exact (h.lots.1 r hr).on hb
  · refine (List.Perm.pairwise_iff (R := Row.Apart) (fun {a b} (hab : a.Apart b) => hab.symm) hperm).2 (List.pairwise_cons.2 ⟨fun r hr => (hap r hr).symm, h.lots.2⟩)
  · rcases hmem r hr with rfl | hr
    · exact (hsi.on hb).wide (Nat.le_refl _) hb.size
    · exact ((h.ins r hr).on hb).wide (Nat.le_refl _) hb.size
  · rw [hg] at e
    simp only [Option.some.injEq] at e
    have hr2 : r.In B w.heap.size w := by
      rcases hmem r hr with rfl | hr
      · exact hsi
      · exact h.ins r hr
    obtain ⟨_, _, h3⟩ := hr2
    rcases h3 with h3 | ⟨b, o, e', _, hh, _, _⟩
    · exact hne (iv_nil h3)
    · rw [hx] at e'
      simp only [Option.some.injEq] at e'
      subst e'
      simp only at e
      omega
theorem set_put {n B c g cap k : Nat} {w w3 : World} {v v' : Value} {Q : List Row} {s : Row} (h : SetTab n B w c v g cap Q) (hso : s.Own 3 w) (hsi : s.In B w.heap.size w) (hap : ∀ r ∈ Q, r.Apart s) (hsl : s.l = up (bitsT n (c + 1))) (hk : k = placeT (bitsT n (c + 1)) (setsTo n c) (setsTo n c).length)
    {g' cap' : Nat} (hv' : v' = .slice (some ⟨g', 0, none⟩) (c + 1) cap') (hown : w3.ownsRow w.heap.size 22 1 v' (c + 1) (tv (Q.take k ++ s :: Q.drop k))) (hb : Below w.heap.size w w3) (hgw : w.heap.size ≤ g') (hB : B ≤ w.heap.size) : SetTab n B w3 (c + 1) v' g' cap' (Q.take k ++ s :: Q.drop k) := by
  have hlen : (Q.take k ++ s :: Q.drop k).length = c + 1 := by
    rw [List.length_append, List.length_cons, ← Nat.add_assoc, ← List.length_append, List.take_append_drop, h.len]
  refine ⟨hv', hlen, h.grows.put hso hsi hap (by rw [h.len]; exact hown) hb (g := g') (by rw [hv']; rfl) hgw hB, ?_⟩
  rw [setsTo_step]
  unfold putT
  rw [← hk, List.map_append, List.map_cons, List.map_append, List.map_cons, List.map_take, List.map_drop, h.con, ← hsl, List.map_take, List.map_drop]

theorem setsTo_mem (n : Nat) : ∀ c, ∀ T ∈ setsTo n c, T.length ≤ n
  | 0, T, h => by simp [setsTo] at h
  | c + 1, T, h => by
    rw [setsTo_step] at h
    unfold putT at h
    rcases List.mem_append.1 h with h | h
    · exact setsTo_mem n c T (List.mem_of_mem_take h)
    · rcases List.mem_cons.1 h with h | h
      · rw [h]; exact bitsT_small n (c + 1)
      · exact setsTo_mem n c T (List.mem_of_mem_drop h)
theorem setsTo_getD (n c j : Nat) : ((setsTo n c).getD j []).length ≤ n := by
  by_cases h : j < (setsTo n c).length
  · rw [List.getD_eq_getElem?_getD, List.getElem?_eq_getElem h]
    exact setsTo_mem n c _ (List.getElem_mem h)
  · rw [List.getD_eq_getElem?_getD, List.getElem?_eq_none (by omega)]
    exact Nat.zero_le _
theorem add_at (g k j : Nat) : (⟨g, k, none⟩ : Addr).add j = ⟨g, k + j, none⟩ := by unfold Addr.add; split <;> simp_all
theorem add_zero (g j : Nat) : (⟨g, 0, none⟩ : Addr).add j = ⟨g, j, none⟩ := by rw [add_at]; simp
theorem drew_trans {a b c : World} (h : DrewTo a b) (k : DrewTo b c) : DrewTo a c := by
  obtain ⟨d, rfl⟩ := k
  exact h.more d
theorem drews_below {a b : World} (h : DrewTo a b) : Below a.heap.size a b := h.below
set_option maxRecDepth 32000 in
set_option maxHeartbeats 4000000 in
theorem l2Sets_any (n : Nat) (w : World) (hn : n ≤ 7) :
    Calls Try.prog 28 #[.int .i64 n] w fun e w' => ∃ v g cap Q, e = .returned v ∧ SetTab n w.heap.size w' (2 ^ n - 1) v g cap Q ∧ Below w.heap.size w w' := by
  obtain ⟨i0, hi, hz0, hz1, hz2⟩ := info_parts infoInts
  have hni : (n : Int) ≤ 7 := by omega
  have hp1 : 1 ≤ 2 ^ n := Nat.one_le_two_pow
  have hp2 : 2 ^ n ≤ 128 := by
    have : 2 ^ n ≤ 2 ^ 7 := Nat.pow_le_pow_right (by omega) hn
    simpa using this
  obtain ⟨m, hm⟩ : ∃ m, m = 2 ^ n := ⟨_, rfl⟩
  have hpi : (2 : Int) ^ n = (m : Int) := by rw [hm]; push_cast; rfl
  rw [← hm] at hp1 hp2 ⊢
  have hmi : (m : Int) ≤ 128 := by omega
  have H0 : Hid (SetTab n w.heap.size (w.alloc (.cells #[] 22)) 0 (.slice (some ⟨w.heap.size, 0, none⟩) 0 0) w.heap.size 0 []) := Lib.hid ⟨rfl, rfl, tab_empty w, rfl⟩
  have HB0 := Lib.hid (below_alloc w (.cells #[] 22))
  clear hm
  go_enter Try.func28, Try.ntmps28
  go_wp2
  go_loopw [3, 4, 5, 6] (fun out i _ _ wr => ∃ (c d g cap : Nat) (Q : List Row), c < m ∧ Hid (d = c + 1) ∧ i = .int .i64 d ∧ out = .slice (some ⟨g, 0, none⟩) c cap ∧ SetTab n w.heap.size wr c (.slice (some ⟨g, 0, none⟩) c cap) g cap Q ∧ Below w.heap.size w wr) (fun _ i _ _ _ => m - (intOf i).toNat)
  case atStart => exact ⟨0, 1, w.heap.size, 0, [], by omega, Lib.hid rfl, rfl, rfl, H0.out, HB0.out⟩
  case round =>
    obtain ⟨c, d, g, cap, Q, hc, HD, rfl, rfl, htab, hnx⟩ := hrel
    have hd1 : d ≤ c + 1 := Nat.le_of_eq HD.out
    have hd2 : c + 1 ≤ d := Nat.le_of_eq HD.out.symm
    obtain ⟨hgl, hcc, hcm, hwg⟩ := htab.lt
    by_cases hlt : d < m
    · have hlti : (d : Int) < (m : Int) := by omega
      have CB := Lib.hid (l2Bits_any n d wr hn (by omega))
      have HT := Lib.hid htab
      have HNX := Lib.hid hnx
      have hszr := hnx.size
      clear htab hnx
      go_wp2_with fail
      refine CB.out.mono ?_
      rintro e W2 ⟨t, rfl, htl, hto, hti, hb2⟩
      have HT2 := Lib.hid (HT.out.on hb2)
      have HB2 := Lib.hid (HNX.out.trans (hb2.mono hszr))
      have HTL : Hid (t.l = up (bitsT n (c + 1))) := Lib.hid (by rw [htl, HD.out])
      have HTO2 := Lib.hid hto
      have HTI2 := Lib.hid (hti.wide hszr (Nat.le_refl _))
      have HAP := Lib.hid (HT.out.grows.fresh hti).1
      have htn : (t.l.length : Int) ≤ 7 := by rw [htl, up_length]; have := bitsT_small n d; omega
      clear htl hto hti hb2
      go_wp2
      go_loopw [6] (fun kv W9 => ∃ k : Nat, k ≤ c ∧ kv = .int .i64 k ∧ DrewTo W2 W9 ∧ Hid (placeT (bitsT n (c + 1)) (setsTo n c) k = placeT (bitsT n (c + 1)) (setsTo n c) (setsTo n c).length)) (fun kv _ => (intOf kv).toNat)
      case atStart => exact ⟨c, Nat.le_refl _, rfl, DrewTo.refl _, Lib.hid (by rw [setsTo_len])⟩
      case round =>
        obtain ⟨W9, hW9⟩ : ∃ u, u = wr := ⟨_, rfl⟩
        rw [← hW9] at hrel ⊢
        clear hW9
        obtain ⟨k, hk, rfl, hdw, HPL⟩ := hrel
        have hbd := hdw.below
        have HT9 := Lib.hid (HT2.out.on hbd)
        have HTO := Lib.hid (HTO2.out.on hbd)
        have HTI := Lib.hid ((HTI2.out.on hbd).wide (Nat.le_refl _) hbd.size)
        have HB9 := Lib.hid (HB2.out.trans (hbd.mono HB2.out.size))
        have HSZ := Lib.hid HB9.out.size
        have hwsz := HB9.out.size
        have HCL : Hid (∀ u, Below W9.heap.size W9 u → ∀ j, (hj : j < Q.length) → u.cell? ⟨g, j, none⟩ = some (.slice Q[j].a Q[j].l.length Q[j].c)) := Lib.hid fun u hu j hj => (hu.cell (p := ⟨g, j, none⟩) HT9.out.lt.1).trans (HT9.out.cell hj)
        have HBE : Hid (∀ u, Below W9.heap.size W9 u → Below w.heap.size w u) := Lib.hid fun u hu => HB9.out.trans (hu.mono HB9.out.size)
        have B00 := Lib.hid (Below.refl W9.heap.size W9)
        have HAL : Hid (∀ u o, Below W9.heap.size W9 u → Below W9.heap.size W9 (u.alloc o)) := Lib.hid fun u o hu => hu.alloc hu.size o
        have HM9 : Hid (∀ u H, Below W9.heap.size W9 u → u.heap.size = H → (u.alloc (.cells #[] 22)).ownsRow W9.heap.size 22 1 (.slice (some ⟨H, 0, none⟩) 0 0) 0 (tv [])) := Lib.hid fun u H hu hH => by subst hH; exact World.ownsRow_made u #[] 0 hu.size (by decide) rfl
        have HGR : Hid (∀ (u u' : World) (g : Nat), u.grownBy u' (some g) → Below W9.heap.size W9 u → W9.heap.size ≤ g → Below W9.heap.size W9 u') := Lib.hid fun u u' g hg hu hw => hu.grown hg hu.size (fun j hj => by cases hj; exact hw)
        have b1 : Below W9.heap.size W9 W9.drew := B00.out.drew
        have HNC : Hid (((W9.alloc (.cells #[.slice t.a t.l.length t.c] 22)).alloc (.cells #[] 22)).heap[W9.heap.size]? = some (.cells #[.slice t.a t.l.length t.c] 22)) := Lib.hid ((Below.heap_alloc (W9.alloc (.cells #[.slice t.a t.l.length t.c] 22)) (.cells #[] 22) W9.heap.size (by rw [size_alloc]; omega)).trans (heap_alloc_new _ _))
        have HNB : Hid (((W9.alloc (.cells #[] 22)).alloc (.cells #[.slice t.a t.l.length t.c] 22)).heap[W9.heap.size + 1]? = some (.cells #[.slice t.a t.l.length t.c] 22)) := Lib.hid (by rw [← size_alloc W9 (.cells #[] 22)]; exact heap_alloc_new _ _)
        have HDW := Lib.hid hdw
        clear hbd hdw
        by_cases hk0 : 0 < k
        · have hk0i : (0 : Int) < (k : Int) := by omega
          obtain ⟨j, hj⟩ : ∃ j, k = j + 1 := ⟨k - 1, by omega⟩
          have hjc : j < c := by omega
          have hjQ : j < Q.length := by have := HT9.out.len; omega
          have hw1 : IntKind.i64.wrap ((k : Int) - 1) = (j : Int) := by rw [show (k : Int) - 1 = (j : Int) by omega]; exact IntWalk.i64_in _ (by omega)
          obtain ⟨r, hr⟩ : ∃ r, r = Q[j] := ⟨_, rfl⟩
          have hcl : W9.cell? ⟨g, j, none⟩ = some (.slice r.a r.l.length r.c) := by rw [hr]; exact HCL.out W9 B00.out j hjQ
          obtain ⟨v, hv⟩ : ∃ v, v = beforeT (bitsT n (c + 1)) ((setsTo n c).getD j []) := ⟨_, rfl⟩
          have hrl : r.l = up ((setsTo n c).getD j []) := by rw [hr]; exact HT9.out.row hjQ
          have CF := Lib.hid (by
            have hrA : r.At W9 := by rw [hr]; exact (HT9.out.grows.ins _ (List.getElem_mem _)).at
            have hsm : ((setsTo n c).getD j []).length ≤ 7 := Nat.le_trans (setsTo_getD n c j) hn
            have := l2Before_any t r _ _ W9 HTI.out.at hrA HTL.out hrl (by have := bitsT_small n (c + 1); omega) hsm
            rw [← hv] at this; exact this)
          have HJ := Lib.hid hj
          have hji : (k : Int) - 1 = (j : Int) := by omega
          have hjci : (j : Int) < (c : Int) := by omega
          have hkp0 := placeT_le (bitsT n (c + 1)) (setsTo n c) j
          have HV : Hid (placeT (bitsT n (c + 1)) (setsTo n c) k = if v then placeT (bitsT n (c + 1)) (setsTo n c) j else k) := Lib.hid (by rw [hj, hv]; rfl)
          clear hr hrl hv hj
          cases v with
          | true =>
            go_wp2_with fail
            refine (show Calls _ _ _ _ _ from CF.out).mono ?_
            rintro e W8 ⟨rfl, hdw⟩
            have HDW8 := Lib.hid (drew_trans HDW.out hdw)
            clear hdw hcl
            go_wp2
            go_roundw
            case rel => exact ⟨j, by omega, by first | rfl | go_num, HDW8.out, Lib.hid (by have := HV.out; rw [← HPL.out, this]; rfl)⟩
            case measure => simp [intOf]; have := HJ.out; omega
          | false =>
            have hkp : k = placeT (bitsT n (c + 1)) (setsTo n c) (setsTo n c).length := by have := HV.out; rw [← HPL.out, this]; rfl
            have HKP := Lib.hid hkp
            clear hkp
            go_wp2_with fail
            refine (show Calls _ _ _ _ _ from CF.out).mono ?_
            rintro e W8 ⟨rfl, hdw8⟩
            have hdw := drew_trans HDW.out hdw8
            have hkp := HKP.out
            clear hcl HDW HKP hdw8 HT9 HTO HTI HB9 HSZ hwsz HCL HBE B00 HAL HM9 HGR b1 HNC HNB CF HV
            have hbd := hdw.below
            have HT9 := Lib.hid (HT2.out.on hbd)
            have HTO := Lib.hid (HTO2.out.on hbd)
            have HTI := Lib.hid ((HTI2.out.on hbd).wide (Nat.le_refl _) hbd.size)
            have HB9 := Lib.hid (HB2.out.trans (hbd.mono HB2.out.size))
            have HSZ := Lib.hid HB9.out.size
            have hwsz := HB9.out.size
            have HCL : Hid (∀ u, Below W8.heap.size W8 u → ∀ j, (hj : j < Q.length) → u.cell? ⟨g, j, none⟩ = some (.slice Q[j].a Q[j].l.length Q[j].c)) := Lib.hid fun u hu j hj => (hu.cell (p := ⟨g, j, none⟩) HT9.out.lt.1).trans (HT9.out.cell hj)
            have HBE : Hid (∀ u, Below W8.heap.size W8 u → Below w.heap.size w u) := Lib.hid fun u hu => HB9.out.trans (hu.mono HB9.out.size)
            have B00 := Lib.hid (Below.refl W8.heap.size W8)
            have HAL : Hid (∀ u o, Below W8.heap.size W8 u → Below W8.heap.size W8 (u.alloc o)) := Lib.hid fun u o hu => hu.alloc hu.size o
            have HM9 : Hid (∀ u H, Below W8.heap.size W8 u → u.heap.size = H → (u.alloc (.cells #[] 22)).ownsRow W8.heap.size 22 1 (.slice (some ⟨H, 0, none⟩) 0 0) 0 (tv [])) := Lib.hid fun u H hu hH => by subst hH; exact World.ownsRow_made u #[] 0 hu.size (by decide) rfl
            have HGR : Hid (∀ (u u' : World) (g : Nat), u.grownBy u' (some g) → Below W8.heap.size W8 u → W8.heap.size ≤ g → Below W8.heap.size W8 u') := Lib.hid fun u u' g hg hu hw => hu.grown hg hu.size (fun j hj => by cases hj; exact hw)
            have b1 : Below W8.heap.size W8 W8.drew := B00.out.drew
            have HNC : Hid (((W8.alloc (.cells #[.slice t.a t.l.length t.c] 22)).alloc (.cells #[] 22)).heap[W8.heap.size]? = some (.cells #[.slice t.a t.l.length t.c] 22)) := Lib.hid ((Below.heap_alloc (W8.alloc (.cells #[.slice t.a t.l.length t.c] 22)) (.cells #[] 22) W8.heap.size (by rw [size_alloc]; omega)).trans (heap_alloc_new _ _))
            have HNB : Hid (((W8.alloc (.cells #[] 22)).alloc (.cells #[.slice t.a t.l.length t.c] 22)).heap[W8.heap.size + 1]? = some (.cells #[.slice t.a t.l.length t.c] 22)) := Lib.hid (by rw [← size_alloc W8 (.cells #[] 22)]; exact heap_alloc_new _ _)
            clear hbd hdw
            have HKP := Lib.hid hkp
            have hkc : (k : Int) ≤ (c : Int) := by omega
            have hkcap : (k : Int) ≤ (cap : Int) := by omega
            have HLK : Hid ((tv (Q.take k)).length = k * 1) := Lib.hid (by rw [tv_length, List.length_take]; have := HT9.out.len; omega)
            have HNW : Hid (∀ u, Below W8.heap.size W8 u → ∀ j z, (tv (Q.take k))[j]? = some z → u.cell? ((⟨g, 0, none⟩ : Addr).add j) = some z) := Lib.hid fun u hu j z hz => by
              have hj : j < (tv (Q.take k)).length := (List.getElem?_eq_some_iff.1 hz).1
              rw [HLK.out] at hj
              have hjl : j < Q.length := by have := HT9.out.len; omega
              rw [tv_at (by rw [List.length_take]; omega)] at hz
              rw [add_zero g j, HCL.out u hu j hjl, ← hz, List.getElem_take]
            have HONE : Hid (∀ u ∈ tv (Q.take k), u.oneCell' = true) := Lib.hid fun u hu => by unfold tv at hu; obtain ⟨y, _, rfl⟩ := List.mem_map.1 hu; rfl
            have HLK2 : Hid ((tv (Q.drop k)).length = (c - k) * 1) := Lib.hid (by rw [tv_length, List.length_drop]; have := HT9.out.len; omega)
            have HONE2 : Hid (∀ u ∈ tv (Q.drop k), u.oneCell' = true) := Lib.hid fun u hu => by unfold tv at hu; obtain ⟨y, _, rfl⟩ := List.mem_map.1 hu; rfl
            have HFIN : Hid (∀ w3 g3 cap3, w3.ownsRow W8.heap.size 22 1 (.slice (some ⟨g3, 0, none⟩) (c + 1) cap3) (c + 1) (((tv [] ++ tv (Q.take k)) ++ [.slice t.a t.l.length t.c]) ++ tv (Q.drop k)) → Below W8.heap.size W8 w3 → SetTab n w.heap.size w3 (c + 1) (.slice (some ⟨g3, 0, none⟩) (c + 1) cap3) g3 cap3 (Q.take k ++ t :: Q.drop k)) := Lib.hid fun w3 g3 cap3 ho hb => by
              refine set_put HT9.out HTO.out HTI.out HAP.out HTL.out HKP.out rfl ?_ hb (owns_lt ho).2.2.2 HSZ.out
              have e : (((tv [] ++ tv (Q.take k)) ++ [Value.slice t.a t.l.length t.c]) ++ tv (Q.drop k)) = tv (Q.take k ++ t :: Q.drop k) := by simp [tv, Row.val]
              rw [← e]; exact ho
            clear hkp
            by_cases hkl : k < c
            · have HNW2 : Hid (∀ u, Below W8.heap.size W8 u → ∀ j z, (tv (Q.drop k))[j]? = some z → u.cell? ((⟨g, k, none⟩ : Addr).add j) = some z) := Lib.hid fun u hu j z hz => by
                have hj : j < (tv (Q.drop k)).length := (List.getElem?_eq_some_iff.1 hz).1
                rw [HLK2.out] at hj
                have hjl : k + j < Q.length := by have := HT9.out.len; omega
                rw [tv_at (by rw [List.length_drop]; omega)] at hz
                rw [add_at g k j, HCL.out u hu (k + j) hjl, ← hz, List.getElem_drop]
              have hc0n : ¬ cap = 0 := by omega
              have hckn : ¬ cap = k := by omega
              go_wp2_with fail
              go_region_held3 (fun u => Below W8.heap.size W8 u) (first | assumption | exact HAL.out _ _ (by assumption)) (first | (refine step_append_some rfl (.tmp 32) (.tmp 35) 23 rfl W8.heap.size 22 i0 (.slice none 0 0) 1 24 Try.underlying23 hi hz0 hz1 hz2 rfl (by decide) _ 0 (tv []) rfl (by first | exact HM9.out _ _ (by first | assumption | exact HAL.out _ _ (by assumption) | exact HAL.out _ _ (HAL.out _ _ (by assumption))) (by simp) | exact (HM9.out _ _ (by first | assumption | exact HAL.out _ _ (by assumption) | exact HAL.out _ _ (HAL.out _ _ (by assumption))) (by simp)).alloc _) (fun h => absurd (show Value.slice (some _) _ _ = Value.slice none 0 0 from h) (by simp)) ⟨g, 0, none⟩ k cap (tv (Q.take k)) rfl HLK.out (HNW.out _ (by first | assumption | exact HAL.out _ _ (by assumption) | exact HAL.out _ _ (HAL.out _ _ (by assumption)))) HONE.out (by unfold maxLen; omega) (by omega) (by simp; try omega) k (by omega) ?_; intro g1 cap1 w1 hown1 hgrow1 hat1; have hb1 := HGR.out _ _ _ hgrow1 (by first | assumption | exact HAL.out _ _ (by assumption) | exact HAL.out _ _ (HAL.out _ _ (by assumption))) (by first | omega | exact Nat.le_refl _ | exact Nat.le_succ _ | simp)) | (refine step_append_some rfl (.tmp 36) (.tmp 38) 23 rfl W8.heap.size 22 i0 (.slice none 0 0) 1 24 Try.underlying23 hi hz0 hz1 hz2 rfl (by decide) _ k _ rfl (by first | exact hown1 | exact hown1.alloc _) (fun h => absurd (show Value.slice (some _) _ _ = Value.slice none 0 0 from h) (by simp)) _ 1 1 [.slice t.a t.l.length t.c] rfl rfl (by first | exact one_cell _ _ _ | exact far_cell (B := W8.heap.size + 1) hgrow1 HNB.out (show W8.heap.size + 1 ≠ W8.heap.size by omega) | exact far_cell (B := W8.heap.size) hgrow1 HNC.out (show W8.heap.size ≠ W8.heap.size + 1 by omega)) (by simp [Value.oneCell']) (by unfold maxLen; omega) (by omega) (by have := hb1.size; first | omega | (simp; omega)) (k + 1) rfl ?_; intro g2 cap2 w2 hown2 hgrow2 hat2; have hb2 := HGR.out _ _ _ hgrow2 (by first | assumption | exact HAL.out _ _ (by assumption) | exact HAL.out _ _ (HAL.out _ _ (by assumption))) (owns_lt hown1).2.2.2) | (refine step_append_some rfl (.tmp 39) (.tmp 42) 23 rfl W8.heap.size 22 i0 (.slice none 0 0) 1 24 Try.underlying23 hi hz0 hz1 hz2 rfl (by decide) _ (k + 1) _ rfl (by first | exact hown2 | exact hown2.alloc _) (fun h => absurd (show Value.slice (some _) _ _ = Value.slice none 0 0 from h) (by simp)) ⟨g, k, none⟩ (c - k) (cap - k) (tv (Q.drop k)) rfl HLK2.out (HNW2.out _ (by first | assumption | exact HAL.out _ _ (by assumption) | exact HAL.out _ _ (HAL.out _ _ (by assumption)))) HONE2.out (by unfold maxLen; omega) (by omega) (by have := hb2.size; first | omega | (simp; omega)) (c + 1) (by omega) ?_; intro g3 cap3 w3 hown3 hgrow3 hat3; have hb3 := HGR.out _ _ _ hgrow3 (by first | assumption | exact HAL.out _ _ (by assumption) | exact HAL.out _ _ (HAL.out _ _ (by assumption))) (owns_lt hown2).2.2.2))
              all_goals (go_wp2; go_roundw; (case rel => exact ⟨c + 1, d + 1, _, _, _, by omega, Lib.hid (by have := HD.out; omega), by go_num, rfl, HFIN.out _ _ _ (by assumption) (by first | assumption | exact And.right (by assumption)), HBE.out _ (by first | assumption | exact And.right (by assumption))⟩); (case measure => simp [intOf]; omega))
            · have hkle : k = c := by omega
              have HDR : Hid (tv (Q.drop k) = []) := Lib.hid (by rw [List.drop_of_length_le (by have := HT9.out.len; omega)]; rfl)
              have HNW2 : Hid (∀ (ad : Addr) (u : World), Below W8.heap.size W8 u → ∀ j z, (tv (Q.drop k))[j]? = some z → u.cell? (ad.add j) = some z) := Lib.hid fun ad u _ j z hz => by rw [HDR.out] at hz; simp at hz
              subst hkle
              by_cases hc0n : cap = 0
              · have hk0' : k = 0 := by omega
                subst hk0'
                subst hc0n
                go_wp2_with fail
                go_region_held3 (fun u => Below W8.heap.size W8 u) (first | assumption | exact HAL.out _ _ (by assumption)) (first | (refine step_append_some rfl (.tmp 32) (.tmp 35) 23 rfl W8.heap.size 22 i0 (.slice none 0 0) 1 24 Try.underlying23 hi hz0 hz1 hz2 rfl (by decide) _ 0 (tv []) rfl (by first | exact HM9.out _ _ (by first | assumption | exact HAL.out _ _ (by assumption) | exact HAL.out _ _ (HAL.out _ _ (by assumption))) (by simp) | exact (HM9.out _ _ (by first | assumption | exact HAL.out _ _ (by assumption) | exact HAL.out _ _ (HAL.out _ _ (by assumption))) (by simp)).alloc _) (fun h => absurd (show Value.slice (some _) _ _ = Value.slice none 0 0 from h) (by simp)) _ 0 _ (tv (Q.take 0)) rfl HLK.out (HNW.out _ (by first | assumption | exact HAL.out _ _ (by assumption) | exact HAL.out _ _ (HAL.out _ _ (by assumption)))) HONE.out (by unfold maxLen; omega) (by omega) (by simp; try omega) 0 (by omega) ?_; intro g1 cap1 w1 hown1 hgrow1 hat1; have hb1 := HGR.out _ _ _ hgrow1 (by first | assumption | exact HAL.out _ _ (by assumption) | exact HAL.out _ _ (HAL.out _ _ (by assumption))) (by first | omega | exact Nat.le_refl _ | exact Nat.le_succ _ | simp)) | (refine step_append_some rfl (.tmp 36) (.tmp 38) 23 rfl W8.heap.size 22 i0 (.slice none 0 0) 1 24 Try.underlying23 hi hz0 hz1 hz2 rfl (by decide) _ 0 _ rfl (by first | exact hown1 | exact hown1.alloc _) (fun h => absurd (show Value.slice (some _) _ _ = Value.slice none 0 0 from h) (by simp)) _ 1 1 [.slice t.a t.l.length t.c] rfl rfl (by first | exact one_cell _ _ _ | exact far_cell (B := W8.heap.size + 1) hgrow1 HNB.out (show W8.heap.size + 1 ≠ W8.heap.size by omega) | exact far_cell (B := W8.heap.size) hgrow1 HNC.out (show W8.heap.size ≠ W8.heap.size + 1 by omega)) (by simp [Value.oneCell']) (by unfold maxLen; omega) (by omega) (by have := hb1.size; first | omega | (simp; omega)) (0 + 1) rfl ?_; intro g2 cap2 w2 hown2 hgrow2 hat2; have hb2 := HGR.out _ _ _ hgrow2 (by first | assumption | exact HAL.out _ _ (by assumption) | exact HAL.out _ _ (HAL.out _ _ (by assumption))) (owns_lt hown1).2.2.2) | (refine step_append_some rfl (.tmp 39) (.tmp 42) 23 rfl W8.heap.size 22 i0 (.slice none 0 0) 1 24 Try.underlying23 hi hz0 hz1 hz2 rfl (by decide) _ (0 + 1) _ rfl (by first | exact hown2 | exact hown2.alloc _) (fun h => absurd (show Value.slice (some _) _ _ = Value.slice none 0 0 from h) (by simp)) _ 0 _ (tv (Q.drop 0)) rfl HLK2.out (HNW2.out _ _ (by first | assumption | exact HAL.out _ _ (by assumption) | exact HAL.out _ _ (HAL.out _ _ (by assumption)))) HONE2.out (by unfold maxLen; omega) (by omega) (by have := hb2.size; first | omega | (simp; omega)) (0 + 1) (by omega) ?_; intro g3 cap3 w3 hown3 hgrow3 hat3; have hb3 := HGR.out _ _ _ hgrow3 (by first | assumption | exact HAL.out _ _ (by assumption) | exact HAL.out _ _ (HAL.out _ _ (by assumption))) (owns_lt hown2).2.2.2))
                all_goals (go_wp2; go_roundw; (case rel => exact ⟨0 + 1, d + 1, _, _, _, by omega, Lib.hid (by have := HD.out; omega), by go_num, rfl, HFIN.out _ _ _ (by assumption) (by first | assumption | exact And.right (by assumption)), HBE.out _ (by first | assumption | exact And.right (by assumption))⟩); (case measure => simp [intOf]; omega))
              · by_cases hckn : cap = k
                · subst hckn
                  go_wp2_with fail
                  go_region_held3 (fun u => Below W8.heap.size W8 u) (first | assumption | exact HAL.out _ _ (by assumption)) (first | (refine step_append_some rfl (.tmp 32) (.tmp 35) 23 rfl W8.heap.size 22 i0 (.slice none 0 0) 1 24 Try.underlying23 hi hz0 hz1 hz2 rfl (by decide) _ 0 (tv []) rfl (by first | exact HM9.out _ _ (by first | assumption | exact HAL.out _ _ (by assumption) | exact HAL.out _ _ (HAL.out _ _ (by assumption))) (by simp) | exact (HM9.out _ _ (by first | assumption | exact HAL.out _ _ (by assumption) | exact HAL.out _ _ (HAL.out _ _ (by assumption))) (by simp)).alloc _) (fun h => absurd (show Value.slice (some _) _ _ = Value.slice none 0 0 from h) (by simp)) _ cap _ (tv (Q.take cap)) rfl HLK.out (HNW.out _ (by first | assumption | exact HAL.out _ _ (by assumption) | exact HAL.out _ _ (HAL.out _ _ (by assumption)))) HONE.out (by unfold maxLen; omega) (by omega) (by simp; try omega) cap (by omega) ?_; intro g1 cap1 w1 hown1 hgrow1 hat1; have hb1 := HGR.out _ _ _ hgrow1 (by first | assumption | exact HAL.out _ _ (by assumption) | exact HAL.out _ _ (HAL.out _ _ (by assumption))) (by first | omega | exact Nat.le_refl _ | exact Nat.le_succ _ | simp)) | (refine step_append_some rfl (.tmp 36) (.tmp 38) 23 rfl W8.heap.size 22 i0 (.slice none 0 0) 1 24 Try.underlying23 hi hz0 hz1 hz2 rfl (by decide) _ cap _ rfl (by first | exact hown1 | exact hown1.alloc _) (fun h => absurd (show Value.slice (some _) _ _ = Value.slice none 0 0 from h) (by simp)) _ 1 1 [.slice t.a t.l.length t.c] rfl rfl (by first | exact one_cell _ _ _ | exact far_cell (B := W8.heap.size + 1) hgrow1 HNB.out (show W8.heap.size + 1 ≠ W8.heap.size by omega) | exact far_cell (B := W8.heap.size) hgrow1 HNC.out (show W8.heap.size ≠ W8.heap.size + 1 by omega)) (by simp [Value.oneCell']) (by unfold maxLen; omega) (by omega) (by have := hb1.size; first | omega | (simp; omega)) (cap + 1) rfl ?_; intro g2 cap2 w2 hown2 hgrow2 hat2; have hb2 := HGR.out _ _ _ hgrow2 (by first | assumption | exact HAL.out _ _ (by assumption) | exact HAL.out _ _ (HAL.out _ _ (by assumption))) (owns_lt hown1).2.2.2) | (refine step_append_some rfl (.tmp 39) (.tmp 42) 23 rfl W8.heap.size 22 i0 (.slice none 0 0) 1 24 Try.underlying23 hi hz0 hz1 hz2 rfl (by decide) _ (cap + 1) _ rfl (by first | exact hown2 | exact hown2.alloc _) (fun h => absurd (show Value.slice (some _) _ _ = Value.slice none 0 0 from h) (by simp)) _ 0 _ (tv (Q.drop cap)) rfl (by rw [HDR.out]; rfl) (HNW2.out _ _ (by first | assumption | exact HAL.out _ _ (by assumption) | exact HAL.out _ _ (HAL.out _ _ (by assumption)))) HONE2.out (by unfold maxLen; omega) (by omega) (by have := hb2.size; first | omega | (simp; omega)) (cap + 1) (by omega) ?_; intro g3 cap3 w3 hown3 hgrow3 hat3; have hb3 := HGR.out _ _ _ hgrow3 (by first | assumption | exact HAL.out _ _ (by assumption) | exact HAL.out _ _ (HAL.out _ _ (by assumption))) (owns_lt hown2).2.2.2))
                  all_goals (go_wp2; go_roundw; (case rel => exact ⟨cap + 1, d + 1, _, _, _, by omega, Lib.hid (by have := HD.out; omega), by go_num, rfl, HFIN.out _ _ _ (by assumption) (by first | assumption | exact And.right (by assumption)), HBE.out _ (by first | assumption | exact And.right (by assumption))⟩); (case measure => simp [intOf]; omega))
                · skip
                  go_wp2_with fail
                  go_region_held3 (fun u => Below W8.heap.size W8 u) (first | assumption | exact HAL.out _ _ (by assumption)) (first | (refine step_append_some rfl (.tmp 32) (.tmp 35) 23 rfl W8.heap.size 22 i0 (.slice none 0 0) 1 24 Try.underlying23 hi hz0 hz1 hz2 rfl (by decide) _ 0 (tv []) rfl (by first | exact HM9.out _ _ (by first | assumption | exact HAL.out _ _ (by assumption) | exact HAL.out _ _ (HAL.out _ _ (by assumption))) (by simp) | exact (HM9.out _ _ (by first | assumption | exact HAL.out _ _ (by assumption) | exact HAL.out _ _ (HAL.out _ _ (by assumption))) (by simp)).alloc _) (fun h => absurd (show Value.slice (some _) _ _ = Value.slice none 0 0 from h) (by simp)) _ k _ (tv (Q.take k)) rfl HLK.out (HNW.out _ (by first | assumption | exact HAL.out _ _ (by assumption) | exact HAL.out _ _ (HAL.out _ _ (by assumption)))) HONE.out (by unfold maxLen; omega) (by omega) (by simp; try omega) k (by omega) ?_; intro g1 cap1 w1 hown1 hgrow1 hat1; have hb1 := HGR.out _ _ _ hgrow1 (by first | assumption | exact HAL.out _ _ (by assumption) | exact HAL.out _ _ (HAL.out _ _ (by assumption))) (by first | omega | exact Nat.le_refl _ | exact Nat.le_succ _ | simp)) | (refine step_append_some rfl (.tmp 36) (.tmp 38) 23 rfl W8.heap.size 22 i0 (.slice none 0 0) 1 24 Try.underlying23 hi hz0 hz1 hz2 rfl (by decide) _ k _ rfl (by first | exact hown1 | exact hown1.alloc _) (fun h => absurd (show Value.slice (some _) _ _ = Value.slice none 0 0 from h) (by simp)) _ 1 1 [.slice t.a t.l.length t.c] rfl rfl (by first | exact one_cell _ _ _ | exact far_cell (B := W8.heap.size + 1) hgrow1 HNB.out (show W8.heap.size + 1 ≠ W8.heap.size by omega) | exact far_cell (B := W8.heap.size) hgrow1 HNC.out (show W8.heap.size ≠ W8.heap.size + 1 by omega)) (by simp [Value.oneCell']) (by unfold maxLen; omega) (by omega) (by have := hb1.size; first | omega | (simp; omega)) (k + 1) rfl ?_; intro g2 cap2 w2 hown2 hgrow2 hat2; have hb2 := HGR.out _ _ _ hgrow2 (by first | assumption | exact HAL.out _ _ (by assumption) | exact HAL.out _ _ (HAL.out _ _ (by assumption))) (owns_lt hown1).2.2.2) | (refine step_append_some rfl (.tmp 39) (.tmp 42) 23 rfl W8.heap.size 22 i0 (.slice none 0 0) 1 24 Try.underlying23 hi hz0 hz1 hz2 rfl (by decide) _ (k + 1) _ rfl (by first | exact hown2 | exact hown2.alloc _) (fun h => absurd (show Value.slice (some _) _ _ = Value.slice none 0 0 from h) (by simp)) _ 0 _ (tv (Q.drop k)) rfl (by rw [HDR.out]; rfl) (HNW2.out _ _ (by first | assumption | exact HAL.out _ _ (by assumption) | exact HAL.out _ _ (HAL.out _ _ (by assumption)))) HONE2.out (by unfold maxLen; omega) (by omega) (by have := hb2.size; first | omega | (simp; omega)) (k + 1) (by omega) ?_; intro g3 cap3 w3 hown3 hgrow3 hat3; have hb3 := HGR.out _ _ _ hgrow3 (by first | assumption | exact HAL.out _ _ (by assumption) | exact HAL.out _ _ (HAL.out _ _ (by assumption))) (owns_lt hown2).2.2.2))
                  all_goals (go_wp2; go_roundw; (case rel => exact ⟨k + 1, d + 1, _, _, _, by omega, Lib.hid (by have := HD.out; omega), by go_num, rfl, HFIN.out _ _ _ (by assumption) (by first | assumption | exact And.right (by assumption)), HBE.out _ (by first | assumption | exact And.right (by assumption))⟩); (case measure => simp [intOf]; omega))
        · have hkp : k = placeT (bitsT n (c + 1)) (setsTo n c) (setsTo n c).length := by
            rw [← HPL.out]; have : k = 0 := by omega
            subst this; rfl
          have hk0i : ¬ (0 : Int) < (k : Int) := by omega
          have HKP := Lib.hid hkp
          have hkc : (k : Int) ≤ (c : Int) := by omega
          have hkcap : (k : Int) ≤ (cap : Int) := by omega
          have HLK : Hid ((tv (Q.take k)).length = k * 1) := Lib.hid (by rw [tv_length, List.length_take]; have := HT9.out.len; omega)
          have HNW : Hid (∀ u, Below W9.heap.size W9 u → ∀ j z, (tv (Q.take k))[j]? = some z → u.cell? ((⟨g, 0, none⟩ : Addr).add j) = some z) := Lib.hid fun u hu j z hz => by
            have hj : j < (tv (Q.take k)).length := (List.getElem?_eq_some_iff.1 hz).1
            rw [HLK.out] at hj
            have hjl : j < Q.length := by have := HT9.out.len; omega
            rw [tv_at (by rw [List.length_take]; omega)] at hz
            rw [add_zero g j, HCL.out u hu j hjl, ← hz, List.getElem_take]
          have HONE : Hid (∀ u ∈ tv (Q.take k), u.oneCell' = true) := Lib.hid fun u hu => by unfold tv at hu; obtain ⟨y, _, rfl⟩ := List.mem_map.1 hu; rfl
          have HLK2 : Hid ((tv (Q.drop k)).length = (c - k) * 1) := Lib.hid (by rw [tv_length, List.length_drop]; have := HT9.out.len; omega)
          have HONE2 : Hid (∀ u ∈ tv (Q.drop k), u.oneCell' = true) := Lib.hid fun u hu => by unfold tv at hu; obtain ⟨y, _, rfl⟩ := List.mem_map.1 hu; rfl
          have HFIN : Hid (∀ w3 g3 cap3, w3.ownsRow W9.heap.size 22 1 (.slice (some ⟨g3, 0, none⟩) (c + 1) cap3) (c + 1) (((tv [] ++ tv (Q.take k)) ++ [.slice t.a t.l.length t.c]) ++ tv (Q.drop k)) → Below W9.heap.size W9 w3 → SetTab n w.heap.size w3 (c + 1) (.slice (some ⟨g3, 0, none⟩) (c + 1) cap3) g3 cap3 (Q.take k ++ t :: Q.drop k)) := Lib.hid fun w3 g3 cap3 ho hb => by
            refine set_put HT9.out HTO.out HTI.out HAP.out HTL.out HKP.out rfl ?_ hb (owns_lt ho).2.2.2 HSZ.out
            have e : (((tv [] ++ tv (Q.take k)) ++ [Value.slice t.a t.l.length t.c]) ++ tv (Q.drop k)) = tv (Q.take k ++ t :: Q.drop k) := by simp [tv, Row.val]
            rw [← e]; exact ho
          clear hkp
          by_cases hkl : k < c
          · have HNW2 : Hid (∀ u, Below W9.heap.size W9 u → ∀ j z, (tv (Q.drop k))[j]? = some z → u.cell? ((⟨g, k, none⟩ : Addr).add j) = some z) := Lib.hid fun u hu j z hz => by
              have hj : j < (tv (Q.drop k)).length := (List.getElem?_eq_some_iff.1 hz).1
              rw [HLK2.out] at hj
              have hjl : k + j < Q.length := by have := HT9.out.len; omega
              rw [tv_at (by rw [List.length_drop]; omega)] at hz
              rw [add_at g k j, HCL.out u hu (k + j) hjl, ← hz, List.getElem_drop]
            have hc0n : ¬ cap = 0 := by omega
            have hckn : ¬ cap = k := by omega
            go_wp2_with fail
            go_region_held3 (fun u => Below W9.heap.size W9 u) (first | assumption | exact HAL.out _ _ (by assumption)) (first | (refine step_append_some rfl (.tmp 32) (.tmp 35) 23 rfl W9.heap.size 22 i0 (.slice none 0 0) 1 24 Try.underlying23 hi hz0 hz1 hz2 rfl (by decide) _ 0 (tv []) rfl (by first | exact HM9.out _ _ (by first | assumption | exact HAL.out _ _ (by assumption) | exact HAL.out _ _ (HAL.out _ _ (by assumption))) (by simp) | exact (HM9.out _ _ (by first | assumption | exact HAL.out _ _ (by assumption) | exact HAL.out _ _ (HAL.out _ _ (by assumption))) (by simp)).alloc _) (fun h => absurd (show Value.slice (some _) _ _ = Value.slice none 0 0 from h) (by simp)) ⟨g, 0, none⟩ k cap (tv (Q.take k)) rfl HLK.out (HNW.out _ (by first | assumption | exact HAL.out _ _ (by assumption) | exact HAL.out _ _ (HAL.out _ _ (by assumption)))) HONE.out (by unfold maxLen; omega) (by omega) (by simp; try omega) k (by omega) ?_; intro g1 cap1 w1 hown1 hgrow1 hat1; have hb1 := HGR.out _ _ _ hgrow1 (by first | assumption | exact HAL.out _ _ (by assumption) | exact HAL.out _ _ (HAL.out _ _ (by assumption))) (by first | omega | exact Nat.le_refl _ | exact Nat.le_succ _ | simp)) | (refine step_append_some rfl (.tmp 36) (.tmp 38) 23 rfl W9.heap.size 22 i0 (.slice none 0 0) 1 24 Try.underlying23 hi hz0 hz1 hz2 rfl (by decide) _ k _ rfl (by first | exact hown1 | exact hown1.alloc _) (fun h => absurd (show Value.slice (some _) _ _ = Value.slice none 0 0 from h) (by simp)) _ 1 1 [.slice t.a t.l.length t.c] rfl rfl (by first | exact one_cell _ _ _ | exact far_cell (B := W9.heap.size + 1) hgrow1 HNB.out (show W9.heap.size + 1 ≠ W9.heap.size by omega) | exact far_cell (B := W9.heap.size) hgrow1 HNC.out (show W9.heap.size ≠ W9.heap.size + 1 by omega)) (by simp [Value.oneCell']) (by unfold maxLen; omega) (by omega) (by have := hb1.size; first | omega | (simp; omega)) (k + 1) rfl ?_; intro g2 cap2 w2 hown2 hgrow2 hat2; have hb2 := HGR.out _ _ _ hgrow2 (by first | assumption | exact HAL.out _ _ (by assumption) | exact HAL.out _ _ (HAL.out _ _ (by assumption))) (owns_lt hown1).2.2.2) | (refine step_append_some rfl (.tmp 39) (.tmp 42) 23 rfl W9.heap.size 22 i0 (.slice none 0 0) 1 24 Try.underlying23 hi hz0 hz1 hz2 rfl (by decide) _ (k + 1) _ rfl (by first | exact hown2 | exact hown2.alloc _) (fun h => absurd (show Value.slice (some _) _ _ = Value.slice none 0 0 from h) (by simp)) ⟨g, k, none⟩ (c - k) (cap - k) (tv (Q.drop k)) rfl HLK2.out (HNW2.out _ (by first | assumption | exact HAL.out _ _ (by assumption) | exact HAL.out _ _ (HAL.out _ _ (by assumption)))) HONE2.out (by unfold maxLen; omega) (by omega) (by have := hb2.size; first | omega | (simp; omega)) (c + 1) (by omega) ?_; intro g3 cap3 w3 hown3 hgrow3 hat3; have hb3 := HGR.out _ _ _ hgrow3 (by first | assumption | exact HAL.out _ _ (by assumption) | exact HAL.out _ _ (HAL.out _ _ (by assumption))) (owns_lt hown2).2.2.2))
            all_goals (go_wp2; go_roundw; (case rel => exact ⟨c + 1, d + 1, _, _, _, by omega, Lib.hid (by have := HD.out; omega), by go_num, rfl, HFIN.out _ _ _ (by assumption) (by first | assumption | exact And.right (by assumption)), HBE.out _ (by first | assumption | exact And.right (by assumption))⟩); (case measure => simp [intOf]; omega))
          · have hkle : k = c := by omega
            have HDR : Hid (tv (Q.drop k) = []) := Lib.hid (by rw [List.drop_of_length_le (by have := HT9.out.len; omega)]; rfl)
            have HNW2 : Hid (∀ (ad : Addr) (u : World), Below W9.heap.size W9 u → ∀ j z, (tv (Q.drop k))[j]? = some z → u.cell? (ad.add j) = some z) := Lib.hid fun ad u _ j z hz => by rw [HDR.out] at hz; simp at hz
            subst hkle
            by_cases hc0n : cap = 0
            · have hk0' : k = 0 := by omega
              subst hk0'
              subst hc0n
              go_wp2_with fail
              go_region_held3 (fun u => Below W9.heap.size W9 u) (first | assumption | exact HAL.out _ _ (by assumption)) (first | (refine step_append_some rfl (.tmp 32) (.tmp 35) 23 rfl W9.heap.size 22 i0 (.slice none 0 0) 1 24 Try.underlying23 hi hz0 hz1 hz2 rfl (by decide) _ 0 (tv []) rfl (by first | exact HM9.out _ _ (by first | assumption | exact HAL.out _ _ (by assumption) | exact HAL.out _ _ (HAL.out _ _ (by assumption))) (by simp) | exact (HM9.out _ _ (by first | assumption | exact HAL.out _ _ (by assumption) | exact HAL.out _ _ (HAL.out _ _ (by assumption))) (by simp)).alloc _) (fun h => absurd (show Value.slice (some _) _ _ = Value.slice none 0 0 from h) (by simp)) _ 0 _ (tv (Q.take 0)) rfl HLK.out (HNW.out _ (by first | assumption | exact HAL.out _ _ (by assumption) | exact HAL.out _ _ (HAL.out _ _ (by assumption)))) HONE.out (by unfold maxLen; omega) (by omega) (by simp; try omega) 0 (by omega) ?_; intro g1 cap1 w1 hown1 hgrow1 hat1; have hb1 := HGR.out _ _ _ hgrow1 (by first | assumption | exact HAL.out _ _ (by assumption) | exact HAL.out _ _ (HAL.out _ _ (by assumption))) (by first | omega | exact Nat.le_refl _ | exact Nat.le_succ _ | simp)) | (refine step_append_some rfl (.tmp 36) (.tmp 38) 23 rfl W9.heap.size 22 i0 (.slice none 0 0) 1 24 Try.underlying23 hi hz0 hz1 hz2 rfl (by decide) _ 0 _ rfl (by first | exact hown1 | exact hown1.alloc _) (fun h => absurd (show Value.slice (some _) _ _ = Value.slice none 0 0 from h) (by simp)) _ 1 1 [.slice t.a t.l.length t.c] rfl rfl (by first | exact one_cell _ _ _ | exact far_cell (B := W9.heap.size + 1) hgrow1 HNB.out (show W9.heap.size + 1 ≠ W9.heap.size by omega) | exact far_cell (B := W9.heap.size) hgrow1 HNC.out (show W9.heap.size ≠ W9.heap.size + 1 by omega)) (by simp [Value.oneCell']) (by unfold maxLen; omega) (by omega) (by have := hb1.size; first | omega | (simp; omega)) (0 + 1) rfl ?_; intro g2 cap2 w2 hown2 hgrow2 hat2; have hb2 := HGR.out _ _ _ hgrow2 (by first | assumption | exact HAL.out _ _ (by assumption) | exact HAL.out _ _ (HAL.out _ _ (by assumption))) (owns_lt hown1).2.2.2) | (refine step_append_some rfl (.tmp 39) (.tmp 42) 23 rfl W9.heap.size 22 i0 (.slice none 0 0) 1 24 Try.underlying23 hi hz0 hz1 hz2 rfl (by decide) _ (0 + 1) _ rfl (by first | exact hown2 | exact hown2.alloc _) (fun h => absurd (show Value.slice (some _) _ _ = Value.slice none 0 0 from h) (by simp)) _ 0 _ (tv (Q.drop 0)) rfl HLK2.out (HNW2.out _ _ (by first | assumption | exact HAL.out _ _ (by assumption) | exact HAL.out _ _ (HAL.out _ _ (by assumption)))) HONE2.out (by unfold maxLen; omega) (by omega) (by have := hb2.size; first | omega | (simp; omega)) (0 + 1) (by omega) ?_; intro g3 cap3 w3 hown3 hgrow3 hat3; have hb3 := HGR.out _ _ _ hgrow3 (by first | assumption | exact HAL.out _ _ (by assumption) | exact HAL.out _ _ (HAL.out _ _ (by assumption))) (owns_lt hown2).2.2.2))
              all_goals (go_wp2; go_roundw; (case rel => exact ⟨0 + 1, d + 1, _, _, _, by omega, Lib.hid (by have := HD.out; omega), by go_num, rfl, HFIN.out _ _ _ (by assumption) (by first | assumption | exact And.right (by assumption)), HBE.out _ (by first | assumption | exact And.right (by assumption))⟩); (case measure => simp [intOf]; omega))
            · by_cases hckn : cap = k
              · subst hckn
                go_wp2_with fail
                go_region_held3 (fun u => Below W9.heap.size W9 u) (first | assumption | exact HAL.out _ _ (by assumption)) (first | (refine step_append_some rfl (.tmp 32) (.tmp 35) 23 rfl W9.heap.size 22 i0 (.slice none 0 0) 1 24 Try.underlying23 hi hz0 hz1 hz2 rfl (by decide) _ 0 (tv []) rfl (by first | exact HM9.out _ _ (by first | assumption | exact HAL.out _ _ (by assumption) | exact HAL.out _ _ (HAL.out _ _ (by assumption))) (by simp) | exact (HM9.out _ _ (by first | assumption | exact HAL.out _ _ (by assumption) | exact HAL.out _ _ (HAL.out _ _ (by assumption))) (by simp)).alloc _) (fun h => absurd (show Value.slice (some _) _ _ = Value.slice none 0 0 from h) (by simp)) _ cap _ (tv (Q.take cap)) rfl HLK.out (HNW.out _ (by first | assumption | exact HAL.out _ _ (by assumption) | exact HAL.out _ _ (HAL.out _ _ (by assumption)))) HONE.out (by unfold maxLen; omega) (by omega) (by simp; try omega) cap (by omega) ?_; intro g1 cap1 w1 hown1 hgrow1 hat1; have hb1 := HGR.out _ _ _ hgrow1 (by first | assumption | exact HAL.out _ _ (by assumption) | exact HAL.out _ _ (HAL.out _ _ (by assumption))) (by first | omega | exact Nat.le_refl _ | exact Nat.le_succ _ | simp)) | (refine step_append_some rfl (.tmp 36) (.tmp 38) 23 rfl W9.heap.size 22 i0 (.slice none 0 0) 1 24 Try.underlying23 hi hz0 hz1 hz2 rfl (by decide) _ cap _ rfl (by first | exact hown1 | exact hown1.alloc _) (fun h => absurd (show Value.slice (some _) _ _ = Value.slice none 0 0 from h) (by simp)) _ 1 1 [.slice t.a t.l.length t.c] rfl rfl (by first | exact one_cell _ _ _ | exact far_cell (B := W9.heap.size + 1) hgrow1 HNB.out (show W9.heap.size + 1 ≠ W9.heap.size by omega) | exact far_cell (B := W9.heap.size) hgrow1 HNC.out (show W9.heap.size ≠ W9.heap.size + 1 by omega)) (by simp [Value.oneCell']) (by unfold maxLen; omega) (by omega) (by have := hb1.size; first | omega | (simp; omega)) (cap + 1) rfl ?_; intro g2 cap2 w2 hown2 hgrow2 hat2; have hb2 := HGR.out _ _ _ hgrow2 (by first | assumption | exact HAL.out _ _ (by assumption) | exact HAL.out _ _ (HAL.out _ _ (by assumption))) (owns_lt hown1).2.2.2) | (refine step_append_some rfl (.tmp 39) (.tmp 42) 23 rfl W9.heap.size 22 i0 (.slice none 0 0) 1 24 Try.underlying23 hi hz0 hz1 hz2 rfl (by decide) _ (cap + 1) _ rfl (by first | exact hown2 | exact hown2.alloc _) (fun h => absurd (show Value.slice (some _) _ _ = Value.slice none 0 0 from h) (by simp)) _ 0 _ (tv (Q.drop cap)) rfl (by rw [HDR.out]; rfl) (HNW2.out _ _ (by first | assumption | exact HAL.out _ _ (by assumption) | exact HAL.out _ _ (HAL.out _ _ (by assumption)))) HONE2.out (by unfold maxLen; omega) (by omega) (by have := hb2.size; first | omega | (simp; omega)) (cap + 1) (by omega) ?_; intro g3 cap3 w3 hown3 hgrow3 hat3; have hb3 := HGR.out _ _ _ hgrow3 (by first | assumption | exact HAL.out _ _ (by assumption) | exact HAL.out _ _ (HAL.out _ _ (by assumption))) (owns_lt hown2).2.2.2))
                all_goals (go_wp2; go_roundw; (case rel => exact ⟨cap + 1, d + 1, _, _, _, by omega, Lib.hid (by have := HD.out; omega), by go_num, rfl, HFIN.out _ _ _ (by assumption) (by first | assumption | exact And.right (by assumption)), HBE.out _ (by first | assumption | exact And.right (by assumption))⟩); (case measure => simp [intOf]; omega))
              · skip
                go_wp2_with fail
                go_region_held3 (fun u => Below W9.heap.size W9 u) (first | assumption | exact HAL.out _ _ (by assumption)) (first | (refine step_append_some rfl (.tmp 32) (.tmp 35) 23 rfl W9.heap.size 22 i0 (.slice none 0 0) 1 24 Try.underlying23 hi hz0 hz1 hz2 rfl (by decide) _ 0 (tv []) rfl (by first | exact HM9.out _ _ (by first | assumption | exact HAL.out _ _ (by assumption) | exact HAL.out _ _ (HAL.out _ _ (by assumption))) (by simp) | exact (HM9.out _ _ (by first | assumption | exact HAL.out _ _ (by assumption) | exact HAL.out _ _ (HAL.out _ _ (by assumption))) (by simp)).alloc _) (fun h => absurd (show Value.slice (some _) _ _ = Value.slice none 0 0 from h) (by simp)) _ k _ (tv (Q.take k)) rfl HLK.out (HNW.out _ (by first | assumption | exact HAL.out _ _ (by assumption) | exact HAL.out _ _ (HAL.out _ _ (by assumption)))) HONE.out (by unfold maxLen; omega) (by omega) (by simp; try omega) k (by omega) ?_; intro g1 cap1 w1 hown1 hgrow1 hat1; have hb1 := HGR.out _ _ _ hgrow1 (by first | assumption | exact HAL.out _ _ (by assumption) | exact HAL.out _ _ (HAL.out _ _ (by assumption))) (by first | omega | exact Nat.le_refl _ | exact Nat.le_succ _ | simp)) | (refine step_append_some rfl (.tmp 36) (.tmp 38) 23 rfl W9.heap.size 22 i0 (.slice none 0 0) 1 24 Try.underlying23 hi hz0 hz1 hz2 rfl (by decide) _ k _ rfl (by first | exact hown1 | exact hown1.alloc _) (fun h => absurd (show Value.slice (some _) _ _ = Value.slice none 0 0 from h) (by simp)) _ 1 1 [.slice t.a t.l.length t.c] rfl rfl (by first | exact one_cell _ _ _ | exact far_cell (B := W9.heap.size + 1) hgrow1 HNB.out (show W9.heap.size + 1 ≠ W9.heap.size by omega) | exact far_cell (B := W9.heap.size) hgrow1 HNC.out (show W9.heap.size ≠ W9.heap.size + 1 by omega)) (by simp [Value.oneCell']) (by unfold maxLen; omega) (by omega) (by have := hb1.size; first | omega | (simp; omega)) (k + 1) rfl ?_; intro g2 cap2 w2 hown2 hgrow2 hat2; have hb2 := HGR.out _ _ _ hgrow2 (by first | assumption | exact HAL.out _ _ (by assumption) | exact HAL.out _ _ (HAL.out _ _ (by assumption))) (owns_lt hown1).2.2.2) | (refine step_append_some rfl (.tmp 39) (.tmp 42) 23 rfl W9.heap.size 22 i0 (.slice none 0 0) 1 24 Try.underlying23 hi hz0 hz1 hz2 rfl (by decide) _ (k + 1) _ rfl (by first | exact hown2 | exact hown2.alloc _) (fun h => absurd (show Value.slice (some _) _ _ = Value.slice none 0 0 from h) (by simp)) _ 0 _ (tv (Q.drop k)) rfl (by rw [HDR.out]; rfl) (HNW2.out _ _ (by first | assumption | exact HAL.out _ _ (by assumption) | exact HAL.out _ _ (HAL.out _ _ (by assumption)))) HONE2.out (by unfold maxLen; omega) (by omega) (by have := hb2.size; first | omega | (simp; omega)) (k + 1) (by omega) ?_; intro g3 cap3 w3 hown3 hgrow3 hat3; have hb3 := HGR.out _ _ _ hgrow3 (by first | assumption | exact HAL.out _ _ (by assumption) | exact HAL.out _ _ (HAL.out _ _ (by assumption))) (owns_lt hown2).2.2.2))
                all_goals (go_wp2; go_roundw; (case rel => exact ⟨k + 1, d + 1, _, _, _, by omega, Lib.hid (by have := HD.out; omega), by go_num, rfl, HFIN.out _ _ _ (by assumption) (by first | assumption | exact And.right (by assumption)), HBE.out _ (by first | assumption | exact And.right (by assumption))⟩); (case measure => simp [intOf]; omega))
    · obtain rfl : d = m := by omega
      have HE := Lib.hid (show c = d - 1 by have := HD.out; omega)
      go_wp2
      go_ret
      exact ⟨_, g, cap, Q, rfl, by rw [← HE.out]; exact htab, hnx⟩
end Go.Proofs.Ytemflcegkebloaa
