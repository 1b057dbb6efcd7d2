/- The client that is farthest from those that have been taken: the contracts of both sides. Condition: a valid Field, clients that are there. -/
import Derived.Test.YtlnompeojhaigaaGap
import Derived.Test.YtlnompeojhaigaaOwnAll
import Derived.Test.YtlnompeojhaigaaSwap
import Derived.Test.YtlnompeojhaigaaShelf
namespace Go.Proofs.Ytlnompeojhaigaa
open Go.RowKit Go.Shelf

/-- The least gap to some others. -/
def awayT (F : Fld) (i : Nat) (T : List Nat) : Int := T.foldl (fun b j => min b (gapA F i j)) 198
theorem away_step {F : Fld} {i : Nat} {T : List Nat} {k : Nat} (h : k < T.length) : awayT F i (T.take (k + 1)) = min (awayT F i (T.take k)) (gapA F i T[k]) := by
  unfold awayT; rw [List.take_succ_eq_append_getElem h, List.foldl_append]; rfl
theorem fold_like {F G : Fld} (h : F.Like G) (i : Nat) (T : List Nat) : ∀ b, T.foldl (fun b j => min b (gapA F i j)) b = T.foldl (fun b j => min b (gapA G i j)) b := by
  induction T with
  | nil => intro b; rfl
  | cons a t ih => intro b; simp only [List.foldl_cons]; rw [gapA_like h, ih]
theorem away_like {F G : Fld} (h : F.Like G) (i : Nat) (T : List Nat) : awayT F i T = awayT G i T := fold_like h i T 198
theorem fold_bound {F : Fld} (hg : F.good = true) {i : Nat} (hi : i < F.t.R.length) (T : List Nat) : ∀ b : Int, (∀ j ∈ T, j < F.t.R.length) → 0 ≤ b ∧ b ≤ 198 → 0 ≤ T.foldl (fun b j => min b (gapA F i j)) b ∧ T.foldl (fun b j => min b (gapA F i j)) b ≤ 198 := by
  induction T with
  | nil => intro b _ hb; exact hb
  | cons a t ih =>
    intro b hT hb
    have h1 := gapA_bound hg hi (hT a (List.mem_cons_self ..))
    have h2 : 0 ≤ min b (gapA F i a) ∧ min b (gapA F i a) ≤ 198 := by omega
    exact ih _ (fun j hj => hT j (List.mem_cons_of_mem _ hj)) h2
theorem away_bound {F : Fld} (hg : F.good = true) {i : Nat} (hi : i < F.t.R.length) {T : List Nat} (hT : ∀ j ∈ T, j < F.t.R.length) : 0 ≤ awayT F i T ∧ awayT F i T ≤ 198 := fold_bound hg hi T 198 hT (by omega)

/-- The farthest one of the first k clients that have not been taken. -/
def farN (F : Fld) (T : List Nat) : Nat → Option Nat
  | 0 => none
  | k + 1 => if T.contains k then farN F T k else match farN F T k with
    | none => some k
    | some b => if awayT F b T < awayT F k T then some k else some b
theorem farN_succ (F : Fld) (T : List Nat) (k : Nat) : farN F T (k + 1) = if T.contains k then farN F T k else match farN F T k with
    | none => some k
    | some b => if awayT F b T < awayT F k T then some k else some b := rfl
def optI : Option Nat → Int
  | none => -1
  | some m => m
def optV (F : Fld) (T : List Nat) : Option Nat → Int
  | none => -1
  | some m => awayT F m T
theorem farN_lt (F : Fld) (T : List Nat) : ∀ k b, farN F T k = some b → b < k ∧ b ∉ T
  | 0, b, h => by cases h
  | k + 1, b, h => by
    have ih := farN_lt F T k
    unfold farN at h
    split at h
    · have := ih b h; exact ⟨by omega, this.2⟩
    · rename_i hc
      have hk : k ∉ T := fun e => hc (List.contains_iff_mem.2 e)
      split at h
      · cases h; exact ⟨by omega, hk⟩
      · rename_i b' hb
        split at h
        · cases h; exact ⟨by omega, hk⟩
        · cases h; have := ih b hb; exact ⟨by omega, this.2⟩
theorem farN_none (F : Fld) (T : List Nat) : ∀ k, farN F T k = none → ∀ j, j < k → j ∈ T
  | 0, _, j, h => absurd h (Nat.not_lt_zero _)
  | k + 1, h, j, hj => by
    unfold farN at h
    split at h
    · rename_i hc
      by_cases e : j = k
      · subst e; exact List.contains_iff_mem.1 hc
      · exact farN_none F T k h j (by omega)
    · split at h
      · cases h
      · split at h <;> cases h
theorem farN_like {F G : Fld} (h : F.Like G) (T : List Nat) : ∀ k, farN F T k = farN G T k
  | 0 => rfl
  | k + 1 => by
    unfold farN
    rw [farN_like h T k]
    split
    · rfl
    · split
      · rfl
      · rw [away_like h, away_like h]
theorem pigeon : ∀ (n : Nat) (T : List Nat), (∀ j, j < n → j ∈ T) → n ≤ T.length
  | 0, _, _ => Nat.zero_le _
  | n + 1, T, h => by
    have hn := h n (by omega)
    have := pigeon n (T.erase n) (fun j hj => (List.mem_erase_of_ne (by omega)).2 (h j (by omega)))
    rw [List.length_erase_of_mem hn] at this
    have := List.length_pos_of_mem hn
    omega
/-- Those that are taken, one after the other. -/
def takeF (F : Fld) : Nat → List Nat
  | 0 => []
  | m + 1 => takeF F m ++ [(farN F (takeF F m) F.t.R.length).getD 0]
theorem takeF_len (F : Fld) : ∀ m, (takeF F m).length = m
  | 0 => rfl
  | m + 1 => by unfold takeF; rw [List.length_append, takeF_len F m]; rfl
theorem takeF_some (F : Fld) {m : Nat} (hm : m < F.t.R.length) : ∃ b, farN F (takeF F m) F.t.R.length = some b ∧ b < F.t.R.length := by
  cases h : farN F (takeF F m) F.t.R.length with
  | some b => exact ⟨b, rfl, (farN_lt F _ _ b h).1⟩
  | none =>
    have := pigeon _ _ (farN_none F _ _ h)
    rw [takeF_len] at this; omega
theorem takeF_lt (F : Fld) : ∀ m, m ≤ F.t.R.length → ∀ j ∈ takeF F m, j < F.t.R.length
  | 0, _ => by simp [takeF]
  | m + 1, hm => fun j hj => by
    unfold takeF at hj
    rcases List.mem_append.1 hj with h | h
    · exact takeF_lt F m (by omega) j h
    · obtain ⟨b, hb, hlt⟩ := takeF_some F (m := m) (by omega)
      rw [hb] at h; simp at h; omega
theorem takeF_like {F G : Fld} (h : F.Like G) : ∀ m, takeF F m = takeF G m
  | 0 => rfl
  | m + 1 => by
    have hr : F.t.R.length = G.t.R.length := by have := congrArg List.length h.2; rw [con_length, con_length] at this; exact this
    unfold takeF; rw [takeF_like h m, hr, farN_like h]
theorem farN_first (F : Fld) : ∀ k, farN F [] (k + 1) = some 0
  | 0 => rfl
  | k + 1 => by
    have ih := farN_first F k
    rw [farN, ih]
    simp [awayT]
theorem takeF_one (F : Fld) (h : 0 < F.t.R.length) : takeF F 1 = [0] := by
  obtain ⟨n, hn⟩ : ∃ n, F.t.R.length = n + 1 := ⟨F.t.R.length - 1, by omega⟩
  show takeF F 0 ++ [(farN F (takeF F 0) F.t.R.length).getD 0] = [0]
  rw [hn]
  show [] ++ [(farN F [] (n + 1)).getD 0] = [0]
  rw [farN_first]; rfl
theorem has_up (T : List Nat) (k : Nat) : hasI (up T) (k : Int) = T.contains k := by
  unfold hasI up
  rw [Bool.eq_iff_iff, List.contains_iff_mem, List.contains_iff_mem, List.mem_map]
  constructor
  · rintro ⟨m, hm, e⟩
    have : m = k := by omega
    subst this; exact hm
  · intro h; exact ⟨k, h, rfl⟩

theorem containsRow_any (s : Row) (x : Int) (w : World) (hs : s.At w) (hsm : s.l.length ≤ 1048576) :
    Calls Try.prog 101 #[.slice s.a s.l.length s.c, .int .i64 x] w fun e w' => e = .returned (.bool (hasI s.l x)) ∧ w' = w := by
  obtain ⟨a, c, l⟩ := s
  obtain ⟨h1, h2, h3⟩ := hs
  simp only at h1 h2 h3 hsm ⊢
  by_cases h0 : l = []
  · subst h0
    exact Try.slices_Contains_int_empty a c x w
  rcases h3 with h3 | ⟨b, o, rfl, hb, hcell⟩
  · exact absurd (iv_nil h3) h0
  have := Try.slices_Contains_int b o l.length c l x w (Nat.le_refl _) (by omega) (fun j hj => by rw [hcell j _ (iv_at hj), List.getD_eq_getElem?_getD, List.getElem?_eq_getElem hj]; rfl)
  rw [List.take_length] at this; exact this

/-- The cells of a list of clients. -/
theorem cli_cells {w u : World} {s : Row} {T : List Nat} (hs : s.At w) (hsl : s.l = up T) (hb : Below w.heap.size w u) {k : Nat} (hk : k < T.length) : ∃ b o, s.a = some ⟨b, o, none⟩ ∧ u.cell? ⟨b, o + k, none⟩ = some (.int .i64 (T[k] : Int)) ∧ b < w.heap.size := by
  rcases hs.2.2 with h3 | ⟨b, o, ha, hbb, hcell⟩
  · have h3' := congrArg List.length (iv_nil h3); rw [List.length_nil, hsl, up_length] at h3'; omega
  refine ⟨b, o, ha, (hb.cell (p := ⟨b, o + k, none⟩) hbb).trans ?_, hbb⟩
  have h4 : k < (up T).length := by rw [up_length]; exact hk
  have h5 := hcell k (.int .i64 ((up T)[k])) (by rw [hsl]; exact iv_at h4)
  rw [up_at hk] at h5; exact h5

set_option maxHeartbeats 2000000 in
theorem leastGap_any (F : Fld) (i : Nat) (s : Row) (T : List Nat) (w : World) (hF : F.At w) (hs : s.At w) (hg : F.good = true) (hi : i < F.t.R.length) (hsl : s.l = up T) (hT : ∀ j ∈ T, j < F.t.R.length) (hsm : s.l.length ≤ 1048576) :
    Calls Try.prog 100 #[F.val, .int .i64 i, .slice s.a s.l.length s.c] w fun e w' => e = .returned (.int .i64 (awayT F i T)) ∧ Below w.heap.size w w' := by
  obtain ⟨wA, hA, hbA, bx, hFA, _⟩ := laid_fld F w 29 hF
  have HSA := Lib.hid (hs.on hbA)
  have HFA := Lib.hid hFA
  have HBX := Lib.hid bx
  have HA := Lib.hid hA
  have HG := Lib.hid hg
  have HSL := Lib.hid hsl
  have HTT := Lib.hid hT
  obtain ⟨n, hn⟩ : ∃ n, n = s.l.length := ⟨_, rfl⟩
  have HTN : Hid (T.length = n) := Lib.hid (by rw [hn, hsl, up_length])
  have hni : (n : Int) ≤ 1048576 := by omega
  clear hF hs hA bx hFA hg hsl hT
  show Calls _ _ #[.agg #[F.o.val, F.t.val], _, _] w _
  rw [← hn]
  clear hn
  go_enter Try.func100, Try.ntmps100
  go_wp2
  rw [show w.alloc (Obj.cells #[F.o.val, F.t.val] 29) = wA from HA.out.symm]
  go_loopw [7, 9, 12] (fun gv _ iv wr => ∃ k : Nat, k ≤ n ∧ iv = .int .i64 k ∧ gv = .int .i64 (awayT F i (T.take k)) ∧ Below wA.heap.size wA wr) (fun _ _ iv _ => n - (intOf iv).toNat)
  case atStart => exact ⟨0, Nat.zero_le _, rfl, rfl, Below.refl _ _⟩
  case round =>
    obtain ⟨k, hk, rfl, rfl, hnx⟩ := hrel
    have HNX := Lib.hid hnx
    by_cases hlt : k < n
    · have hlti : (k : Int) < (n : Int) := by omega
      have hkT : k < T.length := by rw [HTN.out]; exact hlt
      obtain ⟨b, o, ha, hcl, _⟩ := cli_cells HSA.out HSL.out hnx hkT
      obtain ⟨j, hj⟩ : ∃ j, j = T[k] := ⟨_, rfl⟩
      rw [← hj] at hcl
      have hjm : j < F.t.R.length := HTT.out j (by rw [hj]; exact List.getElem_mem _)
      obtain ⟨x, hx⟩ : ∃ x, x = gapA F i j := ⟨_, rfl⟩
      obtain ⟨y, hy⟩ : ∃ y, y = awayT F i (T.take k) := ⟨_, rfl⟩
      have CG := Lib.hid (by have := gapBetween_any F i j wr (HFA.out.on hnx) HG.out hi hjm; rw [← hx] at this; exact this)
      have HST : Hid (awayT F i (T.take (k + 1)) = min y x) := Lib.hid (by rw [away_step hkT, ← hj, hx, hy])
      have y0 := (HBX.out.on hnx).c0
      have y1 := (HBX.out.on hnx).c1
      rw [← hy, ha]
      clear hj hx hy ha hjm hkT
      go_wp2_with fail
      refine (show Calls _ _ _ _ _ from CG.out).mono ?_
      rintro e W8 ⟨rfl, hb8⟩
      have HB8 := Lib.hid (HNX.out.trans (hb8.mono HNX.out.size))
      clear hb8 y0 y1 hcl
      go_wp2
      go_roundw
      case rel => exact ⟨k + 1, by omega, by go_num, by rw [HST.out]; first | done | rfl | (congr 1; omega), HB8.out⟩
      case measure => simp [intOf]; omega
    · obtain rfl : k = n := by omega
      have HE : Hid (T.take k = T) := Lib.hid (List.take_of_length_le (by rw [HTN.out]; exact Nat.le_refl _))
      go_wp2
      go_ret
      exact ⟨by rw [HE.out]; rfl, hbA.trans (hnx.mono hbA.size)⟩

set_option maxHeartbeats 2000000 in
theorem l5Away_any (F : Fld) (i : Nat) (s : Row) (T : List Nat) (w : World) (hF : F.At w) (hs : s.At w) (hg : F.good = true) (hi : i < F.t.R.length) (hsl : s.l = up T) (hT : ∀ j ∈ T, j < F.t.R.length) (h0 : 0 < T.length) (hsm : s.l.length ≤ 1048576) :
    Calls Try.prog 99 #[F.val, .int .i64 i, .slice s.a s.l.length s.c] w fun e w' => e = .returned (.int .i64 (awayT F i T)) ∧ Below w.heap.size w w' := by
  obtain ⟨wA, hA, hbA, bx, hFA, _⟩ := laid_fld F w 29 hF
  have HSA := Lib.hid (hs.on hbA)
  have HFA := Lib.hid hFA
  have HBX := Lib.hid bx
  have HA := Lib.hid hA
  have HG := Lib.hid hg
  have HSL := Lib.hid hsl
  have HTT := Lib.hid hT
  obtain ⟨n, hn⟩ : ∃ n, n = s.l.length := ⟨_, rfl⟩
  have HTN : Hid (T.length = n) := Lib.hid (by rw [hn, hsl, up_length])
  have hni : (n : Int) ≤ 1048576 := by omega
  have hn0 : 0 < n := by have := HTN.out; omega
  have hn0i : (0 : Int) < (n : Int) := by omega
  have CL := Lib.hid fun x y W => l1Least_any x y W
  obtain ⟨b, o, ha, hcl, hblt⟩ := cli_cells HSA.out HSL.out (Below.refl _ _) h0
  obtain ⟨j, hj⟩ : ∃ j, j = T[0] := ⟨_, rfl⟩
  rw [← hj, Nat.add_zero] at hcl
  have hjm : j < F.t.R.length := hT j (by rw [hj]; exact List.getElem_mem _)
  obtain ⟨x, hx⟩ : ∃ x, x = gapA F i j := ⟨_, rfl⟩
  have hxb := gapA_bound hg hi hjm
  have H1 : Hid (awayT F i (T.take 1) = x) := Lib.hid (by
    have := away_step (F := F) (i := i) h0
    rw [Nat.zero_add] at this
    rw [this, ← hj, ← hx]
    show min (198 : Int) x = x
    omega)
  have D0 := Lib.hid (fun u (hu : Below wA.heap.size wA u) => by have := l5Gap_any F i j u (HFA.out.on hu) HG.out hi hjm; rw [← hx] at this; exact this : ∀ u, Below wA.heap.size wA u → Calls Try.prog 63 #[.agg #[F.o.val, F.t.val], .int .i64 i, .int .i64 j] u fun e w' => e = .returned (.int .i64 x) ∧ Below u.heap.size u w')
  have HS : Hid (∀ u, Below wA.heap.size wA u → ((u.cell? ⟨w.heap.size, 0, none⟩ = some F.o.val ∧ u.cell? ⟨w.heap.size, 1, none⟩ = some F.t.val ∧ u.cell? ⟨b, o, none⟩ = some (.int .i64 (j : Int))) ∧ Below wA.heap.size wA u)) := Lib.hid fun u hu => ⟨⟨(HBX.out.on hu).c0, (HBX.out.on hu).c1, (hu.cell (p := ⟨b, o, none⟩) hblt).trans hcl⟩, hu⟩
  have s0 := HS.out wA.drew (Below.refl _ _).drew
  have HAA := Lib.hid ha
  clear hF hs hA bx hFA hg hsl hT hj hx hjm hxb ha hcl h0
  show Calls _ _ #[.agg #[F.o.val, F.t.val], _, _] w _
  rw [← hn, HAA.out]
  clear hn
  go_enter Try.func99, Try.ntmps99
  go_wp2_with fail
  rw [show w.alloc (Obj.cells #[F.o.val, F.t.val] 29) = wA from HA.out.symm]
  go_region_held3 (fun u => ((u.cell? ⟨w.heap.size, 0, none⟩ = some F.o.val ∧ u.cell? ⟨w.heap.size, 1, none⟩ = some F.t.val ∧ u.cell? ⟨b, o, none⟩ = some (.int .i64 (j : Int))) ∧ Below wA.heap.size wA u)) (first | exact s0 | exact keep_reg HS.out (by first | assumption | exact And.right (by assumption)) hb1) ((go_at_call 63; refine (show Calls _ _ _ _ _ from D0.out _ (by first | assumption | exact And.right (by assumption))).mono ?_; rintro e u1 ⟨rfl, hb1⟩))
  refine at_exit (W := wA) (by first | assumption | exact And.right (by assumption)) ?_
  intro W1 hW1
  clear s0
  go_wp2
  go_loopw [7, 8] (fun gv iv wr => ∃ k : Nat, 1 ≤ k ∧ k ≤ n ∧ iv = .int .i64 k ∧ gv = .int .i64 (awayT F i (T.take k)) ∧ Below wA.heap.size wA wr) (fun _ iv _ => n - (intOf iv).toNat)
  case atStart => exact ⟨1, Nat.le_refl _, hn0, rfl, by rw [H1.out], hW1⟩
  case round =>
    obtain ⟨k, hk1, hk, rfl, rfl, hnx⟩ := hrel
    have HNX := Lib.hid hnx
    by_cases hlt : k < n
    · have hlti : (k : Int) < (n : Int) := by omega
      have hkT : k < T.length := by rw [HTN.out]; exact hlt
      obtain ⟨b', o', ha', hcl, _⟩ := cli_cells HSA.out HSL.out hnx hkT
      rw [HAA.out] at ha'
      simp only [Option.some.injEq, Addr.mk.injEq, and_true] at ha'
      obtain ⟨rfl, rfl⟩ := ha'
      obtain ⟨j, hj⟩ : ∃ j, j = T[k] := ⟨_, rfl⟩
      rw [← hj] at hcl
      have hjm : j < F.t.R.length := HTT.out j (by rw [hj]; exact List.getElem_mem _)
      obtain ⟨x, hx⟩ : ∃ x, x = gapA F i j := ⟨_, rfl⟩
      obtain ⟨y, hy⟩ : ∃ y, y = awayT F i (T.take k) := ⟨_, rfl⟩
      obtain ⟨m, hm⟩ : ∃ m, m = min y x := ⟨_, rfl⟩
      have D1 := Lib.hid (fun u (hu : Below wr.heap.size wr u) => by have := l5Gap_any F i j u ((HFA.out.on HNX.out).on hu) HG.out hi hjm; rw [← hx] at this; exact this : ∀ u, Below wr.heap.size wr u → Calls Try.prog 63 #[.agg #[F.o.val, F.t.val], .int .i64 i, .int .i64 j] u fun e w' => e = .returned (.int .i64 x) ∧ Below u.heap.size u w')
      have D2 := Lib.hid (fun u => (CL.out y x u).mono (fun e w' h => by rw [← hm] at h; exact ⟨h.1, by rw [h.2]; exact Below.refl _ _⟩) : ∀ u, Calls Try.prog 96 #[.int .i64 y, .int .i64 x] u fun e w' => e = .returned (.int .i64 m) ∧ Below u.heap.size u w')
      have HST : Hid (awayT F i (T.take (k + 1)) = m) := Lib.hid (by rw [away_step hkT, ← hj, ← hx, ← hy, hm])
      have hblt2 := World.block_lt_of_cell? wr _ hcl
      have HS : Hid (∀ u, Below wr.heap.size wr u → ((u.cell? ⟨w.heap.size, 0, none⟩ = some F.o.val ∧ u.cell? ⟨w.heap.size, 1, none⟩ = some F.t.val ∧ u.cell? ⟨b, o + k, none⟩ = some (.int .i64 (j : Int))) ∧ Below wr.heap.size wr u)) := Lib.hid fun u hu => ⟨⟨((HBX.out.on HNX.out).on hu).c0, ((HBX.out.on HNX.out).on hu).c1, (hu.cell (p := ⟨b, o + k, none⟩) hblt2).trans hcl⟩, hu⟩
      have s0 := HS.out wr.drew (Below.refl _ _).drew
      rw [← hy]
      clear hj hx hy hm hjm hkT hcl
      go_wp2_with fail
      go_region_held3 (fun u => ((u.cell? ⟨w.heap.size, 0, none⟩ = some F.o.val ∧ u.cell? ⟨w.heap.size, 1, none⟩ = some F.t.val ∧ u.cell? ⟨b, o + k, none⟩ = some (.int .i64 (j : Int))) ∧ Below wr.heap.size wr u)) (first | exact s0 | exact keep_reg HS.out (by first | assumption | exact And.right (by assumption)) hb1) (first | (go_at_call 63; refine (show Calls _ _ _ _ _ from D1.out _ (by first | assumption | exact And.right (by assumption))).mono ?_; rintro e u1 ⟨rfl, hb1⟩) | (go_at_call 96; refine (show Calls _ _ _ _ _ from D2.out _).mono ?_; rintro e u2 ⟨rfl, hb1⟩))
      refine at_exit (W := wr) (by first | assumption | exact And.right (by assumption)) ?_
      intro W8 hb8
      have HB8 := Lib.hid (HNX.out.trans (hb8.mono HNX.out.size))
      clear s0 hb8
      go_wp2
      go_roundw
      case rel => exact ⟨k + 1, by omega, by omega, by go_num, by rw [HST.out], HB8.out⟩
      case measure => simp [intOf]; omega
    · obtain rfl : k = n := by omega
      have HE : Hid (T.take k = T) := Lib.hid (List.take_of_length_le (by rw [HTN.out]; exact Nat.le_refl _))
      go_wp2
      go_ret
      exact ⟨by rw [HE.out]; rfl, hbA.trans (hnx.mono hbA.size)⟩

set_option maxHeartbeats 2000000 in
theorem farthestFrom_any (F : Fld) (s : Row) (T : List Nat) (w : World) (hF : F.At w) (hs : s.At w) (hg : F.good = true) (hsl : s.l = up T) (hT : ∀ j ∈ T, j < F.t.R.length) (hsm : s.l.length ≤ 1048576) :
    Calls Try.prog 73 #[F.val, .slice s.a s.l.length s.c] w fun e w' => e = .returned (.int .i64 (optI (farN F T F.t.R.length))) ∧ Below w.heap.size w w' := by
  obtain ⟨wA, hA, hbA, bx, hFA, _⟩ := laid_fld F w 29 hF
  have HSA := Lib.hid (hs.on hbA)
  have HFA := Lib.hid hFA
  have HBX := Lib.hid bx
  have HA := Lib.hid hA
  have HG := Lib.hid hg
  have HSL := Lib.hid hsl
  have HTT := Lib.hid hT
  have hsz := good_sizes hg
  obtain ⟨n, hn⟩ : ∃ n, n = F.t.R.length := ⟨_, rfl⟩
  have HN := Lib.hid hn
  have hni : (n : Int) ≤ 7 := by omega
  have hx1 : wA.cell? ⟨w.heap.size, 1, none⟩ = some (.slice F.t.a n F.t.c) := by rw [hn]; exact bx.c1
  rw [HA.out] at hx1
  rw [← hn]
  clear hF hs hA bx hFA hg hsl hT hsz hn
  show Calls _ _ #[.agg #[F.o.val, F.t.val], _] w _
  go_enter Try.func73, Try.ntmps73
  go_wp2
  rw [show w.alloc (Obj.cells #[F.o.val, F.t.val] 29) = wA from HA.out.symm]
  clear hx1
  go_loopw [5, 6, 7, 8, 12] (fun fv gv _ _ iv wr => ∃ k : Nat, k ≤ n ∧ iv = .int .i64 k ∧ fv = .int .i64 (optI (farN F T k)) ∧ gv = .int .i64 (optV F T (farN F T k)) ∧ Below wA.heap.size wA wr) (fun _ _ _ _ iv _ => n - (intOf iv).toNat)
  case atStart => exact ⟨0, Nat.zero_le _, rfl, rfl, rfl, Below.refl _ _⟩
  case round =>
    obtain ⟨k, hk, rfl, rfl, rfl, hnx⟩ := hrel
    have HNX := Lib.hid hnx
    by_cases hlt : k < n
    · have hlti : (k : Int) < (n : Int) := by omega
      have hkR : k < F.t.R.length := by rw [← HN.out]; exact hlt
      obtain ⟨x, hx⟩ : ∃ x, x = awayT F k T := ⟨_, rfl⟩
      have hxb := away_bound HG.out hkR HTT.out
      rw [← hx] at hxb
      have CG := Lib.hid (by have := leastGap_any F k s T wr (HFA.out.on hnx) (HSA.out.on hnx) HG.out hkR HSL.out HTT.out hsm; rw [← hx] at this; exact this)
      obtain ⟨h, hh⟩ : ∃ h, h = T.contains k := ⟨_, rfl⟩
      have CH := Lib.hid (fun u (hu : Below wA.heap.size wA u) => by have := containsRow_any s (k : Int) u (HSA.out.on hu) hsm; rw [HSL.out, has_up, ← hh, ← HSL.out] at this; exact this : ∀ u, Below wA.heap.size wA u → Calls Try.prog 101 #[.slice s.a s.l.length s.c, .int .i64 k] u fun e w' => e = .returned (.bool h) ∧ w' = u)
      obtain ⟨fb, hfb⟩ : ∃ fb, fb = optI (farN F T k) := ⟨_, rfl⟩
      obtain ⟨gb, hgb⟩ : ∃ gb, gb = optV F T (farN F T k) := ⟨_, rfl⟩
      have HST1 : Hid (gb < x → h = false → farN F T (k + 1) = some k ∧ x = awayT F k T) := Lib.hid fun h1 h2 => by
        refine ⟨?_, hx⟩
        rw [farN_succ]
        rw [← hh, h2]
        cases hc : farN F T k with
        | none => simp
        | some b =>
          rw [hc] at hgb
          simp only [optV] at hgb
          simp only [Bool.false_eq_true, if_false]
          rw [if_pos (by omega)]
      have HST2 : Hid ((¬ gb < x ∨ h = true) → farN F T (k + 1) = farN F T k) := Lib.hid fun h1 => by
        rw [farN_succ]
        rcases h1 with h1 | h1
        · cases hc : farN F T k with
          | none => rw [hc] at hgb; simp only [optV] at hgb; omega
          | some b =>
            rw [hc] at hgb
            simp only [optV] at hgb
            split
            · rfl
            · simp only; rw [if_neg (by omega)]
        · rw [← hh, h1]; simp
      have HFB := Lib.hid hfb
      have HGB := Lib.hid hgb
      have y0 := (HBX.out.on hnx).c0
      have y1 := (HBX.out.on hnx).c1
      rw [← hfb, ← hgb]
      clear hx hh hfb hgb hkR hnx
      go_wp2_with fail
      refine (show Calls _ _ _ _ _ from CG.out).mono ?_
      rintro e W8 ⟨rfl, hb8⟩
      have HB8 := Lib.hid (HNX.out.trans (hb8.mono HNX.out.size))
      clear hb8 y0 y1
      by_cases hgx : gb < x
      · have CH8 := Lib.hid (CH.out W8 HB8.out)
        go_wp2_with fail
        refine (show Calls _ _ _ _ _ from CH8.out).mono ?_
        rintro e W ⟨rfl, rfl⟩
        cases h with
        | true =>
          have HS1 := Lib.hid (HST2.out (.inr rfl))
          go_wp2
          go_roundw
          case rel => exact ⟨k + 1, by omega, by go_num, by rw [HS1.out, HFB.out], by rw [HS1.out, HGB.out], HB8.out⟩
          case measure => simp [intOf]; omega
        | false =>
          have HS1 := Lib.hid (HST1.out hgx rfl)
          go_wp2
          go_roundw
          case rel => exact ⟨k + 1, by omega, by go_num, by rw [HS1.out.1]; rfl, by rw [HS1.out.1, HS1.out.2]; rfl, HB8.out⟩
          case measure => simp [intOf]; omega
      · have HS1 := Lib.hid (HST2.out (.inl (by omega)))
        go_wp2
        go_roundw
        case rel => exact ⟨k + 1, by omega, by go_num, by rw [HS1.out, HFB.out], by rw [HS1.out, HGB.out], HB8.out⟩
        case measure => simp [intOf]; omega
    · obtain rfl : k = n := by omega
      go_wp2
      go_ret
      exact ⟨rfl, hbA.trans (hnx.mono hbA.size)⟩
end Go.Proofs.Ytlnompeojhaigaa
