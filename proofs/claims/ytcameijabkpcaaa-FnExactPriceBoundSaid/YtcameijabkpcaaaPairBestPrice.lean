/- Both sides of BestPrice answer alike. Condition: the Field reads as such. -/
import Derived.Test.YtcameijabkpcaaaPriced
namespace Go.Proofs.Ytcameijabkpcaaa
open Go.RowKit

def PPrice (n m : Int) (b : Bool) (W : World) (e : Ending) (w' : World) : Prop := e = .returned (.tuple #[.int .i64 n, .int .i64 m, .bool b]) ∧ Below W.heap.size W w'
/-- The first price below m with the greatest value. -/
def bpT (f : Int → Int) : Nat → Int
  | 0 => 0
  | m + 1 => if f (bpT f m) < f (m : Int) then (m : Int) else bpT f m
theorem bpT_bound (f : Int → Int) : ∀ m : Nat, 0 ≤ bpT f m ∧ bpT f m ≤ m
  | 0 => by simp [bpT]
  | m + 1 => by
    have := bpT_bound f m
    unfold bpT
    split <;> omega
theorem bpT_one (f : Int → Int) : bpT f 1 = 0 := by simp [bpT]
theorem bpT_up {f : Int → Int} {m : Nat} (h : f (bpT f m) < f (m : Int)) : bpT f (m + 1) = m := by simp only [bpT]; rw [if_pos h]
theorem bpT_stay {f : Int → Int} {m : Nat} (h : ¬ f (bpT f m) < f (m : Int)) : bpT f (m + 1) = bpT f m := by simp only [bpT]; rw [if_neg h]
theorem bpT_le (f : Int → Int) : ∀ m : Nat, m ≤ 1000 → bpT f m ≤ 999
  | 0, _ => by simp [bpT]
  | m + 1, h => by
    have := bpT_le f m (by omega)
    unfold bpT
    split <;> omega
theorem valsT_bound {F : Fld} (hg : F.good = true) (j : Nat) : ∀ x ∈ valsT F j, 0 ≤ x ∧ x ≤ 693 := fun x hx => by
  obtain ⟨i, _, rfl⟩ := List.mem_map.1 hx
  exact servT_bounds hg _
/-- The price bound of a Field. -/
def priceF (F : Fld) (k : Int) (p : Int) : Int := boundP (valsT F F.o.l.length) k p
theorem priceF_like {F G : Fld} (h : G.Like F) : priceF G = priceF F := by funext k p; unfold priceF; rw [valsT_like h, h.1]
/-- What BestPrice answers. -/
def Prices (F : Fld) (k p v : Int) (b : Bool) : Prop :=
  (kB F k = false ∧ p = 0 ∧ v = 0 ∧ b = false) ∨ (kB F k = true ∧ p = bpT (priceF F k) 1000 ∧ v = priceF F k (bpT (priceF F k) 1000) ∧ b = true)

set_option maxRecDepth 32000 in
set_option maxHeartbeats 2000000 in
theorem specPrice_any (F : Fld) (k : Int) (w : World) (hF : F.At w) (p v : Int) (b : Bool) (hv : Prices F k p v b) :
    Calls Try.prog 27 #[F.val, .int .i64 k] w (PPrice p v b w) := by
  obtain ⟨wA, hA, hbA, bx, hFA, hszA⟩ := laid_fld F w 29 hF
  have HFA := Lib.hid hFA
  have HBX := Lib.hid bx
  have HA := Lib.hid hA
  have CT := Lib.hid (l4K_any F k wA hFA)
  have x0 := bx.c0
  have x1 := bx.c1
  rw [hA] at x0 x1
  clear hF hA hFA bx
  show Calls _ _ #[.agg #[F.o.val, F.t.val], _] w fun e w' => e = .returned (.tuple #[.int .i64 p, .int .i64 v, .bool b]) ∧ Below w.heap.size w w'
  rcases hv with ⟨h2, rfl, rfl, rfl⟩ | ⟨h2, hp, hv, rfl⟩
  · rw [h2] at CT
    clear h2
    go_enter Try.func27, Try.ntmps27
    go_wp2_with fail
    rw [show w.alloc (Obj.cells #[F.o.val, F.t.val] 29) = wA from HA.out.symm]
    refine (show Calls _ _ _ _ _ from CT.out).mono ?_
    rintro e W1 ⟨rfl, hb1⟩
    clear x0 x1
    go_wp2
    go_ret3
    exact ⟨rfl, hbA.trans (hb1.mono hbA.size)⟩
  · rw [h2] at CT
    obtain ⟨hg, m, rfl, h1, hm⟩ := kB_nat h2
    have hsz := good_sizes hg
    obtain ⟨f, hf⟩ : ∃ f, f = priceF F (m : Int) := ⟨_, rfl⟩
    rw [← hf] at hp hv
    have CV := Lib.hid (fun W1 (hb1 : Below wA.heap.size wA W1) => l4Values_any F W1 (HFA.out.on hb1) hg)
    have CP := Lib.hid (fun (t : Row) (u : World) (q : Int) (ht : t.At u) (htl : t.l = valsT F F.o.l.length) (h0 : 0 ≤ q) (h9 : q ≤ 999) => by
      have := l4Priced_any t m q u ht (by rw [htl, valsT_len]; omega) (by rw [htl, valsT_len]; omega) (by rw [htl]; exact valsT_bound hg _) (by omega) h0 h9
      rw [show boundP t.l (m : Int) q = f q by rw [htl, hf]; rfl] at this; exact this : ∀ (t : Row) (u : World) (q : Int), t.At u → t.l = valsT F F.o.l.length → 0 ≤ q → q ≤ 999 → Calls Try.prog 54 #[.slice t.a t.l.length t.c, .int .i64 m, .int .i64 q] u fun e w' => e = .returned (.int .i64 (f q)) ∧ w' = u)
    have HP := Lib.hid hp
    have HV := Lib.hid hv
    clear h2 hg hsz hf hp hv
    go_enter Try.func27, Try.ntmps27
    go_wp2_with fail
    rw [show w.alloc (Obj.cells #[F.o.val, F.t.val] 29) = wA from HA.out.symm]
    refine (show Calls _ _ _ _ _ from CT.out).mono ?_
    rintro e W1 ⟨rfl, hb1⟩
    clear x0 x1
    have y0 := (HBX.out.on hb1).c0
    have y1 := (HBX.out.on hb1).c1
    have CV1 := Lib.hid (CV.out W1 hb1)
    have HB1 := Lib.hid (hbA.trans (hb1.mono hbA.size))
    clear hb1
    go_wp2_with fail
    refine (show Calls _ _ _ _ _ from CV1.out).mono ?_
    rintro e W2 ⟨t, rfl, htl, -, hti, hb2⟩
    have HB2 := Lib.hid (HB1.out.trans (hb2.mono HB1.out.size))
    have CQ := Lib.hid (fun q h0 h9 => CP.out t W2 q hti.at htl h0 h9)
    clear htl hti hb2 y0 y1
    go_wp2
    go_loopw [8, 9] (fun bv i wr => ∃ j : Nat, 1 ≤ j ∧ j ≤ 1000 ∧ i = .int .i64 j ∧ bv = .int .i64 (bpT f j) ∧ wr = W2) (fun _ i _ => 1000 - (intOf i).toNat)
    case atStart => exact ⟨1, by omega, by omega, rfl, by rw [bpT_one], rfl⟩
    case round =>
      obtain ⟨j, hj1, hj, rfl, rfl, rfl⟩ := hrel
      obtain ⟨q, hq⟩ : ∃ q, q = bpT f j := ⟨_, rfl⟩
      have hq0 := bpT_bound f j
      have hq9 := bpT_le f j hj
      rw [← hq] at hq0 hq9 ⊢
      have hq1 := hq0.1
      by_cases hlt : j ≤ 999
      · have hji : (j : Int) ≤ 999 := by omega
        have C1 := Lib.hid (CQ.out (j : Int) (by omega) hji)
        have C2 := Lib.hid (CQ.out q hq1 hq9)
        have HQ := Lib.hid hq
        obtain ⟨x, hx⟩ : ∃ x, x = f (j : Int) := ⟨_, rfl⟩
        obtain ⟨y, hy⟩ : ∃ y, y = f q := ⟨_, rfl⟩
        rw [← hx] at C1
        rw [← hy] at C2
        have HX := Lib.hid hx
        have HY := Lib.hid hy
        clear hq hx hy hq0
        go_wp2_with fail
        refine (show Calls _ _ _ _ _ from C1.out).mono ?_
        rintro e wr ⟨rfl, rfl⟩
        go_wp2_with fail
        refine (show Calls _ _ _ _ _ from C2.out).mono ?_
        rintro e wr ⟨rfl, rfl⟩
        by_cases hxy : y < x
        · have HS := Lib.hid (bpT_up (f := f) (m := j) (by rw [← HQ.out, ← HX.out, ← HY.out]; exact hxy))
          go_wp2
          go_roundw
          case rel => exact ⟨j + 1, by omega, by omega, by go_num, by rw [HS.out], by first | rfl | trivial⟩
          case measure => simp [intOf]; omega
        · have HS := Lib.hid (bpT_stay (f := f) (m := j) (by rw [← HQ.out, ← HX.out, ← HY.out]; exact hxy))
          go_wp2
          go_roundw
          case rel => exact ⟨j + 1, by omega, by omega, by go_num, by rw [HS.out, ← HQ.out], by first | rfl | trivial⟩
          case measure => simp [intOf]; omega
      · obtain rfl : j = 1000 := by omega
        have C2 := Lib.hid (CQ.out q hq1 hq9)
        have HQ := Lib.hid hq
        clear hq hq0
        go_wp2_with fail
        refine (show Calls _ _ _ _ _ from C2.out).mono ?_
        rintro e wr ⟨rfl, rfl⟩
        go_wp2
        go_ret3
        exact ⟨by rw [HP.out, HV.out, ← HQ.out]; rfl, HB2.out⟩

set_option maxRecDepth 32000 in
set_option maxHeartbeats 2000000 in
theorem implPrice_any (F : Fld) (k : Int) (w : World) (hF : F.At w) (p v : Int) (b : Bool) (hv : Prices F k p v b) :
    Calls Try.prog 28 #[F.val, .int .i64 k] w (PPrice p v b w) := by
  obtain ⟨wA, hA, hbA, bx, hFA, hszA⟩ := laid_fld F w 29 hF
  have HFA := Lib.hid hFA
  have HBX := Lib.hid bx
  have HA := Lib.hid hA
  have CT := Lib.hid (hasSites_any F k wA hFA)
  have x0 := bx.c0
  have x1 := bx.c1
  rw [hA] at x0 x1
  clear hF hA hFA bx
  show Calls _ _ #[.agg #[F.o.val, F.t.val], _] w fun e w' => e = .returned (.tuple #[.int .i64 p, .int .i64 v, .bool b]) ∧ Below w.heap.size w w'
  rcases hv with ⟨h2, rfl, rfl, rfl⟩ | ⟨h2, hp, hv, rfl⟩
  · rw [h2] at CT
    clear h2
    go_enter Try.func28, Try.ntmps28
    go_wp2_with fail
    rw [show w.alloc (Obj.cells #[F.o.val, F.t.val] 29) = wA from HA.out.symm]
    refine (show Calls _ _ _ _ _ from CT.out).mono ?_
    rintro e W1 ⟨rfl, hb1⟩
    clear x0 x1
    go_wp2
    go_ret3
    exact ⟨rfl, hbA.trans (hb1.mono hbA.size)⟩
  · rw [h2] at CT
    obtain ⟨hg, m, rfl, h1, hm⟩ := kB_nat h2
    have hsz := good_sizes hg
    obtain ⟨f, hf⟩ : ∃ f, f = priceF F (m : Int) := ⟨_, rfl⟩
    rw [← hf] at hp hv
    have CV := Lib.hid (fun W1 (hb1 : Below wA.heap.size wA W1) => medianValues_any F W1 (HFA.out.on hb1) hg)
    have CP := Lib.hid (fun (t : Row) (u : World) (q : Int) (ht : t.At u) (htl : t.l = valsT F F.o.l.length) (h0 : 0 ≤ q) (h9 : q ≤ 999) => by
      have := boundFor_any t m q u ht (by rw [htl, valsT_len]; omega) (by rw [htl, valsT_len]; omega) (by rw [htl]; exact valsT_bound hg _) (by omega) h0 h9
      rw [show boundP t.l (m : Int) q = f q by rw [htl, hf]; rfl] at this; exact this : ∀ (t : Row) (u : World) (q : Int), t.At u → t.l = valsT F F.o.l.length → 0 ≤ q → q ≤ 999 → Calls Try.prog 55 #[.slice t.a t.l.length t.c, .int .i64 m, .int .i64 q] u fun e w' => e = .returned (.int .i64 (f q)) ∧ Below u.heap.size u w')
    have HP := Lib.hid hp
    have HV := Lib.hid hv
    clear h2 hg hsz hf hp hv
    go_enter Try.func28, Try.ntmps28
    go_wp2_with fail
    rw [show w.alloc (Obj.cells #[F.o.val, F.t.val] 29) = wA from HA.out.symm]
    refine (show Calls _ _ _ _ _ from CT.out).mono ?_
    rintro e W1 ⟨rfl, hb1⟩
    clear x0 x1
    have y0 := (HBX.out.on hb1).c0
    have y1 := (HBX.out.on hb1).c1
    have CV1 := Lib.hid (CV.out W1 hb1)
    have HB1 := Lib.hid (hbA.trans (hb1.mono hbA.size))
    clear hb1
    go_wp2_with fail
    refine (show Calls _ _ _ _ _ from CV1.out).mono ?_
    rintro e W2 ⟨t, rfl, htl, -, hti, hb2⟩
    have HB2 := Lib.hid (HB1.out.trans (hb2.mono HB1.out.size))
    have CQ := Lib.hid (fun (u : World) (hu : Below W2.heap.size W2 u) q h0 h9 => CP.out t u q (hti.on hu).at htl h0 h9)
    have C0 := Lib.hid (CQ.out W2 (Below.refl _ _) 0 (by omega) (by omega))
    clear htl hti hb2 y0 y1
    go_wp2_with fail
    refine (show Calls _ _ _ _ _ from C0.out).mono ?_
    rintro e W3 ⟨rfl, hb3⟩
    have HB3 := Lib.hid hb3
    clear hb3
    go_wp2
    go_loopw [8, 9, 10, 11, 21] (fun pv bv _ _ i wr => ∃ j : Nat, j ≤ 1000 ∧ i = .int .i64 j ∧ pv = .int .i64 (bpT f j) ∧ bv = .int .i64 (f (bpT f j)) ∧ Below W2.heap.size W2 wr) (fun _ _ _ _ i _ => 1000 - (intOf i).toNat)
    case atStart => exact ⟨0, by omega, rfl, rfl, rfl, HB3.out⟩
    case round =>
      obtain ⟨j, hj, rfl, rfl, rfl, hnx⟩ := hrel
      obtain ⟨q, hq⟩ : ∃ q, q = bpT f j := ⟨_, rfl⟩
      obtain ⟨y, hy⟩ : ∃ y, y = f q := ⟨_, rfl⟩
      rw [← hq, ← hy]
      have HQ := Lib.hid hq
      have HY := Lib.hid hy
      clear hq hy
      by_cases hlt : j < 1000
      · have hji : (j : Int) < 1000 := by omega
        have C1 := Lib.hid (CQ.out wr hnx (j : Int) (by omega) (by omega))
        obtain ⟨x, hx⟩ : ∃ x, x = f (j : Int) := ⟨_, rfl⟩
        rw [← hx] at C1
        have HX := Lib.hid hx
        have HNX := Lib.hid hnx
        clear hx hnx
        go_wp2_with fail
        refine (show Calls _ _ _ _ _ from C1.out).mono ?_
        rintro e W4 ⟨rfl, hb4⟩
        have R2 := HNX.out.trans (hb4.mono HNX.out.size)
        clear hb4
        by_cases hxy : y < x
        · have HS := Lib.hid (bpT_up (f := f) (m := j) (by rw [← HQ.out, ← HX.out, ← HY.out]; exact hxy))
          go_wp2
          go_roundw
          case rel => exact ⟨j + 1, by omega, by go_num, by rw [HS.out], by rw [HS.out, HX.out], R2⟩
          case measure => simp [intOf]; omega
        · have HS := Lib.hid (bpT_stay (f := f) (m := j) (by rw [← HQ.out, ← HX.out, ← HY.out]; exact hxy))
          go_wp2
          go_roundw
          case rel => exact ⟨j + 1, by omega, by go_num, by rw [HS.out, ← HQ.out], by rw [HS.out, ← HQ.out, HY.out], R2⟩
          case measure => simp [intOf]; omega
      · obtain rfl : j = 1000 := by omega
        go_wp2
        go_ret3
        exact ⟨by rw [HP.out, HV.out, ← HQ.out, ← HY.out]; rfl, HB2.out.trans (hnx.mono HB2.out.size)⟩

theorem prices_like {F G : Fld} {k p v : Int} {b : Bool} (h : Prices F k p v b) (hl : G.Like F) : Prices G k p v b := by
  rcases h with ⟨h1, h2⟩ | ⟨h1, h2⟩
  · exact .inl ⟨by rw [kB_like hl, h1], h2⟩
  · exact .inr ⟨by rw [kB_like hl, h1], by rw [priceF_like hl]; exact h2⟩
theorem bestPrice_pair (F : Fld) (k : Int) (_ : (Lit.int .i64 k).wf = true) (_ : F.Small) : ∃ (v u : Int) (b : Bool),
    (∀ (G : Fld) (W : World), G.At W → G.Like F → Calls Try.prog 27 #[G.val, .int .i64 k] W (PPrice v u b W)) ∧
    (∀ (G : Fld) (W : World), G.At W → G.Like F → Calls Try.prog 28 #[G.val, .int .i64 k] W (PPrice v u b W)) := by
  obtain ⟨v, u, b, h⟩ : ∃ v u b, Prices F k v u b := by
    by_cases h : kB F k = true
    · exact ⟨_, _, _, .inr ⟨h, rfl, rfl, rfl⟩⟩
    · exact ⟨_, _, _, .inl ⟨by simpa using h, rfl, rfl, rfl⟩⟩
  exact ⟨v, u, b, fun G W hG hlk => specPrice_any G k W hG v u b (prices_like h hlk), fun G W hG hlk => implPrice_any G k W hG v u b (prices_like h hlk)⟩
end Go.Proofs.Ytcameijabkpcaaa
