/- The contracts of BestSwap and IsSwapLocal, on both sides. Condition: the Field and the set read as such. -/
import Derived.Test.YtfmodibahpgkmaaBest
namespace Go.Proofs.Ytfmodibahpgkmaa
open Go.RowKit

def PInt2 (n m : Int) (b : Bool) (W : World) (e : Ending) (w' : World) : Prop := e = .returned (.tuple #[.int .i64 n, .int .i64 m, .bool b]) ∧ Below W.heap.size W w'
/-- What BestSwap answers. -/
def Bests (F : Fld) (s : Row) (p q : Int) (b : Bool) : Prop :=
  (twoB F s = false ∧ p = 0 ∧ q = 0 ∧ b = false) ∨ (twoB F s = true ∧ ∃ g, bestS F s.l s.l.length = (p, q, g) ∧ b = decide (0 < g))

set_option maxRecDepth 32000 in
set_option maxHeartbeats 2000000 in
theorem implBest_any (F : Fld) (s : Row) (w : World) (hF : F.At w) (hs : s.At w) (hsm : s.l.length ≤ 1048576) (p q : Int) (t : Bool) (hv : Bests F s p q t) :
    Calls Try.prog 31 #[F.val, .slice s.a s.l.length s.c] w (PInt2 p q t w) := by
  obtain ⟨wA, hA, hbA, bx, hFA, hszA⟩ := laid_fld F w 29 hF
  have HSA := Lib.hid (hs.on hbA)
  have HFA := Lib.hid hFA
  have HBX := Lib.hid bx
  have HA := Lib.hid hA
  have CT := Lib.hid (canServe_any F s wA hFA HSA.out)
  show Calls _ _ #[.agg #[F.o.val, F.t.val], _] w fun e w' => e = .returned (.tuple #[.int .i64 p, .int .i64 q, .bool t]) ∧ Below w.heap.size w w'
  rcases hv with ⟨h2, rfl, rfl, rfl⟩ | ⟨h2, g, hv, hd⟩
  · rw [h2] at CT
    clear hF hs hA hFA bx h2
    go_enter Try.func31, Try.ntmps31
    go_wp2_with fail
    rw [show w.alloc (Obj.cells #[F.o.val, F.t.val] 29) = wA from HA.out.symm]
    refine (show Calls _ _ _ _ _ from CT.out).mono ?_
    rintro e W1 ⟨rfl, hb1⟩
    go_wp2
    go_ret3
    exact ⟨rfl, hbA.trans (hb1.mono hbA.size)⟩
  rw [h2] at CT
  have hg := (twoB_iff.1 h2).1
  have hsz := good_sizes hg
  have hoi : (F.o.l.length : Int) ≤ 7 := by omega
  obtain ⟨q1, q2, q3⟩ := hs.on hbA
  have hni : (s.l.length : Int) ≤ 1048576 := by omega
  have hpos := (twoB_iff.1 h2).2.2
  rcases q3 with h3 | ⟨b, o, ha, hbb, hcell0⟩
  · have h3' := congrArg List.length (iv_nil h3); rw [List.length_nil] at h3'; omega
  have HCE := Lib.hid (fun k (hk : k < s.l.length) => hcell0 k _ (iv_at hk))
  have HG := Lib.hid hg
  have H2 := Lib.hid h2
  have HV := Lib.hid hv
  have HD := Lib.hid hd
  have HA3 := Lib.hid ha
  rw [ha] at CT ⊢
  clear hF hs hA hFA bx q1 q2 hg h2 hsz hv hpos hcell0 ha hd
  go_enter Try.func31, Try.ntmps31
  go_wp2_with fail
  rw [show w.alloc (Obj.cells #[F.o.val, F.t.val] 29) = wA from HA.out.symm]
  refine (show Calls _ _ _ _ _ from CT.out).mono ?_
  rintro e W1 ⟨rfl, hb1⟩
  have HB1 := Lib.hid hb1
  clear hb1 CT
  obtain ⟨n, hn⟩ : ∃ n, n = F.o.l.length := ⟨_, rfl⟩
  have HN := Lib.hid hn
  rw [← hn] at hoi
  clear hn
  go_wp2
  go_loopw [7, 8, 9, 11, 12, 13, 14, 21, 28] (fun a b c _ _ _ _ i _ wr => ∃ k : Nat, k ≤ s.l.length ∧ i = .int .i64 k ∧ a = .int .i64 (bestS F s.l k).1 ∧ b = .int .i64 (bestS F s.l k).2.1 ∧ c = .int .i64 (bestS F s.l k).2.2 ∧ Below wA.heap.size wA wr) (fun _ _ _ _ _ _ _ i _ _ => s.l.length - (intOf i).toNat)
  case atStart => exact ⟨0, Nat.zero_le _, rfl, rfl, rfl, rfl, HB1.out⟩
  case round =>
    obtain ⟨k, hk, rfl, rfl, rfl, rfl, hnx⟩ := hrel
    by_cases hlt : k < s.l.length
    · have hlti : (k : Int) < (s.l.length : Int) := by omega
      have HNX := Lib.hid hnx
      have y0 : wr.cell? ⟨w.heap.size, 0, none⟩ = some (.slice F.o.a n F.o.c) := by rw [HN.out]; exact (HBX.out.on hnx).c0
      obtain ⟨x, hx⟩ : ∃ x, x = s.l[k] := ⟨_, rfl⟩
      have hcl : wr.cell? ⟨b, o + k, none⟩ = some (.int .i64 x) := (hnx.cell (p := ⟨b, o + k, none⟩) hbb).trans (by rw [hx]; exact HCE.out k hlt)
      have HX := Lib.hid hx
      clear hx hnx
      go_wp2
      clear y0 hcl
      go_loopw [7, 8, 9, 12, 13, 14, 28] (fun a b c _ _ _ i wr => ∃ m : Nat, m ≤ n ∧ i = .int .i64 m ∧ a = .int .i64 (rowS F s.l x (bestS F s.l k) m).1 ∧ b = .int .i64 (rowS F s.l x (bestS F s.l k) m).2.1 ∧ c = .int .i64 (rowS F s.l x (bestS F s.l k) m).2.2 ∧ Below wA.heap.size wA wr) (fun _ _ _ _ _ _ i _ => n - (intOf i).toNat)
      case atStart => exact ⟨0, Nat.zero_le _, rfl, rfl, rfl, rfl, HNX.out⟩
      case round =>
        obtain ⟨m, hm, rfl, rfl, rfl, rfl, hnx2⟩ := hrel
        obtain ⟨st, hst⟩ : ∃ st, st = rowS F s.l x (bestS F s.l k) m := ⟨_, rfl⟩
        rw [← hst]
        have HNX2 := Lib.hid hnx2
        by_cases hlm : m < n
        · have hmi : (m : Int) < (n : Int) := by omega
          have y0 : wr.cell? ⟨w.heap.size, 0, none⟩ = some (.slice F.o.a n F.o.c) := by rw [HN.out]; exact (HBX.out.on hnx2).c0
          have y1 := (HBX.out.on hnx2).c1
          have HST := Lib.hid (show rowS F s.l x (bestS F s.l k) (m + 1) = stepS F s.l x st m by rw [rowS_step, hst])
          have hkp := kept_part (HG.out) (l := s.l) (i := k) (k := m) hlt (by rw [← HN.out]; omega)
          rw [← HX.out, ← hst] at hkp
          have g1 := hkp.1
          have g2 := hkp.2.1
          have hsz1 := hnx2.size
          by_cases hno : hasI s.l (m : Int) = true
          · have CG := Lib.hid (by have := implGain_any F s x m wr (HFA.out.on hnx2) (HSA.out.on hnx2) hsm 0 false (.inr ⟨swapAt_not hno, rfl, rfl⟩); rw [HA3.out] at this; unfold Fld.val Row.val at this; rw [← HN.out] at this; exact this : Calls Try.prog 29 #[.agg #[.slice F.o.a n F.o.c, F.t.val], .slice (some ⟨b, o, none⟩) s.l.length s.c, .int .i64 x, .int .i64 m] wr fun e w' => e = .returned (.tuple #[.int .i64 0, .bool false]) ∧ Below wr.heap.size wr w')
            have HS := Lib.hid (HST.out.trans (step_no hno))
            clear hst hkp hnx2 hno
            go_wp2_with fail
            refine CG.out.mono ?_
            rintro e W8 ⟨rfl, hb8⟩
            have R2 := HNX2.out.trans (hb8.mono hsz1)
            clear hb8 y0 y1
            go_wp2
            go_roundw
            case rel => exact ⟨m + 1, by omega, by go_num, by rw [HS.out], by rw [HS.out], by rw [HS.out], R2⟩
            case measure => simp [intOf]; omega
          · have hno' : hasI s.l (m : Int) = false := by simpa using hno
            obtain ⟨v, hv⟩ : ∃ v, v = gain F s.l x m := ⟨_, rfl⟩
            have CG := Lib.hid (by have := implGain_any F s x m wr (HFA.out.on hnx2) (HSA.out.on hnx2) hsm v true (.inl ⟨swapAt_of H2.out (by rw [HX.out]; exact List.getElem_mem _) (by rw [← HN.out]; exact hlm) hno', hv, rfl⟩); rw [HA3.out] at this; unfold Fld.val Row.val at this; rw [← HN.out] at this; exact this : Calls Try.prog 29 #[.agg #[.slice F.o.a n F.o.c, F.t.val], .slice (some ⟨b, o, none⟩) s.l.length s.c, .int .i64 x, .int .i64 m] wr fun e w' => e = .returned (.tuple #[.int .i64 v, .bool true]) ∧ Below wr.heap.size wr w')
            have HVV := Lib.hid hv
            have hvb := gain_bounds HG.out s.l x m
            rw [← hv] at hvb
            have HNO := Lib.hid hno'
            clear hst hkp hnx2 hno hno' hv
            by_cases hgt : st.2.2 < v
            · have HSS := Lib.hid (HST.out.trans (step_more HNO.out (by rw [← HVV.out]; exact hgt)))
              go_wp2_with fail
              refine CG.out.mono ?_
              rintro e W8 ⟨rfl, hb8⟩
              have R2 := HNX2.out.trans (hb8.mono hsz1)
              clear hb8 y0 y1
              go_wp2
              go_roundw
              case rel => exact ⟨m + 1, by omega, by go_num, by rw [HSS.out], by rw [HSS.out], by rw [HSS.out, ← HVV.out], R2⟩
              case measure => simp [intOf]; omega
            · have HSS := Lib.hid (HST.out.trans (step_less (by rw [← HVV.out]; exact hgt)))
              go_wp2_with fail
              refine CG.out.mono ?_
              rintro e W8 ⟨rfl, hb8⟩
              have R2 := HNX2.out.trans (hb8.mono hsz1)
              clear hb8 y0 y1
              go_wp2
              go_roundw
              case rel => exact ⟨m + 1, by omega, by go_num, by rw [HSS.out], by rw [HSS.out], by rw [HSS.out], R2⟩
              case measure => simp [intOf]; omega
        · obtain rfl : m = n := by omega
          have HS := Lib.hid (show bestS F s.l (k + 1) = st by rw [bestS_step hlt, hst, HX.out, HN.out])
          clear hst hnx2
          go_wp2
          go_roundw
          case rel => exact ⟨k + 1, by omega, by go_num, by rw [HS.out], by rw [HS.out], by rw [HS.out], HNX2.out⟩
          case measure => simp [intOf]; omega
    · obtain rfl : k = s.l.length := by omega
      obtain ⟨st, hst⟩ : ∃ st, st = bestS F s.l s.l.length := ⟨_, rfl⟩
      rw [← hst]
      have HST := Lib.hid hst
      clear hst
      obtain ⟨st1, st2, st3⟩ := st
      have HE : Hid (p = st1 ∧ q = st2 ∧ t = decide (0 < st3)) := Lib.hid (by have h1 := HV.out; rw [← HST.out] at h1; injection h1 with h1 h2; injection h2 with h2 h3; subst h1; subst h2; subst h3; exact ⟨rfl, rfl, HD.out⟩)
      go_wp2
      go_ret3
      obtain ⟨e1, e2, e3⟩ := HE.out
      subst e1; subst e2; subst e3
      exact ⟨rfl, hbA.trans (hnx.mono hbA.size)⟩

set_option maxRecDepth 8000 in
set_option maxHeartbeats 1000000 in
theorem specBest_any (F : Fld) (s : Row) (w : World) (hF : F.At w) (hs : s.At w) (hsm : s.l.length ≤ 1048576) (p q : Int) (t : Bool) (hv : Bests F s p q t) :
    Calls Try.prog 30 #[F.val, .slice s.a s.l.length s.c] w (PInt2 p q t w) := by
  obtain ⟨wA, hA, hbA, bx, hFA, hszA⟩ := laid_fld F w 29 hF
  have HSA := Lib.hid (hs.on hbA)
  have HFA := Lib.hid hFA
  have HBX := Lib.hid bx
  have HA := Lib.hid hA
  have CT := Lib.hid (l2Two_any F s wA hFA HSA.out)
  clear hF hs hA hFA bx
  show Calls _ _ #[.agg #[F.o.val, F.t.val], _] w fun e w' => e = .returned (.tuple #[.int .i64 p, .int .i64 q, .bool t]) ∧ Below w.heap.size w w'
  rcases hv with ⟨h2, rfl, rfl, rfl⟩ | ⟨h2, g, hv, rfl⟩
  · rw [h2] at CT
    clear h2
    go_enter Try.func30, Try.ntmps30
    go_wp2_with fail
    rw [show w.alloc (Obj.cells #[F.o.val, F.t.val] 29) = wA from HA.out.symm]
    refine (show Calls _ _ _ _ _ from CT.out).mono ?_
    rintro e W1 ⟨rfl, hb1⟩
    go_wp2
    go_ret3
    exact ⟨rfl, hbA.trans (hb1.mono hbA.size)⟩
  · rw [h2] at CT
    have C2 := Lib.hid (fun W1 (hb1 : Below wA.heap.size wA W1) => l4Find_any F s W1 (HFA.out.on hb1) (HSA.out.on hb1) hsm h2 p q g hv)
    clear hv h2
    go_enter Try.func30, Try.ntmps30
    go_wp2_with fail
    rw [show w.alloc (Obj.cells #[F.o.val, F.t.val] 29) = wA from HA.out.symm]
    refine (show Calls _ _ _ _ _ from CT.out).mono ?_
    rintro e W1 ⟨rfl, hb1⟩
    have y0 := (HBX.out.on hb1).c0
    have y1 := (HBX.out.on hb1).c1
    go_wp2_with fail
    refine (show Calls _ _ _ _ _ from C2.out W1 hb1).mono ?_
    rintro e W2 ⟨rfl, hb2⟩
    clear y0 y1
    go_wp2
    go_ret3
    exact ⟨rfl, (hbA.trans (hb1.mono hbA.size)).trans (hb2.mono (Nat.le_trans hbA.size hb1.size))⟩

theorem bests_like {F G : Fld} {s u : Row} {p q : Int} {t : Bool} (h : Bests F s p q t) (hl : G.Like F) (hs : u.l = s.l) : Bests G u p q t := by
  rcases h with ⟨h1, h2⟩ | ⟨h1, g, h2, h3⟩
  · exact .inl ⟨by rw [twoB_like hl hs, h1], h2⟩
  · exact .inr ⟨by rw [twoB_like hl hs, h1], g, by rw [bestS_like hl, hs, h2], h3⟩
theorem bests_some (F : Fld) (s : Row) : ∃ (p q : Int) (t : Bool), Bests F s p q t := by
  by_cases h : twoB F s = true
  · exact ⟨_, _, _, .inr ⟨h, _, rfl, rfl⟩⟩
  · exact ⟨_, _, _, .inl ⟨by simpa using h, rfl, rfl, rfl⟩⟩
theorem bestSwap_pair (F : Fld) (s : Row) (_ : F.Small) (hs : s.l.length ≤ 1048576) : ∃ (v u : Int) (b : Bool),
    (∀ (G : Fld) (t : Row) (W : World), G.At W → t.At W → G.Like F → t.l = s.l → Calls Try.prog 30 #[G.val, .slice t.a t.l.length t.c] W (PInt2 v u b W)) ∧
    (∀ (G : Fld) (t : Row) (W : World), G.At W → t.At W → G.Like F → t.l = s.l → Calls Try.prog 31 #[G.val, .slice t.a t.l.length t.c] W (PInt2 v u b W)) := by
  obtain ⟨v, u, b, h⟩ := bests_some F s
  exact ⟨v, u, b, fun G t W hG ht hlk hst => specBest_any G t W hG ht (by rw [hst]; exact hs) v u b (bests_like h hlk hst), fun G t W hG ht hlk hst => implBest_any G t W hG ht (by rw [hst]; exact hs) v u b (bests_like h hlk hst)⟩
end Go.Proofs.Ytfmodibahpgkmaa
