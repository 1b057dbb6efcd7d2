/- The reach of a set without the greatest lengths: the program's side. Condition: a valid Field and a set of its sites. -/
import Derived.Test.YtemflcegkebloaaSortRow
import Derived.Test.YtemflcegkebloaaBestTot
import Derived.IntWalk
namespace Go.Proofs.Ytemflcegkebloaa
open Go.RowKit Go.Shelf

def partV (L : List Int) (z : Nat) : Int := if L.length ≤ z then 0 else (sortA L).getD (L.length - 1 - z) 0
def partT (F : Fld) (z : Nat) (T : List Nat) : Int := partV (lens F.t.con T) z
theorem partT_lt {F : Fld} (h : F.good = true) (z : Nat) (T : List Nat) : partT F z T < 9223372036854775807 := by
  unfold partT partV
  split
  · omega
  · rw [List.getD_eq_getElem?_getD]
    cases hx : (sortA (lens F.t.con T))[(lens F.t.con T).length - 1 - z]? with
    | none => simp
    | some x =>
      have hm : x ∈ lens F.t.con T := (sortA_perm _).mem_iff.1 (List.mem_of_getElem? hx)
      have := lens_bound h T x hm
      simp only [Option.getD_some]; omega
theorem partT_like {F G : Fld} (h : F.Like G) (z : Nat) : partT F z = partT G z := by funext T; unfold partT; rw [h.2]

set_option maxHeartbeats 1000000 in
theorem partialReach_any (F : Fld) (s : Row) (T : List Nat) (z : Nat) (w : World) (hF : F.At w) (hs : s.At w) (hf : Fine F s T) (hz : z ≤ 7) :
    Calls Try.prog 71 #[F.val, .slice s.a s.l.length s.c, .int .i64 z] w fun e w' => e = .returned (.int .i64 (partT F z T)) ∧ Below w.heap.size w w' := by
  obtain ⟨wA, hA, hbA, bx, hFA, hszA⟩ := laid_fld F w 29 hF
  have HSA := Lib.hid (hs.on hbA)
  have HFA := Lib.hid hFA
  have HA := Lib.hid hA
  have hsz := good_sizes hf.good
  have CB := Lib.hid (servedLengths_any F s T wA hFA HSA.out hf)
  have x0 := bx.c0
  have x1 := bx.c1
  rw [hA] at x0 x1
  have hzi : (z : Int) ≤ 7 := by omega
  clear hF hs hA hFA bx hf
  show Calls _ _ #[.agg #[F.o.val, F.t.val], _, _] w _
  go_enter Try.func71, Try.ntmps71
  go_wp2_with fail
  rw [show w.alloc (Obj.cells #[F.o.val, F.t.val] 29) = wA from HA.out.symm]
  refine (show Calls _ _ _ _ _ from CB.out).mono ?_
  rintro e W1 ⟨t, rfl, htl, hto, hti, hb1⟩
  have hbw := hbA.trans (hb1.mono hbA.size)
  have htn : t.l.length = F.t.R.length := by rw [htl, lens_length]
  have HP : Hid (partT F z T = partV t.l z) := Lib.hid (by unfold partT; rw [htl])
  obtain ⟨n, hn⟩ : ∃ n, n = t.l.length := ⟨_, rfl⟩
  have hn7 : n ≤ 7 := by omega
  have hni : (n : Int) ≤ 7 := by omega
  have HN := Lib.hid hn
  have CS := Lib.hid (by have := sortRow_any t wA.heap.size W1 hto hti (by omega) hb1.size; rw [← hn] at this; exact this)
  rw [← hn]
  clear x0 x1 htl hsz htn hto hti hn
  by_cases hge : n ≤ z
  · have hgi : (n : Int) ≤ (z : Int) := by omega
    have HE : Hid (partT F z T = 0) := Lib.hid (by rw [HP.out]; unfold partV; rw [if_pos (by rw [← HN.out]; exact hge)])
    clear hge
    go_wp2
    go_ret
    exact ⟨by rw [HE.out]; rfl, hbw⟩
  · have hgi : ¬ (n : Int) ≤ (z : Int) := by omega
    obtain ⟨k, hk⟩ : ∃ k, k = n - 1 - z := ⟨_, rfl⟩
    have HE : Hid (partT F z T = (sortA t.l).getD k 0) := Lib.hid (by rw [HP.out]; unfold partV; rw [if_neg (by rw [← HN.out]; exact hge), hk, HN.out])
    have hki : (n : Int) - 1 - (z : Int) = (k : Int) := by omega
    have hkn : k < n := by omega
    have hkni : (k : Int) < (n : Int) := by omega
    have w1 : IntKind.i64.wrap ((n : Int) - 1) = (n : Int) - 1 := IntWalk.i64_in _ (by omega)
    have w2 : IntKind.i64.wrap ((n : Int) - 1 - (z : Int)) = (k : Int) := by rw [hki]; exact IntWalk.i64_in _ (by omega)
    have HKN := Lib.hid hkn
    clear hge hk hkn
    go_wp2_with fail
    refine (show Calls _ _ _ _ _ from CS.out).mono ?_
    rintro e W2 ⟨rfl, -, hsi, hb2⟩
    obtain ⟨q1, q2, q3⟩ := hsi
    rcases q3 with q3 | ⟨b, o, ha, _, _, hbb, hcell⟩
    · have h3' := congrArg List.length (iv_nil q3); rw [List.length_nil, sortA_len, ← HN.out] at h3'; have := HKN.out; omega
    simp only at ha
    obtain ⟨x, hx⟩ : ∃ x, x = (sortA t.l).getD k 0 := ⟨_, rfl⟩
    have hkl : k < (sortA t.l).length := by rw [sortA_len, ← HN.out]; exact HKN.out
    have hcl : W2.cell? ⟨b, o + k, none⟩ = some (.int .i64 x) := by rw [hx, getD_at hkl]; exact hcell k _ (iv_at hkl)
    have HX := Lib.hid hx
    rw [ha]
    have hbw2 := hbA.trans ((hb1.trans (hb2.mono (Nat.le_refl _))).mono hbA.size)
    clear q1 q2 hcell hx hkl ha
    go_wp2
    go_ret
    exact ⟨by rw [HE.out, ← HX.out]; rfl, hbw2⟩
end Go.Proofs.Ytemflcegkebloaa
