/- Both sides of IsSwapLocal answer alike. Condition: the Field and the set read as such. -/
import Derived.Test.YtfmodibahpgkmaaBestImpl
namespace Go.Proofs.Ytfmodibahpgkmaa
open Go.RowKit

/-- What IsSwapLocal answers. -/
def Locals (F : Fld) (s : Row) (v b : Bool) : Prop :=
  (twoB F s = false ∧ v = false ∧ b = false) ∨ (twoB F s = true ∧ ∃ p q g, bestS F s.l s.l.length = (p, q, g) ∧ 0 ≤ g ∧ v = decide (g = 0) ∧ b = true)

set_option maxRecDepth 8000 in
set_option maxHeartbeats 1000000 in
theorem specLocal_any (F : Fld) (s : Row) (w : World) (hF : F.At w) (hs : s.At w) (hsm : s.l.length ≤ 1048576) (v b : Bool) (hv : Locals F s v b) :
    Calls Try.prog 32 #[F.val, .slice s.a s.l.length s.c] w (PBool2 v b w) := by
  obtain ⟨wA, hA, hbA, bx, hFA, hszA⟩ := laid_fld F w 29 hF
  have HSA := Lib.hid (hs.on hbA)
  have HFA := Lib.hid hFA
  have HBX := Lib.hid bx
  have HA := Lib.hid hA
  have CT := Lib.hid (l2Two_any F s wA hFA HSA.out)
  clear hF hs hA hFA bx
  show Calls _ _ #[.agg #[F.o.val, F.t.val], _] w fun e w' => e = .returned (.tuple #[.bool v, .bool b]) ∧ Below w.heap.size w w'
  rcases hv with ⟨h2, rfl, rfl⟩ | ⟨h2, p, q, g, hv, -, hd, rfl⟩
  · rw [h2] at CT
    clear h2
    go_enter Try.func32, Try.ntmps32
    go_wp2_with fail
    rw [show w.alloc (Obj.cells #[F.o.val, F.t.val] 29) = wA from HA.out.symm]
    refine (show Calls _ _ _ _ _ from CT.out).mono ?_
    rintro e W1 ⟨rfl, hb1⟩
    go_wp2
    go_ret2
    exact ⟨rfl, hbA.trans (hb1.mono hbA.size)⟩
  · rw [h2] at CT
    have C2 := Lib.hid (fun W1 (hb1 : Below wA.heap.size wA W1) => l4Find_any F s W1 (HFA.out.on hb1) (HSA.out.on hb1) hsm h2 p q g hv)
    have HD : Hid (v = (g == 0)) := Lib.hid (by rw [hd]; by_cases h : g = 0 <;> simp [h])
    clear hv h2 hd
    go_enter Try.func32, Try.ntmps32
    go_wp2_with fail
    rw [show w.alloc (Obj.cells #[F.o.val, F.t.val] 29) = wA from HA.out.symm]
    refine (show Calls _ _ _ _ _ from CT.out).mono ?_
    rintro e W1 ⟨rfl, hb1⟩
    have y0 := (HBX.out.on hb1).c0
    have y1 := (HBX.out.on hb1).c1
    go_wp2_with fail
    refine (show Calls _ _ _ _ _ from C2.out W1 hb1).mono ?_
    rintro e W2 ⟨rfl, hb2⟩
    clear y0 y1
    go_wp2
    go_ret2
    exact ⟨by rw [HD.out]; rfl, (hbA.trans (hb1.mono hbA.size)).trans (hb2.mono (Nat.le_trans hbA.size hb1.size))⟩

set_option maxRecDepth 8000 in
set_option maxHeartbeats 1000000 in
theorem implLocal_any (F : Fld) (s : Row) (w : World) (hF : F.At w) (hs : s.At w) (hsm : s.l.length ≤ 1048576) (v b : Bool) (hv : Locals F s v b) :
    Calls Try.prog 33 #[F.val, .slice s.a s.l.length s.c] w (PBool2 v b w) := by
  obtain ⟨wA, hA, hbA, bx, hFA, hszA⟩ := laid_fld F w 29 hF
  have HSA := Lib.hid (hs.on hbA)
  have HFA := Lib.hid hFA
  have HBX := Lib.hid bx
  have HA := Lib.hid hA
  have CT := Lib.hid (canServe_any F s wA hFA HSA.out)
  clear hF hs hA hFA bx
  show Calls _ _ #[.agg #[F.o.val, F.t.val], _] w fun e w' => e = .returned (.tuple #[.bool v, .bool b]) ∧ Below w.heap.size w w'
  rcases hv with ⟨h2, rfl, rfl⟩ | ⟨h2, p, q, g, hv, hg0, hd, rfl⟩
  · rw [h2] at CT
    clear h2
    go_enter Try.func33, Try.ntmps33
    go_wp2_with fail
    rw [show w.alloc (Obj.cells #[F.o.val, F.t.val] 29) = wA from HA.out.symm]
    refine (show Calls _ _ _ _ _ from CT.out).mono ?_
    rintro e W1 ⟨rfl, hb1⟩
    go_wp2
    go_ret2
    exact ⟨rfl, hbA.trans (hb1.mono hbA.size)⟩
  · rw [h2] at CT
    obtain ⟨z, hz⟩ : ∃ z, z = decide (0 < g) := ⟨_, rfl⟩
    have C2 := Lib.hid (fun W1 (hb1 : Below wA.heap.size wA W1) => implBest_any F s W1 (HFA.out.on hb1) (HSA.out.on hb1) hsm p q z (.inr ⟨h2, g, hv, hz⟩))
    have HD : Hid (v = !z) := Lib.hid (by
      rw [hd, hz]
      by_cases h : g = 0
      · subst h; decide
      · rw [decide_eq_false h, decide_eq_true (by omega : 0 < g)]; rfl)
    clear hv h2 hd hg0 hz
    go_enter Try.func33, Try.ntmps33
    go_wp2_with fail
    rw [show w.alloc (Obj.cells #[F.o.val, F.t.val] 29) = wA from HA.out.symm]
    refine (show Calls _ _ _ _ _ from CT.out).mono ?_
    rintro e W1 ⟨rfl, hb1⟩
    have y0 := (HBX.out.on hb1).c0
    have y1 := (HBX.out.on hb1).c1
    go_wp2_with fail
    refine (show Calls _ _ _ _ _ from C2.out W1 hb1).mono ?_
    rintro e W2 ⟨rfl, hb2⟩
    clear y0 y1
    go_wp2
    go_ret2
    exact ⟨by rw [HD.out]; rfl, (hbA.trans (hb1.mono hbA.size)).trans (hb2.mono (Nat.le_trans hbA.size hb1.size))⟩

theorem locals_like {F G : Fld} {s u : Row} {v b : Bool} (h : Locals F s v b) (hl : G.Like F) (hs : u.l = s.l) : Locals G u v b := by
  rcases h with ⟨h1, h2⟩ | ⟨h1, p, q, g, h2, h3⟩
  · exact .inl ⟨by rw [twoB_like hl hs, h1], h2⟩
  · exact .inr ⟨by rw [twoB_like hl hs, h1], p, q, g, by rw [bestS_like hl, hs, h2], h3⟩
theorem locals_some (F : Fld) (s : Row) : ∃ (v b : Bool), Locals F s v b := by
  by_cases h : twoB F s = true
  · exact ⟨_, _, .inr ⟨h, _, _, _, rfl, (kept_best (twoB_iff.1 h).1 _ (Nat.le_refl _)).1, rfl, rfl⟩⟩
  · exact ⟨_, _, .inl ⟨by simpa using h, rfl, rfl⟩⟩
theorem isSwapLocal_pair (F : Fld) (s : Row) (_ : F.Small) (hs : s.l.length ≤ 1048576) : ∃ (v b : Bool),
    (∀ (G : Fld) (t : Row) (W : World), G.At W → t.At W → G.Like F → t.l = s.l → Calls Try.prog 32 #[G.val, .slice t.a t.l.length t.c] W (PBool2 v b W)) ∧
    (∀ (G : Fld) (t : Row) (W : World), G.At W → t.At W → G.Like F → t.l = s.l → Calls Try.prog 33 #[G.val, .slice t.a t.l.length t.c] W (PBool2 v b W)) := by
  obtain ⟨v, b, h⟩ := locals_some F s
  exact ⟨v, b, fun G t W hG ht hlk hst => specLocal_any G t W hG ht (by rw [hst]; exact hs) v b (locals_like h hlk hst), fun G t W hG ht hlk hst => implLocal_any G t W hG ht (by rw [hst]; exact hs) v b (locals_like h hlk hst)⟩
end Go.Proofs.Ytfmodibahpgkmaa
