/- Both sides of AreNeeds answer alike. Condition: Field, rooms and needs read as such. -/
import Derived.Test.YtehmjmknegnojaaNeeds
import Derived.Test.YtehmjmknegnojaaPost
namespace Go.Proofs.Ytehmjmknegnojaa
open Go.RowKit

set_option maxHeartbeats 1000000 in
theorem specAreNeeds_any (F : Fld) (r n : Row) (w : World) (hF : F.At w) (hr : r.At w) (hn : n.At w) (l b : Bool) (h : b = F.good ∧ l = (F.good && needsB F r.l n.l)) :
    Calls Try.prog 12 #[F.val, .slice r.a r.l.length r.c, .slice n.a n.l.length n.c] w (PBool2 l b w) := by
  obtain ⟨wA, hA, hb, bx, hFA, _⟩ := laid_fld F w 29 hF
  have HBX := Lib.hid bx
  have HA := Lib.hid hA
  obtain ⟨hb0, hl0⟩ := h
  have CG := l2Good_any F wA hFA
  rw [← hb0] at CG hl0
  have CG1 := Lib.hid CG
  have CS := Lib.hid (fun W (h : Below wA.heap.size wA W) => l7Needs_any F r n W (hFA.on h) ((hr.on hb).on h) ((hn.on hb).on h))
  have HL := Lib.hid hl0
  clear hA bx hFA hF hr hn CG hl0 hb0
  unfold PBool2
  show Calls _ _ #[.agg #[F.o.val, F.t.val], _, _] w _
  go_enter Try.func12, Try.ntmps12
  go_wp2_with fail
  rw [show w.alloc (Obj.cells #[F.o.val, F.t.val] 29) = wA from HA.out.symm]
  refine (show Calls _ _ _ _ _ from CG1.out).mono ?_
  rintro e W1 ⟨rfl, hb1⟩
  have hbw := hb.trans (hb1.mono hb.size)
  cases b with
  | false =>
    go_wp2
    go_ret2
    exact ⟨by rw [HL.out]; rfl, hbw⟩
  | true =>
    have y0 := (HBX.out.on hb1).c0
    have y1 := (HBX.out.on hb1).c1
    have CS1 := Lib.hid (CS.out W1 hb1)
    clear hb1
    go_wp2_with fail
    refine (show Calls _ _ _ _ _ from CS1.out).mono ?_
    rintro e W2 ⟨rfl, hb2⟩
    go_wp2
    go_ret2
    exact ⟨by rw [HL.out]; rfl, hbw.trans (hb2.mono hbw.size)⟩

set_option maxHeartbeats 1000000 in
theorem implAreNeeds_any (F : Fld) (r n : Row) (w : World) (hF : F.At w) (hr : r.At w) (hn : n.At w) (l b : Bool) (h : b = F.good ∧ l = (F.good && needsB F r.l n.l)) :
    Calls Try.prog 15 #[F.val, .slice r.a r.l.length r.c, .slice n.a n.l.length n.c] w (PBool2 l b w) := by
  obtain ⟨wA, hA, hb, bx, hFA, _⟩ := laid_fld F w 29 hF
  have HBX := Lib.hid bx
  have HA := Lib.hid hA
  obtain ⟨hb0, hl0⟩ := h
  have CG := implIsField_any F wA hFA
  rw [← hb0] at CG hl0
  have CG1 := Lib.hid CG
  have CS := Lib.hid (fun W (h : Below wA.heap.size wA W) => areRooms_any F r n W (hFA.on h) ((hr.on hb).on h) ((hn.on hb).on h))
  have HL := Lib.hid hl0
  clear hA bx hFA hF hr hn CG hl0 hb0
  unfold PBool2
  show Calls _ _ #[.agg #[F.o.val, F.t.val], _, _] w _
  go_enter Try.func15, Try.ntmps15
  go_wp2_with fail
  rw [show w.alloc (Obj.cells #[F.o.val, F.t.val] 29) = wA from HA.out.symm]
  refine (show Calls _ _ _ _ _ from CG1.out).mono ?_
  rintro e W1 ⟨rfl, hb1⟩
  have hbw := hb.trans (hb1.mono hb.size)
  cases b with
  | false =>
    go_wp2
    go_ret2
    exact ⟨by rw [HL.out]; rfl, hbw⟩
  | true =>
    have y0 := (HBX.out.on hb1).c0
    have y1 := (HBX.out.on hb1).c1
    have CS1 := Lib.hid (CS.out W1 hb1)
    clear hb1
    go_wp2_with fail
    refine (show Calls _ _ _ _ _ from CS1.out).mono ?_
    rintro e W2 ⟨rfl, hb2⟩
    go_wp2
    go_ret2
    exact ⟨by rw [HL.out]; rfl, hbw.trans (hb2.mono hbw.size)⟩

theorem areNeeds_pair (F : Fld) (r n : Row) (_ : F.Small) (_ : r.l.length ≤ 1048576) (_ : n.l.length ≤ 1048576) : ∃ (v : Bool) (b : Bool),
    (∀ (G : Fld) (s t : Row) (W : World), G.At W → s.At W → t.At W → G.Like F → s.l = r.l → t.l = n.l → Calls Try.prog 12 #[G.val, .slice s.a s.l.length s.c, .slice t.a t.l.length t.c] W (PBool2 v b W)) ∧
    (∀ (G : Fld) (s t : Row) (W : World), G.At W → s.At W → t.At W → G.Like F → s.l = r.l → t.l = n.l → Calls Try.prog 15 #[G.val, .slice s.a s.l.length s.c, .slice t.a t.l.length t.c] W (PBool2 v b W)) :=
  ⟨F.good && needsB F r.l n.l, F.good, fun G s t W hG hs ht hl h1 h2 => specAreNeeds_any G s t W hG hs ht _ _ ⟨hl.good.symm, by rw [hl.good, needsB_like hl, h1, h2]⟩,
    fun G s t W hG hs ht hl h1 h2 => implAreNeeds_any G s t W hG hs ht _ _ ⟨hl.good.symm, by rw [hl.good, needsB_like hl, h1, h2]⟩⟩
end Go.Proofs.Ytehmjmknegnojaa
