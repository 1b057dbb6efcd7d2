/- Both sides of LineField answer alike. Condition: the lists read as such. -/
import Derived.Test.YtfgedolngcdjpaaLineSpec
import Derived.Test.YtfgedolngcdjpaaLineLaid
import Derived.Test.YtfgedolngcdjpaaScaleImpl
import Derived.Test.YtfgedolngcdjpaaHeldF
import Derived.Test.YtfgedolngcdjpaaPost
namespace Go.Proofs.Ytfgedolngcdjpaa
open Go.RowKit

theorem heldFld_law (F : Fld) (k q : Nat) (w : World) (lo hi : Nat) (hF : F.Marked lo hi k w) (hs : F.Small) (hk : k ≤ 3145728) (hq : q = k + F.o.l.length + tot F.t.con) :
    Calls Try.prog 24 #[.agg #[.slice F.o.a F.o.l.length F.o.c, .slice F.t.a F.t.R.length F.t.c], .int .i64 k] w fun e w' => e = .returned (.int .i64 (q : Int)) ∧ Below w.heap.size w w' := by
  subst hq
  exact heldFld_any F k w lo hi hF hs hk


theorem tot_at_most : ∀ (d : List (List Int)) (n : Nat), (∀ l ∈ d, l.length ≤ n) → tot d ≤ n * d.length
  | [], _, _ => by simp [tot]
  | l :: d, n, h => by
    have h1 := h l (List.mem_cons_self ..)
    have h2 := tot_at_most d n fun x hx => h x (List.mem_cons_of_mem _ hx)
    have e : tot (l :: d) = l.length + tot d := by simp [tot]
    rw [e, List.length_cons, Nat.mul_succ]
    omega
/-- What LineField answers. -/
def lineK (s c : List Int) : Fld := mkF (List.replicate s.length 0) (lineD s c)
def LineIs (s c : List Int) (K : Fld) (b : Bool) : Prop := (lineB s c = false ∧ K = zeroF ∧ b = false) ∨ (lineB s c = true ∧ K = lineK s c ∧ b = true)
theorem line_some (s c : List Int) : ∃ (K : Fld) (b : Bool), LineIs s c K b ∧ K.Small := by
  cases h : lineB s c with
  | false => exact ⟨_, _, .inl ⟨h, rfl, rfl⟩, by unfold Fld.Small; decide⟩
  | true =>
    refine ⟨_, _, .inr ⟨h, rfl, rfl⟩, ?_⟩
    obtain ⟨⟨h1, h2, h3⟩, _, _⟩ := line_parts h
    have hc : (lineK s c).t.con = lineD s c := mkF_con _ _
    have ht : tot (lineK s c).t.con ≤ 7 * (lineK s c).t.con.length := tot_at_most _ 7 (fun l hl => by
      rw [hc] at hl
      unfold lineD at hl
      obtain ⟨x, _, rfl⟩ := List.mem_map.1 hl
      rw [distL_len]; exact h2)
    have ho : (lineK s c).o.l.length = s.length := List.length_replicate ..
    have hl : (lineK s c).t.con.length = c.length := by rw [hc, lineD_len]
    unfold Fld.Small
    have := con_length (lineK s c).t
    omega

set_option maxRecDepth 16000 in
set_option maxHeartbeats 2000000 in
theorem implLine_any (s c : Row) (w : World) (hs : s.At w) (hc : c.At w) (K : Fld) (b : Bool) (hv : LineIs s.l c.l K b) :
    Calls Try.prog 21 #[.slice s.a s.l.length s.c, .slice c.a c.l.length c.c] w (PFld K b w) := by
  obtain ⟨wA, hA⟩ : ∃ u, u = (w.alloc (Obj.cells #[.slice none 0 0, .slice none 0 0] 37)).alloc (Obj.cells #[.slice s.a s.l.length s.c, .slice c.a c.l.length c.c] 49) := ⟨_, rfl⟩
  have hbA : Below w.heap.size w wA := by rw [hA]; exact ((Below.refl _ _).alloc (Nat.le_refl _) _).alloc (by rw [size_alloc]; omega) _
  have hsA : wA.heap.size = w.heap.size + 1 + 1 := by rw [hA, size_alloc, size_alloc]
  have b0 : Box2 wA w.heap.size (.slice none 0 0) (.slice none 0 0) 37 := by rw [hA]; exact (Box2.made w _ _ _).later _
  have b1 : Box2 wA (w.heap.size + 1) (.slice s.a s.l.length s.c) (.slice c.a c.l.length c.c) 49 := by
    rw [hA]
    have := Box2.made (w.alloc (Obj.cells #[.slice none 0 0, .slice none 0 0] 37)) (.slice s.a s.l.length s.c) (.slice c.a c.l.length c.c) 49
    rw [size_alloc] at this; exact this
  have CT := lineValid_any s c wA (hs.on hbA) (hc.on hbA)
  have HSA := Lib.hid (hs.on hbA)
  have HCA := Lib.hid (hc.on hbA)
  have HA := Lib.hid hA
  have HB0 := Lib.hid b0
  have HB1 := Lib.hid b1
  have HS := Lib.hid hsA
  have x0 := b1.c0
  have x1 := b1.c1
  rw [hA] at x0 x1
  have HV := Lib.hid hv
  obtain ⟨g, hg⟩ : ∃ g, g = lineB s.l c.l := ⟨_, rfl⟩
  rw [← hg] at CT
  have CT1 := Lib.hid CT
  have HG := Lib.hid hg
  have hwA := hbA.size
  clear hs hc hA b0 b1 hsA hv hg CT
  go_enter Try.func21, Try.ntmps21
  go_wp2_with fail
  rw [← HA.out]
  refine (show Calls _ _ _ _ _ from CT1.out).mono ?_
  rintro e W1 ⟨rfl, hb1⟩
  clear x0 x1
  have HBW := Lib.hid hb1
  have hW1 := hb1.size
  cases g with
  | false =>
    obtain ⟨rfl, rfl⟩ : K = zeroF ∧ b = false := by
      rcases HV.out with ⟨_, h⟩ | ⟨h, _⟩
      · exact h
      · rw [← HG.out] at h; cases h
    have b2 := HB0.out.on hb1
    have B2 := Lib.hid b2
    have y20 := b2.c0
    have y21 := b2.c1
    have f20 := b2.fr 0
    have f21 := b2.fr 1
    clear b2 hb1
    go_wp2
    obtain ⟨wF, hF⟩ : ∃ wF, wF = (W1.setCell ⟨w.heap.size, 0, none⟩ (.slice none 0 0)).setCell ⟨w.heap.size, 1, none⟩ (.slice none 0 0) := ⟨_, rfl⟩
    rw [← hF]
    have bF : Box2 wF w.heap.size (.slice none 0 0) (.slice none 0 0) 37 := by rw [hF]; exact (B2.out.set0 _).set1 _
    have tF : Touch w.heap.size (w.heap.size + 1) W1 wF := by
      rw [hF]; exact ((Touch.refl _ _ W1).set (by omega) (by omega) _ _).set (by omega) (by omega) _ _
    have r0 := bF.c0
    have r1 := bF.c1
    clear hF y20 y21 f20 f21
    refine bodyPost_ret (v := .tuple #[.agg #[.slice none 0 0, .slice none 0 0], .bool false]) (by simp [results, Try.results21, go_sem, r0, r1]) rfl ?_
    exact zero_end ((hbA.trans (HBW.out.mono hwA)).trans (tF.below (by omega) (by omega)))
  | true =>
    obtain ⟨rfl, rfl⟩ : K = lineK s.l c.l ∧ b = true := by
      rcases HV.out with ⟨h, _⟩ | ⟨_, h⟩
      · rw [← HG.out] at h; cases h
      · exact h
    have x0 := (HB1.out.on hb1).c0
    have x1 := (HB1.out.on hb1).c1
    have CF := Lib.hid (lineField_made s c W1 (HSA.out.on hb1) (HCA.out.on hb1) HG.out.symm)
    clear hb1
    go_wp2_with fail
    refine (show Calls _ _ _ W1 (fun e w' => ∃ J : Fld, e = .returned (.agg #[.slice J.o.a J.o.l.length J.o.c, .slice J.t.a J.t.R.length J.t.c]) ∧ J.o.l = List.replicate s.l.length 0 ∧ J.t.con = lineD s.l c.l ∧ J.Own 3 w' ∧ J.In W1.heap.size w'.heap.size w' ∧ Below W1.heap.size W1 w') from CF.out).mono ?_
    rintro e W6 ⟨J, rfl, hJl, hJc, hJO, hJI, hb6⟩
    clear x0 x1
    have HB6 := Lib.hid (HBW.out.trans (hb6.mono hW1))
    have b6 := HB0.out.on HB6.out
    have y20 := b6.c0
    have y21 := b6.c1
    have f20 := b6.fr 0
    have f21 := b6.fr 1
    have BB6 := Lib.hid b6
    have HLL : Hid (J.Like (lineK s.l c.l)) := Lib.hid ⟨hJl, by rw [hJc]; exact (mkF_con _ _).symm⟩
    have HJO := Lib.hid hJO
    have HJI := Lib.hid hJI
    have hsz6 := hb6.size
    clear hJl hJc hJO hJI hb6 b6
    go_wp2
    obtain ⟨wF, hF⟩ : ∃ wF, wF = (W6.setCell ⟨w.heap.size, 0, none⟩ (.slice J.o.a J.o.l.length J.o.c)).setCell ⟨w.heap.size, 1, none⟩ (.slice J.t.a J.t.R.length J.t.c) := ⟨_, rfl⟩
    rw [← hF]
    have bF : Box2 wF w.heap.size (.slice J.o.a J.o.l.length J.o.c) (.slice J.t.a J.t.R.length J.t.c) 37 := by rw [hF]; exact (BB6.out.set0 _).set1 _
    have tG : Touch w.heap.size (w.heap.size + 1) W6 wF := by
      rw [hF]
      exact ((Touch.refl _ _ W6).set (by omega) (by omega) _ _).set (by omega) (by omega) _ _
    have r0 := bF.c0
    have r1 := bF.c1
    clear hF y20 y21 f20 f21
    refine bodyPost_ret (v := .tuple #[.agg #[(.slice J.o.a J.o.l.length J.o.c), (.slice J.t.a J.t.R.length J.t.c)], .bool true]) (by simp [results, Try.results21, go_sem, r0, r1]) rfl ?_
    have hsA := HS.out
    have hbw := hbA.trans (HB6.out.mono hwA)
    exact ⟨J, rfl, HLL.out, HJO.out.touch HJI.out tG (.inr (by omega)), (HJI.out.touch tG (.inr (by omega))).wide (by omega) (by have := tG.size; omega), hbw.trans (tG.below (by omega) (by have := hbw.size; omega))⟩

set_option maxRecDepth 16000 in
set_option maxHeartbeats 2000000 in
theorem specLine_any (s c : Row) (w : World) (hs : s.At w) (hc : c.At w) (hcm : c.l.length ≤ 1048576) (K : Fld) (b : Bool) (hv : LineIs s.l c.l K b) :
    Calls Try.prog 20 #[.slice s.a s.l.length s.c, .slice c.a c.l.length c.c] w (PFld K b w) := by
  obtain ⟨wA, hA⟩ : ∃ u, u = w.alloc (Obj.cells #[.slice none 0 0, .slice none 0 0] 37) := ⟨_, rfl⟩
  have hbA : Below w.heap.size w wA := by rw [hA]; exact below_alloc _ _
  have hsA : wA.heap.size = w.heap.size + 1 := by rw [hA, size_alloc]
  have b0 : Box2 wA w.heap.size (.slice none 0 0) (.slice none 0 0) 37 := by rw [hA]; exact Box2.made w _ _ _
  have CT := l4Line_any s c wA (hs.on hbA) (hc.on hbA) hcm
  have HSA := Lib.hid (hs.on hbA)
  have HCA := Lib.hid (hc.on hbA)
  have HA := Lib.hid hA
  have HB0 := Lib.hid b0
  have HS := Lib.hid hsA
  have HV := Lib.hid hv
  obtain ⟨g, hg⟩ : ∃ g, g = lineB s.l c.l := ⟨_, rfl⟩
  rw [← hg] at CT
  have CT1 := Lib.hid CT
  have HG := Lib.hid hg
  have hwA := hbA.size
  clear hs hc hA b0 hsA hv hg CT
  go_enter Try.func20, Try.ntmps20
  go_wp2_with fail
  rw [← HA.out]
  refine (show Calls _ _ _ _ _ from CT1.out).mono ?_
  rintro e W1 ⟨rfl, hd1⟩
  have hb1 := hd1.below
  have HBW := Lib.hid hb1
  have hW1 := hb1.size
  clear hd1
  cases g with
  | false =>
    obtain ⟨rfl, rfl⟩ : K = zeroF ∧ b = false := by
      rcases HV.out with ⟨_, h⟩ | ⟨h, _⟩
      · exact h
      · rw [← HG.out] at h; cases h
    have b2 := HB0.out.on hb1
    have B2 := Lib.hid b2
    have y20 := b2.c0
    have y21 := b2.c1
    have f20 := b2.fr 0
    have f21 := b2.fr 1
    clear b2 hb1
    go_wp2
    obtain ⟨wF, hF⟩ : ∃ wF, wF = (W1.setCell ⟨w.heap.size, 0, none⟩ (.slice none 0 0)).setCell ⟨w.heap.size, 1, none⟩ (.slice none 0 0) := ⟨_, rfl⟩
    rw [← hF]
    have bF : Box2 wF w.heap.size (.slice none 0 0) (.slice none 0 0) 37 := by rw [hF]; exact (B2.out.set0 _).set1 _
    have tF : Touch w.heap.size (w.heap.size + 1) W1 wF := by
      rw [hF]; exact ((Touch.refl _ _ W1).set (by omega) (by omega) _ _).set (by omega) (by omega) _ _
    have r0 := bF.c0
    have r1 := bF.c1
    clear hF y20 y21 f20 f21
    refine bodyPost_ret (v := .tuple #[.agg #[.slice none 0 0, .slice none 0 0], .bool false]) (by simp [results, Try.results20, go_sem, r0, r1]) rfl ?_
    exact zero_end ((hbA.trans (HBW.out.mono hwA)).trans (tF.below (by omega) (by omega)))
  | true =>
    obtain ⟨rfl, rfl⟩ : K = lineK s.l c.l ∧ b = true := by
      rcases HV.out with ⟨h, _⟩ | ⟨_, h⟩
      · rw [← HG.out] at h; cases h
      · exact h
    have CF := Lib.hid (l4Laid_any s c W1 (HSA.out.on hb1) (HCA.out.on hb1) HG.out.symm)
    clear hb1
    go_wp2_with fail
    refine (show Calls _ _ _ W1 (fun e w' => ∃ J : Fld, e = .returned (.agg #[.slice J.o.a J.o.l.length J.o.c, .slice J.t.a J.t.R.length J.t.c]) ∧ J.o.l = List.replicate s.l.length 0 ∧ J.t.con = lineD s.l c.l ∧ J.Own 3 w' ∧ J.In W1.heap.size w'.heap.size w' ∧ Below W1.heap.size W1 w') from CF.out).mono ?_
    rintro e W6 ⟨J, rfl, hJl, hJc, hJO, hJI, hb6⟩
    have HB6 := Lib.hid (HBW.out.trans (hb6.mono hW1))
    have b6 := HB0.out.on HB6.out
    have y20 := b6.c0
    have y21 := b6.c1
    have f20 := b6.fr 0
    have f21 := b6.fr 1
    have BB6 := Lib.hid b6
    have HLL : Hid (J.Like (lineK s.l c.l)) := Lib.hid ⟨hJl, by rw [hJc]; exact (mkF_con _ _).symm⟩
    have HJO := Lib.hid hJO
    have HJI := Lib.hid hJI
    have hsz6 := hb6.size
    clear hJl hJc hJO hJI hb6 b6
    go_wp2
    obtain ⟨wF, hF⟩ : ∃ wF, wF = (W6.setCell ⟨w.heap.size, 0, none⟩ (.slice J.o.a J.o.l.length J.o.c)).setCell ⟨w.heap.size, 1, none⟩ (.slice J.t.a J.t.R.length J.t.c) := ⟨_, rfl⟩
    rw [← hF]
    have bF : Box2 wF w.heap.size (.slice J.o.a J.o.l.length J.o.c) (.slice J.t.a J.t.R.length J.t.c) 37 := by rw [hF]; exact (BB6.out.set0 _).set1 _
    have tG : Touch w.heap.size (w.heap.size + 1) W6 wF := by
      rw [hF]
      exact ((Touch.refl _ _ W6).set (by omega) (by omega) _ _).set (by omega) (by omega) _ _
    have r0 := bF.c0
    have r1 := bF.c1
    clear hF y20 y21 f20 f21
    refine bodyPost_ret (v := .tuple #[.agg #[(.slice J.o.a J.o.l.length J.o.c), (.slice J.t.a J.t.R.length J.t.c)], .bool true]) (by simp [results, Try.results20, go_sem, r0, r1]) rfl ?_
    have hsA := HS.out
    have hbw := hbA.trans (HB6.out.mono hwA)
    exact ⟨J, rfl, HLL.out, HJO.out.touch HJI.out tG (.inr (by omega)), (HJI.out.touch tG (.inr (by omega))).wide (by omega) (by have := tG.size; omega), hbw.trans (tG.below (by omega) (by have := hbw.size; omega))⟩

theorem lineField_pair (s c : Row) (_ : s.l.length ≤ 1048576) (hcm : c.l.length ≤ 1048576) : ∃ (K : Fld) (b : Bool) (_ : K.Small),
    (∀ (t d : Row) (W : World), t.At W → d.At W → t.l = s.l → d.l = c.l → Calls Try.prog 20 #[.slice t.a t.l.length t.c, .slice d.a d.l.length d.c] W (PFld K b W)) ∧
    (∀ (t d : Row) (W : World), t.At W → d.At W → t.l = s.l → d.l = c.l → Calls Try.prog 21 #[.slice t.a t.l.length t.c, .slice d.a d.l.length d.c] W (PFld K b W)) := by
  obtain ⟨K, b, h, hs⟩ := line_some s.l c.l
  exact ⟨K, b, hs, fun t d W ht hd h1 h2 => specLine_any t d W ht hd (by rw [h2]; exact hcm) K b (by rw [h1, h2]; exact h), fun t d W ht hd h1 h2 => implLine_any t d W ht hd K b (by rw [h1, h2]; exact h)⟩
end Go.Proofs.Ytfgedolngcdjpaa
