/- The contract of the program's ScaleField. Condition: the Field reads as such. -/
import Derived.Test.YtoejfeloademnaaWrite
namespace Go.Proofs.Ytoejfeloademnaa
open Go.RowKit

def mkF (o : List Int) (d : List (List Int)) : Fld := ⟨⟨none, 0, o⟩, ⟨none, 0, d.map fun l => ⟨none, 0, l⟩⟩⟩
theorem mkF_con (o : List Int) (d : List (List Int)) : (mkF o d).t.con = d := by
  show (d.map fun l => (⟨none, 0, l⟩ : Row)).map Row.l = d
  rw [List.map_map]; exact List.map_id d
def timesF (F : Fld) (k : Int) : Fld := mkF (F.o.l.map fun x => x * k) (F.t.con.map (List.map fun x => x * k))
def zeroF : Fld := mkF [] []
/-- What ScaleField answers. -/
def ScaleIs (F : Fld) (k : Int) (K : Fld) (b : Bool) : Prop :=
  ((F.good = false ∨ k < 1) ∧ K = zeroF ∧ b = false) ∨ (F.good = true ∧ 1 ≤ k ∧ (timesF F (min k 100)).good = false ∧ K = zeroF ∧ b = false) ∨
  (F.good = true ∧ 1 ≤ k ∧ (timesF F (min k 100)).good = true ∧ K = timesF F (min k 100) ∧ b = true)
theorem zero_end {w w' : World} (hb : Below w.heap.size w w') : PFld zeroF false w (.returned (.tuple #[.agg #[.slice none 0 0, .slice none 0 0], .bool false])) w' :=
  ⟨⟨⟨none, 0, []⟩, ⟨none, 0, []⟩⟩, rfl, ⟨rfl, rfl⟩, ⟨⟨by simp [Row.Own], List.pairwise_singleton _ _⟩, by intro r hr x y h1 h2; exact absurd rfl h2⟩, ⟨⟨by simp [iv], by decide, .inl rfl⟩, ⟨⟨by simp [tv], by decide, .inl rfl⟩, by simp⟩⟩, hb⟩
theorem like_good {G K : Fld} (h1 : G.o.l = K.o.l) (h2 : G.t.con = K.t.con) : G.good = K.good := Fld.Like.good ⟨h1, h2⟩

set_option maxRecDepth 16000 in
set_option maxHeartbeats 1500000 in
theorem implScale_any (F : Fld) (k : Int) (w : World) (hF : F.At w) (K : Fld) (b : Bool) (hv : ScaleIs F k K b) :
    Calls Try.prog 31 #[F.val, .int .i64 k] w (PFld K b w) := by
  obtain ⟨wA, hA⟩ : ∃ wA, wA = ((w.alloc (Obj.cells #[F.o.val, F.t.val] 29)).alloc (Obj.cells #[.int .i64 k] 3)).alloc (Obj.cells #[.slice none 0 0, .slice none 0 0] 29) := ⟨_, rfl⟩
  have hbA : Below w.heap.size w wA := by rw [hA]; exact (((Below.refl _ _).alloc (Nat.le_refl _) _).alloc (by rw [size_alloc]; omega) _).alloc (by rw [size_alloc, size_alloc]; omega) _
  have hsA : wA.heap.size = w.heap.size + 3 := by rw [hA, size_alloc, size_alloc, size_alloc]
  have b0 : Box2 wA w.heap.size F.o.val F.t.val 29 := by rw [hA]; exact ((Box2.made w _ _ _).later _).later _
  have hblk : wA.heap[w.heap.size + 1]? = some (.cells #[.int .i64 k] 3) := by
    rw [hA]
    have h1 : (w.alloc (Obj.cells #[F.o.val, F.t.val] 29)).heap.size = w.heap.size + 1 := size_alloc _ _
    rw [Below.heap_alloc _ _ _ (by rw [size_alloc, h1]; omega), ← h1]
    exact heap_alloc_new _ _
  have b2 : Box2 wA (w.heap.size + 1 + 1) (.slice none 0 0) (.slice none 0 0) 29 := by
    rw [hA]
    have := Box2.made ((w.alloc (Obj.cells #[F.o.val, F.t.val] 29)).alloc (Obj.cells #[.int .i64 k] 3)) (.slice none 0 0) (.slice none 0 0) 29
    rw [size_alloc, size_alloc] at this; exact this
  have hFI := hF.in.on hbA
  have CT := Lib.hid (implIsField_any F wA hFI.at)
  have HFI := Lib.hid hFI
  have HA := Lib.hid hA
  have B0 := Lib.hid b0
  have B2 := Lib.hid b2
  have HBK := Lib.hid hblk
  have HS := Lib.hid hsA
  have z0 := b0.c0
  have z1 := b0.c1
  rw [hA] at z0 z1
  have HV := Lib.hid hv
  clear hF hA b0 b2 hFI hsA hblk hv
  show Calls _ _ #[.agg #[F.o.val, F.t.val], _] w _
  go_enter Try.func31, Try.ntmps31
  go_wp2_with fail
  rw [← HA.out]
  refine (show Calls _ _ _ _ _ from CT.out).mono ?_
  rintro e W1 ⟨rfl, hb1⟩
  clear z0 z1
  have hsz1 := hb1.size
  have hS : wA.heap.size = w.heap.size + 3 := HS.out
  have HB1 := Lib.hid hb1
  have bb2 := B2.out.on hb1
  have y20 := bb2.c0
  have y21 := bb2.c1
  have f20 := bb2.fr 0
  have f21 := bb2.fr 1
  have ZE : Hid (∀ (wF : World), wF = (W1.setCell ⟨w.heap.size + 1 + 1, 0, none⟩ (.slice none 0 0)).setCell ⟨w.heap.size + 1 + 1, 1, none⟩ (.slice none 0 0) → Box2 wF (w.heap.size + 1 + 1) (.slice none 0 0) (.slice none 0 0) 29 ∧ Below w.heap.size w wF) := Lib.hid fun wF hF => by
    subst hF
    refine ⟨(bb2.set0 _).set1 _, ?_⟩
    exact ((hbA.trans (hb1.mono hbA.size)).setCell (p := ⟨w.heap.size + 1 + 1, 0, none⟩) (by show w.heap.size ≤ w.heap.size + 1 + 1; omega) _).setCell (p := ⟨w.heap.size + 1 + 1, 1, none⟩) (by show w.heap.size ≤ w.heap.size + 1 + 1; omega) _
  have hkb : W1.heap[w.heap.size + 1]? = some (.cells #[.int .i64 k] 3) := (hb1.block _ (by rw [hS]; omega)).trans HBK.out
  have hck : W1.cell? ⟨w.heap.size + 1, 0, none⟩ = some (.int .i64 k) := by unfold World.cell?; simp only [hkb]; rfl
  have hfk : W1.frozen? ⟨w.heap.size + 1, 0, none⟩ = false := by unfold World.frozen?; simp only [hkb]; simp
  obtain ⟨g, hg⟩ : ∃ g, g = F.good := ⟨_, rfl⟩
  rw [← hg]
  have HG := Lib.hid hg
  have HKB := Lib.hid hkb
  clear hg bb2 hb1 hkb
  cases g with
  | false =>
    have HO : Hid (K = zeroF ∧ b = false) := Lib.hid (by
      rcases HV.out with ⟨_, h1, h2⟩ | ⟨h, _⟩ | ⟨h, _⟩
      · exact ⟨h1, h2⟩
      · rw [← HG.out] at h; cases h
      · rw [← HG.out] at h; cases h)
    clear hck hfk
    go_wp2
    obtain ⟨wF, hF⟩ : ∃ wF, wF = (W1.setCell ⟨w.heap.size + 1 + 1, 0, none⟩ (.slice none 0 0)).setCell ⟨w.heap.size + 1 + 1, 1, none⟩ (.slice none 0 0) := ⟨_, rfl⟩
    rw [← hF]
    obtain ⟨bF, hbF⟩ := ZE.out wF hF
    have r0 := bF.c0
    have r1 := bF.c1
    clear hF y20 y21 f20 f21
    refine bodyPost_ret (v := .tuple #[.agg #[.slice none 0 0, .slice none 0 0], .bool false]) (by simp [results, Try.results31, go_sem, r0, r1]) rfl ?_
    rw [HO.out.1, HO.out.2]
    exact zero_end hbF
  | true =>
    by_cases hk1 : k < 1
    · have HO : Hid (K = zeroF ∧ b = false) := Lib.hid (by
        rcases HV.out with ⟨_, h1, h2⟩ | ⟨_, h, _⟩ | ⟨_, h, _⟩
        · exact ⟨h1, h2⟩
        · omega
        · omega)
      go_wp2
      obtain ⟨wF, hF⟩ : ∃ wF, wF = (W1.setCell ⟨w.heap.size + 1 + 1, 0, none⟩ (.slice none 0 0)).setCell ⟨w.heap.size + 1 + 1, 1, none⟩ (.slice none 0 0) := ⟨_, rfl⟩
      rw [← hF]
      obtain ⟨bF, hbF⟩ := ZE.out wF hF
      have r0 := bF.c0
      have r1 := bF.c1
      clear hF y20 y21 f20 f21
      refine bodyPost_ret (v := .tuple #[.agg #[.slice none 0 0, .slice none 0 0], .bool false]) (by simp [results, Try.results31, go_sem, r0, r1]) rfl ?_
      rw [HO.out.1, HO.out.2]
      exact zero_end hbF
    · have x0 := (B0.out.on HB1.out).c0
      have x1 := (B0.out.on HB1.out).c1
      clear y20 y21 f20 f21
      have hk0 : 1 ≤ k := by omega
      by_cases hkl : k < 100
      · have HVB : Hid (1 ≤ (k : Int) ∧ (k : Int) ≤ 100 ∧ (k : Int) = min k 100) := Lib.hid (by omega)
        go_wp2_with fail
        obtain ⟨W2, hW2⟩ : ∃ u, u = W1.setCell ⟨w.heap.size + 1, 0, none⟩ (.int .i64 k) := ⟨_, rfl⟩
        rw [← hW2]
        have tF : Touch (w.heap.size + 1) (w.heap.size + 1 + 1) W1 W2 := by rw [hW2]; exact set_touch _ _ _ _
        have hF2 := (HFI.out.on HB1.out).touch tF (.inl (by omega))
        have bb0 : Box2 W2 w.heap.size F.o.val F.t.val 29 := by rw [hW2]; exact (B0.out.on HB1.out).other _ _ (by simp)
        have bb2 : Box2 W2 (w.heap.size + 1 + 1) (.slice none 0 0) (.slice none 0 0) 29 := by rw [hW2]; exact (B2.out.on HB1.out).other _ _ (by simp)
        have hkb2 : W2.heap[w.heap.size + 1]? = some (.cells #[.int .i64 k] 3) := by
          rw [hW2]; unfold World.setCell; simp only [Array.getElem?_modify, HKB.out, Option.map_some, if_true]; rfl
        have hk2 : W2.cell? ⟨w.heap.size + 1, 0, none⟩ = some (.int .i64 k) := by unfold World.cell?; simp only [hkb2]; rfl
        have hbw2 : Below w.heap.size w W2 := (hbA.trans (HB1.out.mono hbA.size)).trans (tF.below (by omega) (by omega))
        have CM := Lib.hid (mapField_scale F (w.heap.size + 1) (fun x => x * k) W2 hF2.at HG.out.symm (fun x h0 h1 u hu => scale1_any x k (w.heap.size + 1) u ((hu.cell (p := ⟨w.heap.size + 1, 0, none⟩) (World.block_lt_of_cell? _ _ hk2)).trans hk2) h0 h1 (by have := HVB.out; omega) (by have := HVB.out; omega)))
        have BB2 := Lib.hid bb2
        have HBW2 := Lib.hid hbw2
        have hsz2 : w.heap.size + 3 ≤ W2.heap.size := by have := tF.size; omega
        clear hW2 tF hF2 bb2 hkb2 hk2 hbw2 hck hfk x0 x1 bb0
        refine (show Calls _ _ _ W2 (fun e w' => ∃ G : Fld, e = .returned (.agg #[.slice G.o.a G.o.l.length G.o.c, .slice G.t.a G.t.R.length G.t.c]) ∧ G.o.l = F.o.l.map (fun x => x * k) ∧ G.t.con = F.t.con.map (List.map fun x => x * k) ∧ G.Own 3 w' ∧ G.In W2.heap.size w'.heap.size w' ∧ Below W2.heap.size W2 w') from CM.out).mono ?_
        rintro e W3 ⟨G, rfl, hGo, hGc, hGO, hGI, hb3⟩
        obtain ⟨W4, hW4⟩ : ∃ u, u = W3.alloc (.cells #[(.slice G.o.a G.o.l.length G.o.c), (.slice G.t.a G.t.R.length G.t.c)] 29) := ⟨_, rfl⟩
        have hb4 : Below W3.heap.size W3 W4 := by rw [hW4]; exact below_alloc _ _
        have b4 : Box2 W4 W3.heap.size (.slice G.o.a G.o.l.length G.o.c) (.slice G.t.a G.t.R.length G.t.c) 29 := by rw [hW4]; exact Box2.made _ _ _ _
        have HW4 := Lib.hid hW4
        have CT2 := Lib.hid (implIsField_any G W4 (hGI.on hb4).at)
        have HG4 := Lib.hid (hGI.on hb4)
        have HO4 := Lib.hid (hGO.on hb4)
        have hb34 := hb3.trans (hb4.mono hb3.size)
        have BB4 := Lib.hid (BB2.out.on hb34)
        have B4 := Lib.hid b4
        have HB4 := Lib.hid (HBW2.out.trans (hb34.mono HBW2.out.size))
        have hsz3 := hb3.size
        have hsz34 := hb4.size
        have q0 := b4.c0
        have q1 := b4.c1
        rw [hW4] at q0 q1
        have HLK : Hid (G.Like (timesF F k)) := Lib.hid ⟨hGo, by rw [hGc]; exact (mkF_con _ _).symm⟩
        obtain ⟨gg, hgg⟩ : ∃ g, g = G.good := ⟨_, rfl⟩
        rw [← hgg] at CT2
        have HGG := Lib.hid hgg
        clear hGo hGc hGO hGI hb3 hb4 b4 hW4 hb34 hgg
        go_wp2_with fail
        rw [← HW4.out]
        refine (show Calls _ _ _ _ _ from CT2.out).mono ?_
        rintro e W5 ⟨rfl, hb5⟩
        clear q0 q1
        have b5 := BB4.out.on hb5
        have y20 := b5.c0
        have y21 := b5.c1
        have f20 := b5.fr 0
        have f21 := b5.fr 1
        have BB5 := Lib.hid b5
        have HB5 := Lib.hid (HB4.out.trans (hb5.mono HB4.out.size))
        have p0 := (B4.out.on hb5).c0
        have p1 := (B4.out.on hb5).c1
        have HG5 := Lib.hid (HG4.out.on hb5)
        have HO5 := Lib.hid (HO4.out.on hb5)
        have hsz5 := hb5.size
        clear b5 hb5
        cases gg with
        | false =>
          have HO : Hid (K = zeroF ∧ b = false) := Lib.hid (by
            have hgd : (timesF F (min k 100)).good = false := by rw [← HVB.out.2.2, ← HLK.out.good, ← HGG.out]
            rcases HV.out with ⟨_, h1, h2⟩ | ⟨_, _, _, h1, h2⟩ | ⟨_, _, h, _⟩
            · exact ⟨h1, h2⟩
            · exact ⟨h1, h2⟩
            · rw [hgd] at h; cases h)
          clear p0 p1
          go_wp2
          obtain ⟨wF, hF⟩ : ∃ wF, wF = (W5.setCell ⟨w.heap.size + 1 + 1, 0, none⟩ (.slice none 0 0)).setCell ⟨w.heap.size + 1 + 1, 1, none⟩ (.slice none 0 0) := ⟨_, rfl⟩
          rw [← hF]
          have bF : Box2 wF (w.heap.size + 1 + 1) (.slice none 0 0) (.slice none 0 0) 29 := by rw [hF]; exact (BB5.out.set0 _).set1 _
          have hbF : Below w.heap.size w wF := by
            rw [hF]
            exact (HB5.out.setCell (p := ⟨w.heap.size + 1 + 1, 0, none⟩) (by show w.heap.size ≤ w.heap.size + 1 + 1; omega) _).setCell (p := ⟨w.heap.size + 1 + 1, 1, none⟩) (by show w.heap.size ≤ w.heap.size + 1 + 1; omega) _
          have r0 := bF.c0
          have r1 := bF.c1
          clear hF y20 y21 f20 f21
          refine bodyPost_ret (v := .tuple #[.agg #[.slice none 0 0, .slice none 0 0], .bool false]) (by simp [results, Try.results31, go_sem, r0, r1]) rfl ?_
          rw [HO.out.1, HO.out.2]
          exact zero_end hbF
        | true =>
          have HO : Hid (K = timesF F k ∧ b = true) := Lib.hid (by
            have hgd : (timesF F (min k 100)).good = true := by rw [← HVB.out.2.2, ← HLK.out.good, ← HGG.out]
            rw [HVB.out.2.2]
            rcases HV.out with ⟨h | h, _⟩ | ⟨_, _, h, _⟩ | ⟨_, _, _, h1, h2⟩
            · rw [← HG.out] at h; cases h
            · omega
            · rw [hgd] at h; cases h
            · exact ⟨h1, h2⟩)
          go_wp2
          obtain ⟨wF, hF⟩ : ∃ wF, wF = (W5.setCell ⟨w.heap.size + 1 + 1, 0, none⟩ (.slice G.o.a G.o.l.length G.o.c)).setCell ⟨w.heap.size + 1 + 1, 1, none⟩ (.slice G.t.a G.t.R.length G.t.c) := ⟨_, rfl⟩
          rw [← hF]
          have bF : Box2 wF (w.heap.size + 1 + 1) (.slice G.o.a G.o.l.length G.o.c) (.slice G.t.a G.t.R.length G.t.c) 29 := by rw [hF]; exact (BB5.out.set0 _).set1 _
          have tG : Touch (w.heap.size + 1 + 1) (w.heap.size + 1 + 1 + 1) W5 wF := by
            rw [hF]
            exact ((Touch.refl _ _ W5).set (by omega) (by omega) _ _).set (by omega) (by omega) _ _
          have r0 := bF.c0
          have r1 := bF.c1
          clear hF y20 y21 f20 f21 p0 p1
          refine bodyPost_ret (v := .tuple #[.agg #[(.slice G.o.a G.o.l.length G.o.c), (.slice G.t.a G.t.R.length G.t.c)], .bool true]) (by simp [results, Try.results31, go_sem, r0, r1]) rfl ?_
          rw [HO.out.1, HO.out.2]
          exact ⟨G, rfl, HLK.out, HO5.out.touch HG5.out tG (.inr (by omega)), (HG5.out.touch tG (.inr (by omega))).wide (by omega) (by have := tG.size; omega), HB5.out.trans (tG.below (by omega) (by have := HB5.out.size; omega))⟩
      · by_cases hke : 100 < k
        · have HVB : Hid (1 ≤ (100 : Int) ∧ (100 : Int) ≤ 100 ∧ (100 : Int) = min k 100) := Lib.hid (by omega)
          go_wp2_with fail
          obtain ⟨W2, hW2⟩ : ∃ u, u = W1.setCell ⟨w.heap.size + 1, 0, none⟩ (.int .i64 100) := ⟨_, rfl⟩
          rw [← hW2]
          have tF : Touch (w.heap.size + 1) (w.heap.size + 1 + 1) W1 W2 := by rw [hW2]; exact set_touch _ _ _ _
          have hF2 := (HFI.out.on HB1.out).touch tF (.inl (by omega))
          have bb0 : Box2 W2 w.heap.size F.o.val F.t.val 29 := by rw [hW2]; exact (B0.out.on HB1.out).other _ _ (by simp)
          have bb2 : Box2 W2 (w.heap.size + 1 + 1) (.slice none 0 0) (.slice none 0 0) 29 := by rw [hW2]; exact (B2.out.on HB1.out).other _ _ (by simp)
          have hkb2 : W2.heap[w.heap.size + 1]? = some (.cells #[.int .i64 100] 3) := by
            rw [hW2]; unfold World.setCell; simp only [Array.getElem?_modify, HKB.out, Option.map_some, if_true]; rfl
          have hk2 : W2.cell? ⟨w.heap.size + 1, 0, none⟩ = some (.int .i64 100) := by unfold World.cell?; simp only [hkb2]; rfl
          have hbw2 : Below w.heap.size w W2 := (hbA.trans (HB1.out.mono hbA.size)).trans (tF.below (by omega) (by omega))
          have CM := Lib.hid (mapField_scale F (w.heap.size + 1) (fun x => x * 100) W2 hF2.at HG.out.symm (fun x h0 h1 u hu => scale1_any x 100 (w.heap.size + 1) u ((hu.cell (p := ⟨w.heap.size + 1, 0, none⟩) (World.block_lt_of_cell? _ _ hk2)).trans hk2) h0 h1 (by have := HVB.out; omega) (by have := HVB.out; omega)))
          have BB2 := Lib.hid bb2
          have HBW2 := Lib.hid hbw2
          have hsz2 : w.heap.size + 3 ≤ W2.heap.size := by have := tF.size; omega
          clear hW2 tF hF2 bb2 hkb2 hk2 hbw2 hck hfk x0 x1 bb0
          refine (show Calls _ _ _ W2 (fun e w' => ∃ G : Fld, e = .returned (.agg #[.slice G.o.a G.o.l.length G.o.c, .slice G.t.a G.t.R.length G.t.c]) ∧ G.o.l = F.o.l.map (fun x => x * 100) ∧ G.t.con = F.t.con.map (List.map fun x => x * 100) ∧ G.Own 3 w' ∧ G.In W2.heap.size w'.heap.size w' ∧ Below W2.heap.size W2 w') from CM.out).mono ?_
          rintro e W3 ⟨G, rfl, hGo, hGc, hGO, hGI, hb3⟩
          obtain ⟨W4, hW4⟩ : ∃ u, u = W3.alloc (.cells #[(.slice G.o.a G.o.l.length G.o.c), (.slice G.t.a G.t.R.length G.t.c)] 29) := ⟨_, rfl⟩
          have hb4 : Below W3.heap.size W3 W4 := by rw [hW4]; exact below_alloc _ _
          have b4 : Box2 W4 W3.heap.size (.slice G.o.a G.o.l.length G.o.c) (.slice G.t.a G.t.R.length G.t.c) 29 := by rw [hW4]; exact Box2.made _ _ _ _
          have HW4 := Lib.hid hW4
          have CT2 := Lib.hid (implIsField_any G W4 (hGI.on hb4).at)
          have HG4 := Lib.hid (hGI.on hb4)
          have HO4 := Lib.hid (hGO.on hb4)
          have hb34 := hb3.trans (hb4.mono hb3.size)
          have BB4 := Lib.hid (BB2.out.on hb34)
          have B4 := Lib.hid b4
          have HB4 := Lib.hid (HBW2.out.trans (hb34.mono HBW2.out.size))
          have hsz3 := hb3.size
          have hsz34 := hb4.size
          have q0 := b4.c0
          have q1 := b4.c1
          rw [hW4] at q0 q1
          have HLK : Hid (G.Like (timesF F 100)) := Lib.hid ⟨hGo, by rw [hGc]; exact (mkF_con _ _).symm⟩
          obtain ⟨gg, hgg⟩ : ∃ g, g = G.good := ⟨_, rfl⟩
          rw [← hgg] at CT2
          have HGG := Lib.hid hgg
          clear hGo hGc hGO hGI hb3 hb4 b4 hW4 hb34 hgg
          go_wp2_with fail
          rw [← HW4.out]
          refine (show Calls _ _ _ _ _ from CT2.out).mono ?_
          rintro e W5 ⟨rfl, hb5⟩
          clear q0 q1
          have b5 := BB4.out.on hb5
          have y20 := b5.c0
          have y21 := b5.c1
          have f20 := b5.fr 0
          have f21 := b5.fr 1
          have BB5 := Lib.hid b5
          have HB5 := Lib.hid (HB4.out.trans (hb5.mono HB4.out.size))
          have p0 := (B4.out.on hb5).c0
          have p1 := (B4.out.on hb5).c1
          have HG5 := Lib.hid (HG4.out.on hb5)
          have HO5 := Lib.hid (HO4.out.on hb5)
          have hsz5 := hb5.size
          clear b5 hb5
          cases gg with
          | false =>
            have HO : Hid (K = zeroF ∧ b = false) := Lib.hid (by
              have hgd : (timesF F (min k 100)).good = false := by rw [← HVB.out.2.2, ← HLK.out.good, ← HGG.out]
              rcases HV.out with ⟨_, h1, h2⟩ | ⟨_, _, _, h1, h2⟩ | ⟨_, _, h, _⟩
              · exact ⟨h1, h2⟩
              · exact ⟨h1, h2⟩
              · rw [hgd] at h; cases h)
            clear p0 p1
            go_wp2
            obtain ⟨wF, hF⟩ : ∃ wF, wF = (W5.setCell ⟨w.heap.size + 1 + 1, 0, none⟩ (.slice none 0 0)).setCell ⟨w.heap.size + 1 + 1, 1, none⟩ (.slice none 0 0) := ⟨_, rfl⟩
            rw [← hF]
            have bF : Box2 wF (w.heap.size + 1 + 1) (.slice none 0 0) (.slice none 0 0) 29 := by rw [hF]; exact (BB5.out.set0 _).set1 _
            have hbF : Below w.heap.size w wF := by
              rw [hF]
              exact (HB5.out.setCell (p := ⟨w.heap.size + 1 + 1, 0, none⟩) (by show w.heap.size ≤ w.heap.size + 1 + 1; omega) _).setCell (p := ⟨w.heap.size + 1 + 1, 1, none⟩) (by show w.heap.size ≤ w.heap.size + 1 + 1; omega) _
            have r0 := bF.c0
            have r1 := bF.c1
            clear hF y20 y21 f20 f21
            refine bodyPost_ret (v := .tuple #[.agg #[.slice none 0 0, .slice none 0 0], .bool false]) (by simp [results, Try.results31, go_sem, r0, r1]) rfl ?_
            rw [HO.out.1, HO.out.2]
            exact zero_end hbF
          | true =>
            have HO : Hid (K = timesF F 100 ∧ b = true) := Lib.hid (by
              have hgd : (timesF F (min k 100)).good = true := by rw [← HVB.out.2.2, ← HLK.out.good, ← HGG.out]
              rw [HVB.out.2.2]
              rcases HV.out with ⟨h | h, _⟩ | ⟨_, _, h, _⟩ | ⟨_, _, _, h1, h2⟩
              · rw [← HG.out] at h; cases h
              · omega
              · rw [hgd] at h; cases h
              · exact ⟨h1, h2⟩)
            go_wp2
            obtain ⟨wF, hF⟩ : ∃ wF, wF = (W5.setCell ⟨w.heap.size + 1 + 1, 0, none⟩ (.slice G.o.a G.o.l.length G.o.c)).setCell ⟨w.heap.size + 1 + 1, 1, none⟩ (.slice G.t.a G.t.R.length G.t.c) := ⟨_, rfl⟩
            rw [← hF]
            have bF : Box2 wF (w.heap.size + 1 + 1) (.slice G.o.a G.o.l.length G.o.c) (.slice G.t.a G.t.R.length G.t.c) 29 := by rw [hF]; exact (BB5.out.set0 _).set1 _
            have tG : Touch (w.heap.size + 1 + 1) (w.heap.size + 1 + 1 + 1) W5 wF := by
              rw [hF]
              exact ((Touch.refl _ _ W5).set (by omega) (by omega) _ _).set (by omega) (by omega) _ _
            have r0 := bF.c0
            have r1 := bF.c1
            clear hF y20 y21 f20 f21 p0 p1
            refine bodyPost_ret (v := .tuple #[.agg #[(.slice G.o.a G.o.l.length G.o.c), (.slice G.t.a G.t.R.length G.t.c)], .bool true]) (by simp [results, Try.results31, go_sem, r0, r1]) rfl ?_
            rw [HO.out.1, HO.out.2]
            exact ⟨G, rfl, HLK.out, HO5.out.touch HG5.out tG (.inr (by omega)), (HG5.out.touch tG (.inr (by omega))).wide (by omega) (by have := tG.size; omega), HB5.out.trans (tG.below (by omega) (by have := HB5.out.size; omega))⟩
        · obtain rfl : k = 100 := by omega
          have HVB : Hid (1 ≤ (100 : Int) ∧ (100 : Int) ≤ 100 ∧ (100 : Int) = min 100 100) := Lib.hid (by omega)
          go_wp2_with fail
          obtain ⟨W2, hW2⟩ : ∃ u, u = W1.setCell ⟨w.heap.size + 1, 0, none⟩ (.int .i64 100) := ⟨_, rfl⟩
          rw [← hW2]
          have tF : Touch (w.heap.size + 1) (w.heap.size + 1 + 1) W1 W2 := by rw [hW2]; exact set_touch _ _ _ _
          have hF2 := (HFI.out.on HB1.out).touch tF (.inl (by omega))
          have bb0 : Box2 W2 w.heap.size F.o.val F.t.val 29 := by rw [hW2]; exact (B0.out.on HB1.out).other _ _ (by simp)
          have bb2 : Box2 W2 (w.heap.size + 1 + 1) (.slice none 0 0) (.slice none 0 0) 29 := by rw [hW2]; exact (B2.out.on HB1.out).other _ _ (by simp)
          have hkb2 : W2.heap[w.heap.size + 1]? = some (.cells #[.int .i64 100] 3) := by
            rw [hW2]; unfold World.setCell; simp only [Array.getElem?_modify, HKB.out, Option.map_some, if_true]; rfl
          have hk2 : W2.cell? ⟨w.heap.size + 1, 0, none⟩ = some (.int .i64 100) := by unfold World.cell?; simp only [hkb2]; rfl
          have hbw2 : Below w.heap.size w W2 := (hbA.trans (HB1.out.mono hbA.size)).trans (tF.below (by omega) (by omega))
          have CM := Lib.hid (mapField_scale F (w.heap.size + 1) (fun x => x * 100) W2 hF2.at HG.out.symm (fun x h0 h1 u hu => scale1_any x 100 (w.heap.size + 1) u ((hu.cell (p := ⟨w.heap.size + 1, 0, none⟩) (World.block_lt_of_cell? _ _ hk2)).trans hk2) h0 h1 (by have := HVB.out; omega) (by have := HVB.out; omega)))
          have BB2 := Lib.hid bb2
          have HBW2 := Lib.hid hbw2
          have hsz2 : w.heap.size + 3 ≤ W2.heap.size := by have := tF.size; omega
          clear hW2 tF hF2 bb2 hkb2 hk2 hbw2 hck hfk x0 x1 bb0
          refine (show Calls _ _ _ W2 (fun e w' => ∃ G : Fld, e = .returned (.agg #[.slice G.o.a G.o.l.length G.o.c, .slice G.t.a G.t.R.length G.t.c]) ∧ G.o.l = F.o.l.map (fun x => x * 100) ∧ G.t.con = F.t.con.map (List.map fun x => x * 100) ∧ G.Own 3 w' ∧ G.In W2.heap.size w'.heap.size w' ∧ Below W2.heap.size W2 w') from CM.out).mono ?_
          rintro e W3 ⟨G, rfl, hGo, hGc, hGO, hGI, hb3⟩
          obtain ⟨W4, hW4⟩ : ∃ u, u = W3.alloc (.cells #[(.slice G.o.a G.o.l.length G.o.c), (.slice G.t.a G.t.R.length G.t.c)] 29) := ⟨_, rfl⟩
          have hb4 : Below W3.heap.size W3 W4 := by rw [hW4]; exact below_alloc _ _
          have b4 : Box2 W4 W3.heap.size (.slice G.o.a G.o.l.length G.o.c) (.slice G.t.a G.t.R.length G.t.c) 29 := by rw [hW4]; exact Box2.made _ _ _ _
          have HW4 := Lib.hid hW4
          have CT2 := Lib.hid (implIsField_any G W4 (hGI.on hb4).at)
          have HG4 := Lib.hid (hGI.on hb4)
          have HO4 := Lib.hid (hGO.on hb4)
          have hb34 := hb3.trans (hb4.mono hb3.size)
          have BB4 := Lib.hid (BB2.out.on hb34)
          have B4 := Lib.hid b4
          have HB4 := Lib.hid (HBW2.out.trans (hb34.mono HBW2.out.size))
          have hsz3 := hb3.size
          have hsz34 := hb4.size
          have q0 := b4.c0
          have q1 := b4.c1
          rw [hW4] at q0 q1
          have HLK : Hid (G.Like (timesF F 100)) := Lib.hid ⟨hGo, by rw [hGc]; exact (mkF_con _ _).symm⟩
          obtain ⟨gg, hgg⟩ : ∃ g, g = G.good := ⟨_, rfl⟩
          rw [← hgg] at CT2
          have HGG := Lib.hid hgg
          clear hGo hGc hGO hGI hb3 hb4 b4 hW4 hb34 hgg
          go_wp2_with fail
          rw [← HW4.out]
          refine (show Calls _ _ _ _ _ from CT2.out).mono ?_
          rintro e W5 ⟨rfl, hb5⟩
          clear q0 q1
          have b5 := BB4.out.on hb5
          have y20 := b5.c0
          have y21 := b5.c1
          have f20 := b5.fr 0
          have f21 := b5.fr 1
          have BB5 := Lib.hid b5
          have HB5 := Lib.hid (HB4.out.trans (hb5.mono HB4.out.size))
          have p0 := (B4.out.on hb5).c0
          have p1 := (B4.out.on hb5).c1
          have HG5 := Lib.hid (HG4.out.on hb5)
          have HO5 := Lib.hid (HO4.out.on hb5)
          have hsz5 := hb5.size
          clear b5 hb5
          cases gg with
          | false =>
            have HO : Hid (K = zeroF ∧ b = false) := Lib.hid (by
              have hgd : (timesF F (min 100 100)).good = false := by rw [← HVB.out.2.2, ← HLK.out.good, ← HGG.out]
              rcases HV.out with ⟨_, h1, h2⟩ | ⟨_, _, _, h1, h2⟩ | ⟨_, _, h, _⟩
              · exact ⟨h1, h2⟩
              · exact ⟨h1, h2⟩
              · rw [hgd] at h; cases h)
            clear p0 p1
            go_wp2
            obtain ⟨wF, hF⟩ : ∃ wF, wF = (W5.setCell ⟨w.heap.size + 1 + 1, 0, none⟩ (.slice none 0 0)).setCell ⟨w.heap.size + 1 + 1, 1, none⟩ (.slice none 0 0) := ⟨_, rfl⟩
            rw [← hF]
            have bF : Box2 wF (w.heap.size + 1 + 1) (.slice none 0 0) (.slice none 0 0) 29 := by rw [hF]; exact (BB5.out.set0 _).set1 _
            have hbF : Below w.heap.size w wF := by
              rw [hF]
              exact (HB5.out.setCell (p := ⟨w.heap.size + 1 + 1, 0, none⟩) (by show w.heap.size ≤ w.heap.size + 1 + 1; omega) _).setCell (p := ⟨w.heap.size + 1 + 1, 1, none⟩) (by show w.heap.size ≤ w.heap.size + 1 + 1; omega) _
            have r0 := bF.c0
            have r1 := bF.c1
            clear hF y20 y21 f20 f21
            refine bodyPost_ret (v := .tuple #[.agg #[.slice none 0 0, .slice none 0 0], .bool false]) (by simp [results, Try.results31, go_sem, r0, r1]) rfl ?_
            rw [HO.out.1, HO.out.2]
            exact zero_end hbF
          | true =>
            have HO : Hid (K = timesF F 100 ∧ b = true) := Lib.hid (by
              have hgd : (timesF F (min 100 100)).good = true := by rw [← HVB.out.2.2, ← HLK.out.good, ← HGG.out]
              rw [HVB.out.2.2]
              rcases HV.out with ⟨h | h, _⟩ | ⟨_, _, h, _⟩ | ⟨_, _, _, h1, h2⟩
              · rw [← HG.out] at h; cases h
              · omega
              · rw [hgd] at h; cases h
              · exact ⟨h1, h2⟩)
            go_wp2
            obtain ⟨wF, hF⟩ : ∃ wF, wF = (W5.setCell ⟨w.heap.size + 1 + 1, 0, none⟩ (.slice G.o.a G.o.l.length G.o.c)).setCell ⟨w.heap.size + 1 + 1, 1, none⟩ (.slice G.t.a G.t.R.length G.t.c) := ⟨_, rfl⟩
            rw [← hF]
            have bF : Box2 wF (w.heap.size + 1 + 1) (.slice G.o.a G.o.l.length G.o.c) (.slice G.t.a G.t.R.length G.t.c) 29 := by rw [hF]; exact (BB5.out.set0 _).set1 _
            have tG : Touch (w.heap.size + 1 + 1) (w.heap.size + 1 + 1 + 1) W5 wF := by
              rw [hF]
              exact ((Touch.refl _ _ W5).set (by omega) (by omega) _ _).set (by omega) (by omega) _ _
            have r0 := bF.c0
            have r1 := bF.c1
            clear hF y20 y21 f20 f21 p0 p1
            refine bodyPost_ret (v := .tuple #[.agg #[(.slice G.o.a G.o.l.length G.o.c), (.slice G.t.a G.t.R.length G.t.c)], .bool true]) (by simp [results, Try.results31, go_sem, r0, r1]) rfl ?_
            rw [HO.out.1, HO.out.2]
            exact ⟨G, rfl, HLK.out, HO5.out.touch HG5.out tG (.inr (by omega)), (HG5.out.touch tG (.inr (by omega))).wide (by omega) (by have := tG.size; omega), HB5.out.trans (tG.below (by omega) (by have := HB5.out.size; omega))⟩

end Go.Proofs.Ytoejfeloademnaa
