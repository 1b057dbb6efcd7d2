/- Both sides of MedianOf and of MedianValue answer alike. Condition: the Field reads as such. -/
import Derived.Test.YtfgedolngcdjpaaFirstLeast
import Derived.Test.YtfgedolngcdjpaaMedSpec
namespace Go.Proofs.Ytfgedolngcdjpaa
open Go.RowKit Go.Shelf

set_option maxRecDepth 16000 in
set_option maxHeartbeats 1000000 in
theorem leastServed_any (F : Fld) (gf : Nat) (lb : Array Value) (C : List (List Nat)) (p q : Nat) (w0 w : World) (hq : q ≤ w.heap.size)
    (eg : ∀ args w, (callFunc gf args).run Try.prog w = .ok (.enter gf args) w) (hseq : ListSeq Fence.wide 3 Try.prog gf lb (C.map up) p q w0) (hb0 : Below w0.heap.size w0 w)
    (hF : F.At w) (hg : F.good = true) (hC : ∀ T ∈ C, T ≠ [] ∧ ∀ m ∈ T, m < F.o.l.length) :
    Calls Try.prog 47 #[F.val, .func (.func gf) #[] lb] w fun e w' => ∃ t : Row, e = .returned (.slice t.a t.l.length t.c) ∧ Best1 w.heap.size w' t (firstB (servT F) C) ∧ Below w.heap.size w w' := by
  obtain ⟨wA, hA, hbA, bx, hFA, hszA⟩ := laid_fld F w 37 hF
  have CL := Lib.hid (callsIn_wide.1 (firstLeast_in 4 (Nat.le_refl _) F gf lb C w.heap.size p q w0 wA (Nat.le_trans hq hbA.size) eg hseq (hb0.trans (hbA.mono hb0.size)) hFA bx hg hC))
  have HA := Lib.hid hA
  clear hF hA hFA bx eg hseq hb0 hC
  show Calls _ _ #[.agg #[F.o.val, F.t.val], _] w _
  go_enter Try.func47, Try.ntmps47
  go_wp2_with fail
  rw [show w.alloc (Obj.cells #[F.o.val, F.t.val] 37) = wA from HA.out.symm]
  refine (show Calls _ _ _ _ _ from CL.out).mono ?_
  rintro e W ⟨t, rfl, ht, hb⟩
  have HT := Lib.hid ht
  clear ht
  go_wp2
  go_ret
  exact ⟨t, rfl, ⟨HT.out.l, HT.out.own, HT.out.ins.wide hbA.size (Nat.le_refl _)⟩, hbA.trans (hb.mono hbA.size)⟩

set_option maxRecDepth 16000 in
set_option maxHeartbeats 1000000 in
theorem hasSites_any (F : Fld) (k : Int) (w : World) (hF : F.At w) :
    Calls Try.prog 46 #[F.val, .int .i64 k] w fun e w' => e = .returned (.bool (kB F k)) ∧ Below w.heap.size w w' := by
  obtain ⟨wA, hA, hbA, bx, hFA, hszA⟩ := laid_fld F w 37 hF
  have HBX := Lib.hid bx
  have HA := Lib.hid hA
  obtain ⟨g, hg⟩ : ∃ g, g = F.good := ⟨_, rfl⟩
  have CG := implIsField_any F wA hFA
  rw [← hg] at CG
  have CG1 := Lib.hid CG
  have HK : Hid (kB F k = (g && (decide (1 ≤ k) && decide (k ≤ (F.o.l.length : Int))))) := Lib.hid (by rw [hg]; rfl)
  have x0 := bx.c0
  have x1 := bx.c1
  rw [hA] at x0 x1
  clear hF hA hFA bx hg CG
  show Calls _ _ #[.agg #[F.o.val, F.t.val], _] w _
  go_enter Try.func46, Try.ntmps46
  go_wp2_with fail
  rw [show w.alloc (Obj.cells #[F.o.val, F.t.val] 37) = wA from HA.out.symm]
  refine (show Calls _ _ _ _ _ from CG1.out).mono ?_
  rintro e W1 ⟨rfl, hb1⟩
  clear x0 x1
  cases g with
  | false =>
    go_wp2
    go_ret
    exact ⟨by rw [HK.out]; rfl, hbA.trans (hb1.mono hbA.size)⟩
  | true =>
    have y0 : W1.cell? ⟨w.heap.size, 0, none⟩ = some (.slice F.o.a F.o.l.length F.o.c) := (HBX.out.on hb1).c0
    by_cases h1 : 1 ≤ k
    · go_wp2
      go_ret
      exact ⟨by rw [HK.out, decide_eq_true h1]; simp, hbA.trans (hb1.mono hbA.size)⟩
    · have h1' : ¬ k ≥ 1 := h1
      have HE : Hid (kB F k = false) := Lib.hid (by rw [HK.out, decide_eq_false (by omega : ¬ 1 ≤ k)]; rfl)
      go_wp2
      go_ret
      exact ⟨by rw [HE.out]; rfl, hbA.trans (hb1.mono hbA.size)⟩

set_option maxRecDepth 32000 in
set_option maxHeartbeats 2000000 in
theorem implMed_any (F : Fld) (k : Int) (w : World) (hF : F.At w) (l : List Int) (b : Bool) (hv : Meds F k l b) :
    Calls Try.prog 30 #[F.val, .int .i64 k] w (PInts l b w) := by
  obtain ⟨wA, hA, hbA, bx, hFA, hszA⟩ := laid_fld F w 37 hF
  have HFA := Lib.hid hFA
  have HBX := Lib.hid bx
  have HA := Lib.hid hA
  have CT := Lib.hid (hasSites_any F k wA hFA)
  have x0 := bx.c0
  have x1 := bx.c1
  rw [hA] at x0 x1
  clear hF hA hFA bx
  show Calls _ _ #[.agg #[F.o.val, F.t.val], _] w _
  rcases hv with ⟨h2, rfl, rfl⟩ | ⟨h2, rfl, rfl⟩
  · rw [h2] at CT
    clear h2
    go_enter Try.func30, Try.ntmps30
    go_wp2_with fail
    rw [show w.alloc (Obj.cells #[F.o.val, F.t.val] 37) = wA from HA.out.symm]
    refine (show Calls _ _ _ _ _ from CT.out).mono ?_
    rintro e W1 ⟨rfl, hb1⟩
    have HB := Lib.hid (hbA.trans (hb1.mono hbA.size))
    clear hb1 x0 x1
    go_wp2
    go_ret2
    obtain ⟨t, ht, htl, hto, hti⟩ := row_of_own (empty_own W1)
    exact ⟨t, congrArg (fun v => Ending.returned (.tuple #[v, .bool false])) ht, htl, hto, hti.wide HB.out.size (Nat.le_refl _), HB.out.trans ((below_alloc W1 _).mono HB.out.size)⟩
  · rw [h2] at CT
    obtain ⟨hg, m, rfl, h1, hm⟩ := kB_nat h2
    have hsz := good_sizes hg
    obtain ⟨n, hn⟩ : ∃ n, n = F.o.l.length := ⟨_, rfl⟩
    have HN := Lib.hid hn
    have hco := combs_ok (n := n) (k := m) (by omega) h1 (by omega)
    have CS := Lib.hid (fun u (_ : Below wA.heap.size wA u) => setsOfSize_any n m u)
    have CL := Lib.hid (fun (u : World) (hu : Below wA.heap.size wA u) (Bk Bs : Nat) (hk : u.cell? ⟨Bk, 0, none⟩ = some (.int .i64 m)) (hs : u.cell? ⟨Bs, 0, none⟩ = some (.int .i64 n)) => by
      have := leastServed_any F 70 #[.pointer (some ⟨Bk, 0, none⟩), .pointer (some ⟨Bs, 0, none⟩)] (combs n m) 0 u.heap.size u u (Nat.le_refl _) (enters_of Try.func70 (by kernel_rfl) rfl) (sizes_seq 3 (by omega) Bk Bs n m u (by omega) h1 (by omega) hk hs 0 u.heap.size (Nat.zero_le _) (Nat.zero_le _) (World.block_lt_of_cell? u _ hk) (World.block_lt_of_cell? u _ hs)) (Below.refl _ _) (HFA.out.on hu) hg (fun T hT => ⟨fun e => by have := (hco.2.2.1 T hT).1; rw [e] at this; simp at this; omega, fun x hx => by rw [← hn]; exact (hco.2.2.1 T hT).2 x hx⟩)
      unfold Fld.val Row.val at this
      rw [← hn] at this; exact this)
    clear h2 hg hco hn
    go_enter Try.func30, Try.ntmps30
    go_wp2_with fail
    rw [show w.alloc (Obj.cells #[F.o.val, F.t.val] 37) = wA from HA.out.symm]
    refine (show Calls _ _ _ _ _ from CT.out).mono ?_
    rintro e W1 ⟨rfl, hb1⟩
    clear x0 x1
    have HS : Hid (∀ u, Below W1.heap.size W1 u → ((u.cell? ⟨w.heap.size, 0, none⟩ = some (.slice F.o.a n F.o.c) ∧ u.cell? ⟨w.heap.size, 1, none⟩ = some F.t.val) ∧ Below W1.heap.size W1 u)) := Lib.hid fun u hu => ⟨⟨by rw [HN.out]; exact ((HBX.out.on hb1).on hu).c0, ((HBX.out.on hb1).on hu).c1⟩, hu⟩
    have s0 := HS.out W1.drew (Below.refl _ _).drew
    have D1 := Lib.hid (fun u (hu : Below W1.heap.size W1 u) => CS.out u (hb1.trans (hu.mono hb1.size)))
    have D2 := Lib.hid (fun u (hu : Below W1.heap.size W1 u) => CL.out u (hb1.trans (hu.mono hb1.size)))
    have y0 : W1.cell? ⟨w.heap.size, 0, none⟩ = some (.slice F.o.a n F.o.c) := by rw [HN.out]; exact (HBX.out.on hb1).c0
    have y1 := (HBX.out.on hb1).c1
    have HB := Lib.hid (hbA.trans (hb1.mono hbA.size))
    have hszB := HB.out.size
    clear hb1
    go_wp2_with fail
    go_region_held3 (fun u => ((u.cell? ⟨w.heap.size, 0, none⟩ = some (.slice F.o.a n F.o.c) ∧ u.cell? ⟨w.heap.size, 1, none⟩ = some F.t.val) ∧ Below W1.heap.size W1 u)) (first | exact s0 | exact keep_reg HS.out (by first | assumption | exact And.right (by assumption)) hb1) (first | (go_at_call 48; refine (show Calls _ _ _ _ _ from D1.out _ (by first | assumption | exact And.right (by assumption))).mono ?_; rintro e u1 ⟨Bk, Bs, rfl, HK, HSS, -, hb1⟩; have HZ1 := Lib.hid (show W1.heap.size ≤ u1.heap.size from hb1.size)) | (go_at_call 47; refine (show Calls _ _ _ _ _ from D2.out _ (by first | assumption | exact And.right (by assumption)) Bk Bs HK.out HSS.out).mono ?_; rintro e u2 ⟨t, rfl, ht, hb1⟩; have HT := Lib.hid ht; clear ht))
    have hB2 : Below W1.heap.size W1 u2 := by first | assumption | exact And.right (by assumption)
    go_wp2
    go_ret2
    exact ⟨t, rfl, by rw [Int.toNat_natCast, ← HN.out]; exact HT.out.l, HT.out.own, HT.out.ins.wide (Nat.le_trans hszB HZ1.out) (Nat.le_refl _), HB.out.trans (hB2.mono hszB)⟩

end Go.Proofs.Ytfgedolngcdjpaa
