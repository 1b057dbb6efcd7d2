/- The contracts of the drawing of the arguments of FormatInt, ParseInt and AppendChecksum: a number of at most seven digits, small texts, and nothing that lay is changed. Condition: the code has at most 65536 bytes. -/
import Derived.Test.YtfjnfgeielgihaaDoorDrawBase
import Derived.Test.YtfjnfgeielgihaaDoorNum
namespace Go.Proofs.YtfjnfgeielgihaaDoor
open Go.RowKit

/-- One of some numbers that have just been laid. -/
theorem among_laid (zs : List Int) (B g m : Nat) (w : World) (h : Cur w B g m) (hm : m ≤ 900000) (hl0 : 0 < zs.length) (hl : zs.length ≤ 1000000) :
    Calls Tryd.prog 21 #[.pointer (some ⟨g, 0, none⟩), .slice (some ⟨w.heap.size, 0, none⟩) zs.length zs.length] (w.alloc (.cells (zs.map (Value.int .i64)).toArray 3)) fun e w' => ∃ z ∈ zs, e = .returned (.int .i64 z) ∧ Cur w' B g (m + 2) ∧ Only g w w' := by
  have hcell := laid_cells w (zs.map (Value.int .i64)).toArray 3
  have hne : w.heap.size ≠ g := by have := h.lt; omega
  have cp : ∀ W, Cur W B g m → Calls Tryd.prog 22 #[.pointer (some ⟨g, 0, none⟩), .int .i64 (zs.length : Int)] W (fun e w' => ∃ r : Nat, (r < zs.length ∨ r = 0) ∧ r ≤ 65535 ∧ e = .returned (.int .i64 (r : Int)) ∧ Cur w' B g (m + 2) ∧ Only g W w') := fun W h => pick_any zs.length B g m W h hm hl
  have HC := Lib.hid (h.alloc (.cells (zs.map (Value.int .i64)).toArray 3))
  have HL := Lib.hid hcell
  have hO0 : Only g w (w.alloc (.cells (zs.map (Value.int .i64)).toArray 3)) := (Only.refl _ _).alloc _
  have HO0 := Lib.hid hO0
  have hli : (zs.length : Int) ≤ 1000000 := by omega
  obtain ⟨W, hW⟩ : ∃ W, W = w.alloc (.cells (zs.map (Value.int .i64)).toArray 3) := ⟨_, rfl⟩
  obtain ⟨b, hb⟩ : ∃ b, b = w.heap.size := ⟨_, rfl⟩
  rw [← hW] at HC HL HO0 ⊢
  rw [← hb] at HL hne ⊢
  clear h hcell hO0 hW hb
  go_enter Tryd.func21, Tryd.ntmps21
  go_wp2_with fail
  refine (cp _ HC.out).mono ?_
  rintro e w1 ⟨r, hrl, hr, rfl, hc1, ho1⟩
  have hrlt : r < zs.length := by omega
  have hrli : (r : Int) < (zs.length : Int) := by omega
  obtain ⟨x, hx⟩ : ∃ x, x = zs[r] := ⟨_, rfl⟩
  have hcl : w1.cell? ⟨b, r, none⟩ = some (.int .i64 x) := ho1.cell (by have := HL.out r (.int .i64 x) (by rw [hx]; simp [List.getElem?_eq_getElem hrlt]); rw [Nat.zero_add] at this; exact this) hne
  have hmem : Hid (x ∈ zs) := Lib.hid (by rw [hx]; exact List.getElem_mem _)
  have HC1 := Lib.hid hc1
  have HO := Lib.hid (HO0.out.trans ho1)
  clear hc1 ho1 hx hrl
  go_wp2_with fail
  go_ret
  exact ⟨x, hmem.out, rfl, HC1.out, HO.out⟩

theorem drawFmt_any (a : Option Addr) (n c : Nat) (w : World) (hcode : CodeAt w w.heap.size a n) (hn : n ≤ 65536) :
    Calls Tryd.prog 9 #[.slice a n c] w fun e w' => ∃ z : Int, -1000000 ≤ z ∧ z ≤ 1000000 ∧ e = .returned (.int .i64 z) ∧ Below w.heap.size w w' := by
  have hc0 := cur_new c hcode hn (Nat.le_refl _)
  have ho0 : Only w.heap.size w (w.alloc (.cells #[.slice a n c, .int .i64 0, .int .u64 0] 37)) := (Only.refl _ _).alloc _
  have HP : Hid (∀ (W : World) m, Cur W w.heap.size w.heap.size m → m ≤ 900000 → Calls Tryd.prog 22 #[.pointer (some ⟨w.heap.size, 0, none⟩), .int .i64 1000] W (fun e w' => ∃ r : Nat, (r < 1000 ∨ r = 0) ∧ r ≤ 65535 ∧ e = .returned (.int .i64 (r : Int)) ∧ Cur w' w.heap.size w.heap.size (m + 2) ∧ Only w.heap.size W w')) := Lib.hid fun W m h hm => pick_any 1000 _ _ m W h hm (by omega)
  have HC0 := Lib.hid hc0
  have HO0 := Lib.hid ho0
  clear hc0 ho0 hcode
  go_enter Tryd.func9, Tryd.ntmps9
  go_wp2_with fail
  refine (HP.out _ _ HC0.out (by omega)).mono ?_
  rintro e w1 ⟨r, hr, _, rfl, hc1, ho1⟩
  have hri : (r : Int) ≤ 1000 := by omega
  have HC1 := Lib.hid hc1
  have HO1 := Lib.hid (HO0.out.trans ho1)
  clear hc1 ho1 HC0 HO0 hr
  have HA := Lib.hid (among_laid [0, 1, -1, 10, 999999, -999999, 1000000, -1000000, (r : Int) - 500] _ _ _ w1 HC1.out (by omega) (by simp) (by simp))
  go_wp2_with fail
  refine HA.out.mono ?_
  rintro e w2 ⟨z, hz, rfl, hc2, ho2⟩
  have hzb : -1000000 ≤ z ∧ z ≤ 1000000 := by
    simp only [List.mem_cons, List.not_mem_nil, or_false] at hz
    omega
  have HO2 := Lib.hid (HO1.out.trans ho2)
  have HZ := Lib.hid hzb
  clear hc2 ho2 hz hzb
  go_wp2_with fail
  go_ret
  exact ⟨z, HZ.out.1, HZ.out.2, rfl, HO2.out.below (Nat.le_refl _) (Nat.le_refl _)⟩

def nums1 : List ByteArray := [⟨#[]⟩, ⟨#[45]⟩, ⟨#[45, 48]⟩, ⟨#[48, 48]⟩, ⟨#[48, 49]⟩, ⟨#[45, 45, 49]⟩, ⟨#[49, 120]⟩, ⟨#[57, 57, 57, 57, 57, 57]⟩, ⟨#[49, 48, 48, 48, 48, 48, 48]⟩, ⟨#[45, 57, 57, 57, 57, 57, 57]⟩, ⟨#[49, 56, 52, 52, 54, 55, 52, 52, 48, 55, 51, 55, 48, 57, 53, 53, 49, 54, 49, 55]⟩]
theorem numI_small (n : Int) (h1 : -9999999 ≤ n) (h2 : n ≤ 9999999) : (numI n).size ≤ 8 := by
  by_cases h : n < 0
  · obtain ⟨u, rfl⟩ : ∃ u : Nat, n = -(u : Int) := ⟨n.natAbs, by omega⟩
    rw [numI_neg u (by omega), ByteArray.size_append]
    have := num_size_le u (by omega)
    show 1 + _ ≤ 8; omega
  · obtain ⟨u, rfl⟩ : ∃ u : Nat, n = (u : Int) := ⟨n.toNat, by omega⟩
    rw [numI_nat]; have := num_size_le u (by omega); omega

theorem drawParse_any (a : Option Addr) (n c : Nat) (w : World) (hcode : CodeAt w w.heap.size a n) (hn : n ≤ 65536) :
    Calls Tryd.prog 12 #[.slice a n c] w fun e w' => ∃ t : ByteArray, t.size ≤ 100 ∧ e = .returned (.string t) ∧ Below w.heap.size w w' := by
  have hc0 := cur_new c hcode hn (Nat.le_refl _)
  have ho0 : Only w.heap.size w (w.alloc (.cells #[.slice a n c, .int .i64 0, .int .u64 0] 37)) := (Only.refl _ _).alloc _
  have HP : Hid (∀ (W : World) m, Cur W w.heap.size w.heap.size m → m ≤ 900000 → Calls Tryd.prog 22 #[.pointer (some ⟨w.heap.size, 0, none⟩), .int .i64 2000] W (fun e w' => ∃ r : Nat, (r < 2000 ∨ r = 0) ∧ r ≤ 65535 ∧ e = .returned (.int .i64 (r : Int)) ∧ Cur w' w.heap.size w.heap.size (m + 2) ∧ Only w.heap.size W w')) := Lib.hid fun W m h hm => pick_any 2000 _ _ m W h hm (by omega)
  have H1 : Hid (∀ (W : World) m, Cur W w.heap.size w.heap.size m → m ≤ 900000 → Calls Tryd.prog 26 #[.pointer (some ⟨w.heap.size, 0, none⟩), .int .i64 2] W (fun e w' => ∃ b : Bool, e = .returned (.bool b) ∧ Cur w' w.heap.size w.heap.size (m + 2) ∧ Only w.heap.size W w')) := Lib.hid fun W m h hm => one_any 2 _ _ m W h hm (by omega)
  have HZ : Hid (∀ s ∈ nums1, s.size ≤ 100) := Lib.hid (by decide)
  have HCOf := Lib.hid (fun W g m h hm => of_laid (nums1.map Value.string).toArray nums1 (by simp) w.heap.size g m W h hm (by decide) (by decide))
  have HC0 := Lib.hid hc0
  have HO0 := Lib.hid ho0
  clear hc0 ho0 hcode
  go_enter Tryd.func12, Tryd.ntmps12
  go_wp2_with fail
  refine (H1.out _ _ HC0.out (by omega)).mono ?_
  rintro e w1 ⟨b, rfl, hc1, ho1⟩
  have HC1 := Lib.hid hc1
  have HO1 := Lib.hid (HO0.out.trans ho1)
  clear hc1 ho1 HC0 HO0
  cases b
  · go_wp2_with fail
    refine (HP.out _ _ HC1.out (by omega)).mono ?_
    rintro e w2 ⟨r, hr, _, rfl, hc2, ho2⟩
    have hri : (r : Int) ≤ 2000 := by omega
    have HO2 := Lib.hid (HO1.out.trans ho2)
    clear hc2 ho2 HO1 hr
    have HN : Hid (∀ W, Calls Tryd.prog 25 #[.int .i64 ((r : Int) - 1000)] W fun e w' => e = .returned (.string (numI ((r : Int) - 1000))) ∧ ∃ k, w' = W.drewN k) := Lib.hid fun W => l1Num_any _ W (by omega) (by omega)
    have HS : Hid ((numI ((r : Int) - 1000)).size ≤ 8) := Lib.hid (numI_small _ (by omega) (by omega))
    go_wp2_with fail
    refine (HN.out _).mono ?_
    rintro e w3 ⟨rfl, k, rfl⟩
    go_wp2_with fail
    go_ret
    exact ⟨_, by have := HS.out; omega, rfl, (HO2.out.draws k).below (Nat.le_refl _) (Nat.le_refl _)⟩
  · go_wp2_with fail
    refine (HCOf.out _ _ _ HC1.out (by omega)).mono ?_
    rintro e w2 ⟨t, ht, rfl, hc2, ho2⟩
    have HO2 := Lib.hid (HO1.out.trans ho2)
    have HS := Lib.hid (HZ.out t ht)
    clear hc2 ho2 ht
    go_wp2_with fail
    go_ret
    exact ⟨t, HS.out, rfl, HO2.out.below (Nat.le_refl _) (Nat.le_refl _)⟩

theorem drawAppend_any (a : Option Addr) (n c : Nat) (w : World) (hcode : CodeAt w w.heap.size a n) (hn : n ≤ 65536) :
    Calls Tryd.prog 15 #[.slice a n c] w fun e w' => ∃ t : ByteArray, t.size ≤ 4000 ∧ e = .returned (.string t) ∧ Below w.heap.size w w' := by
  obtain ⟨i1, hi', hy0, hy1, hy2⟩ := info_parts infoByte
  have hc0 := cur_new c hcode hn (Nat.le_refl _)
  have ho0 : Only w.heap.size w (w.alloc (.cells #[.slice a n c, .int .i64 0, .int .u64 0] 37)) := (Only.refl _ _).alloc _
  have HP : Hid (∀ (W : World) m, Cur W w.heap.size w.heap.size m → m ≤ 900000 → Calls Tryd.prog 22 #[.pointer (some ⟨w.heap.size, 0, none⟩), .int .i64 10] W (fun e w' => ∃ r : Nat, (r < 10 ∨ r = 0) ∧ r ≤ 65535 ∧ e = .returned (.int .i64 (r : Int)) ∧ Cur w' w.heap.size w.heap.size (m + 2) ∧ Only w.heap.size W w')) := Lib.hid fun W m h hm => pick_any 10 _ _ m W h hm (by omega)
  have H1 : Hid (∀ (W : World) m, Cur W w.heap.size w.heap.size m → m ≤ 900000 → Calls Tryd.prog 26 #[.pointer (some ⟨w.heap.size, 0, none⟩), .int .i64 20] W (fun e w' => ∃ b : Bool, e = .returned (.bool b) ∧ Cur w' w.heap.size w.heap.size (m + 2) ∧ Only w.heap.size W w')) := Lib.hid fun W m h hm => one_any 20 _ _ m W h hm (by omega)
  have HC0 := Lib.hid hc0
  have HO0 := Lib.hid ho0
  clear hc0 ho0 hcode
  go_enter Tryd.func15, Tryd.ntmps15
  go_wp2_with fail
  refine (H1.out _ _ HC0.out (by omega)).mono ?_
  rintro e w1 ⟨b, rfl, hc1, ho1⟩
  have HC1 := Lib.hid hc1
  have HO1 := Lib.hid (HO0.out.trans ho1)
  clear hc1 ho1 HC0 HO0
  cases b
  · go_wp2_with fail
    refine (any1_any _ _ _ _ HC1.out (by omega)).mono ?_
    rintro e w2 ⟨t, ht, rfl, hc2, ho2⟩
    have HO2 := Lib.hid (HO1.out.trans ho2)
    clear hc2 ho2
    go_wp2_with fail
    go_ret
    exact ⟨t, by omega, rfl, HO2.out.below (Nat.le_refl _) (Nat.le_refl _)⟩
  · go_wp2_with fail
    refine (HP.out _ _ HC1.out (by omega)).mono ?_
    rintro e w2 ⟨q, hq, _, rfl, hc2, ho2⟩
    have hq19 : q ≤ 9 := by omega
    have hqi : (q : Int) ≤ 9 := by omega
    have hq0 : (0 : Int) ≤ 3990 + (q : Int) := by omega
    have HO2 := Lib.hid (HO1.out.trans ho2)
    clear hc2 ho2 HO1 hq
    go_wp2_with (at_make; refine wpList_make_full _ rfl _ _ 22 rfl w2.heap.size 5 i1 (.int .u8 0) 1 Tryd.underlying22 hi' hy0 hy1 .i64 .i64 _ _ (3990 + q) rfl rfl (by omega) (by omega) (by rw [hy2]; omega) (by unfold maxLen; omega) (Nat.le_refl _) ?_; intro w4 hown4 hgrow4; have hcv := zero_text w4 _ _ _ _ hown4)
    have HG := Lib.hid hgrow4
    clear hown4 hgrow4
    go_ret
    refine ⟨zeros (3990 + q), by rw [zeros_size]; omega, rfl, ?_⟩
    exact (HO2.out.below (Nat.le_refl _) (Nat.le_refl _)).trans ((Below.refl _ _).grown HG.out (HO2.out.below (Nat.le_refl _) (Nat.le_refl _)).size (fun k h => by cases h))

end Go.Proofs.YtfjnfgeielgihaaDoor
