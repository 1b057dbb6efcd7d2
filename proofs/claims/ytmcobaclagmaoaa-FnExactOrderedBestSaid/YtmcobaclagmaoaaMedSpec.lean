/- The contracts of the model's MedianOf and MedianValue. Condition: the Field reads as such. -/
import Derived.Test.YtmcobaclagmaoaaBestK
namespace Go.Proofs.Ytmcobaclagmaoaa
open Go.RowKit

/-- A valid Field and a number of its sites. -/
def kB (F : Fld) (k : Int) : Bool := F.good && (decide (1 ≤ k) && decide (k ≤ (F.o.l.length : Int)))
theorem kB_like {F G : Fld} (h : G.Like F) (k : Int) : kB G k = kB F k := by unfold kB; rw [h.good, h.1]
theorem kB_nat {F : Fld} {k : Int} (h : kB F k = true) : F.good = true ∧ ∃ m : Nat, k = m ∧ 1 ≤ m ∧ m ≤ F.o.l.length := by
  unfold kB at h
  simp only [Bool.and_eq_true, decide_eq_true_eq] at h
  exact ⟨h.1, k.toNat, by omega, by omega, by omega⟩
theorem servT_like {F G : Fld} (h : G.Like F) : servT G = servT F := by funext T; unfold servT; rw [h.2]
/-- What MedianOf answers. -/
def Meds (F : Fld) (k : Int) (l : List Int) (b : Bool) : Prop :=
  (kB F k = false ∧ l = [] ∧ b = false) ∨ (kB F k = true ∧ l = up (bestK (servT F) F.o.l.length k.toNat) ∧ b = true)
def Vals (F : Fld) (k v : Int) (b : Bool) : Prop :=
  (kB F k = false ∧ v = 0 ∧ b = false) ∨ (kB F k = true ∧ v = servT F (bestK (servT F) F.o.l.length k.toNat) ∧ b = true)
theorem meds_like {F G : Fld} {k : Int} {l : List Int} {b : Bool} (h : Meds F k l b) (hl : G.Like F) : Meds G k l b := by
  rcases h with ⟨h1, h2⟩ | ⟨h1, h2, h3⟩
  · exact .inl ⟨by rw [kB_like hl, h1], h2⟩
  · exact .inr ⟨by rw [kB_like hl, h1], by rw [servT_like hl, hl.1]; exact h2, h3⟩
theorem vals_like {F G : Fld} {k v : Int} {b : Bool} (h : Vals F k v b) (hl : G.Like F) : Vals G k v b := by
  rcases h with ⟨h1, h2⟩ | ⟨h1, h2, h3⟩
  · exact .inl ⟨by rw [kB_like hl, h1], h2⟩
  · exact .inr ⟨by rw [kB_like hl, h1], by rw [servT_like hl, hl.1]; exact h2, h3⟩
/-- A best set is one of sites. -/
theorem bestK_sites {F : Fld} (hg : F.good = true) {k : Nat} (h1 : 1 ≤ k) (hk : k ≤ F.o.l.length) : (bestK (servT F) F.o.l.length k).length = k ∧ ∀ m ∈ bestK (servT F) F.o.l.length k, m < F.o.l.length := by
  have h7 := (good_sizes hg).2.1
  exact (combs_ok h7 h1 hk).2.2.1 _ (bestK_mem _ h7 h1 hk)
theorem meds_some (F : Fld) (k : Int) : ∃ (l : List Int) (b : Bool), Meds F k l b ∧ l.length ≤ 1048576 := by
  by_cases h : kB F k = true
  · obtain ⟨hg, m, rfl, h1, hm⟩ := kB_nat h
    refine ⟨_, _, .inr ⟨h, rfl, rfl⟩, ?_⟩
    rw [up_length, Int.toNat_natCast, (bestK_sites hg h1 hm).1]
    have := (good_sizes hg).2.1
    omega
  · exact ⟨_, _, .inl ⟨by simpa using h, rfl, rfl⟩, by simp⟩
theorem vals_some (F : Fld) (k : Int) : ∃ (v : Int) (b : Bool), Vals F k v b := by
  by_cases h : kB F k = true
  · exact ⟨_, _, .inr ⟨h, rfl, rfl⟩⟩
  · exact ⟨_, _, .inl ⟨by simpa using h, rfl, rfl⟩⟩

set_option maxRecDepth 16000 in
set_option maxHeartbeats 1000000 in
theorem l4K_any (F : Fld) (k : Int) (w : World) (hF : F.At w) :
    Calls Try.prog 33 #[F.val, .int .i64 k] w fun e w' => e = .returned (.bool (kB F k)) ∧ Below w.heap.size w w' := by
  obtain ⟨wA, hA, hbA, bx, hFA, hszA⟩ := laid_fld F w 29 hF
  have HBX := Lib.hid bx
  have HA := Lib.hid hA
  obtain ⟨g, hg⟩ : ∃ g, g = F.good := ⟨_, rfl⟩
  have CG := l2Good_any F wA hFA
  rw [← hg] at CG
  have CG1 := Lib.hid CG
  have CI := Lib.hid (fun W => l1In_any k 1 (F.o.l.length : Int) W)
  have HK : Hid (kB F k = (g && (decide (1 ≤ k) && decide (k ≤ (F.o.l.length : Int))))) := Lib.hid (by rw [hg]; rfl)
  have HG := Lib.hid hg
  have x0 := bx.c0
  have x1 := bx.c1
  rw [hA] at x0 x1
  have HOI : Hid ((F.o.l.length : Int) ≤ 9223372036854775807) := Lib.hid (by obtain ⟨q1, q2, _⟩ := hF.1; rw [iv_length] at q1; unfold maxLen at q2; omega)
  clear hF hA hFA bx hg CG
  show Calls _ _ #[.agg #[F.o.val, F.t.val], _] w _
  go_enter Try.func33, Try.ntmps33
  go_wp2_with fail
  rw [show w.alloc (Obj.cells #[F.o.val, F.t.val] 29) = wA from HA.out.symm]
  refine (show Calls _ _ _ _ _ from CG1.out).mono ?_
  rintro e W1 ⟨rfl, hb1⟩
  clear x0 x1
  cases g with
  | false =>
    go_wp2
    go_ret
    exact ⟨by rw [HK.out]; rfl, hbA.trans (hb1.mono hbA.size)⟩
  | true =>
    have y0 : W1.cell? ⟨w.heap.size, 0, none⟩ = some (.slice F.o.a F.o.l.length F.o.c) := (HBX.out.on hb1).c0
    have HB1 := Lib.hid hb1
    clear hb1
    go_wp2_with fail
    refine (CI.out _).mono ?_
    rintro e W2 ⟨rfl, rfl⟩
    have hb1 := HB1.out
    go_wp2
    go_ret
    exact ⟨by rw [HK.out]; rfl, hbA.trans (hb1.mono hbA.size)⟩

end Go.Proofs.Ytmcobaclagmaoaa
