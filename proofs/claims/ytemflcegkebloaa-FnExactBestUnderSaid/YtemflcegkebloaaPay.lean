/- The contracts of payments, totals and reaches, on both sides. Condition: Field and set read as such. -/
import Derived.Test.YtemflcegkebloaaServe
namespace Go.Proofs.Ytemflcegkebloaa
open Go.RowKit

theorem pays_length (o : List Int) (T : List Nat) : (pays o T).length = T.length := by unfold pays; simp
theorem pays_at (o : List Int) (T : List Nat) {i : Nat} (h : i < T.length) : (pays o T)[i]'(by rw [pays_length]; exact h) = o.getD T[i] 0 := by simp [pays]
/-- A valid Field and a valid set, perhaps without sites. -/
structure Able (F : Fld) (s : Row) (T : List Nat) : Prop where
  good : F.good = true
  set : s.l = up T
  lt : ∀ m ∈ T, m < F.o.l.length
  few : T.length ≤ 1048576
theorem able_of {F : Fld} {s : Row} (h1 : F.good = true) (h2 : setB F.o.l.length s.l = true) (h3 : s.l.length ≤ 1048576) : ∃ T, Able F s T := by
  obtain ⟨T, hT, hl⟩ := set_nat h2
  exact ⟨T, h1, hT, hl, by rw [hT, up_length] at h3; exact h3⟩
theorem able_like {F G : Fld} {s t : Row} {T : List Nat} (h : Able F s T) (hl : G.Like F) (hs : t.l = s.l) : Able G t T :=
  ⟨hl.good.trans h.good, hs.trans h.set, fun m hm => by rw [hl.1]; exact h.lt m hm, h.few⟩

set_option maxHeartbeats 1000000 in
theorem l2Pay_any (F : Fld) (s : Row) (T : List Nat) (w : World) (hF : F.At w) (hs : s.At w) (hf : Able F s T) :
    Calls Try.prog 50 #[F.val, .slice s.a s.l.length s.c] w fun e w' => e = .returned (.int .i64 (pays F.o.l T).sum) ∧ Below w.heap.size w w' := by
  obtain ⟨wA, hA, hbA, bx, hFA, hszA⟩ := laid_fld F w 29 hF
  have HSA := Lib.hid (hs.on hbA)
  have HFA := Lib.hid hFA
  have HBX := Lib.hid bx
  have HA := Lib.hid hA
  have hsA := hs.on hbA
  have hsz := good_sizes hf.good
  have hoi : (F.o.l.length : Int) ≤ 7 := by omega
  have HLB := Lib.hid (pays_bound hf.good T)
  have x0 : wA.cell? ⟨w.heap.size, 0, none⟩ = some (.slice F.o.a F.o.l.length F.o.c) := bx.c0
  have hti : (T.length : Int) ≤ 1048576 := by have := hf.few; omega
  have hsl : s.l.length = T.length := by rw [hf.set, up_length]
  obtain ⟨g1, g2, g3⟩ := hFA.1
  obtain ⟨h1, h2, h3⟩ := hsA
  have HO := Lib.hid g3
  have HS := Lib.hid h3
  have HFI := Lib.hid hf
  rw [hsl]
  clear hF hs hA hFA bx hf g1 g2 g3 h1 h2 h3 hsl
  show Calls _ _ #[.agg #[.slice F.o.a F.o.l.length F.o.c, F.t.val], _] w _
  go_enter Try.func50, Try.ntmps50
  go_wp2
  go_loopw [5, 6] (fun sv i wr => ∃ k : Nat, k ≤ T.length ∧ i = .int .i64 k ∧ sv = .int .i64 ((pays F.o.l T).take k).sum ∧ DrewTo wA wr) (fun _ i _ => T.length - (intOf i).toNat)
  case atStart => exact ⟨0, Nat.zero_le _, rfl, by simp, by rw [HA.out]; exact DrewTo.refl _⟩
  case round =>
    obtain ⟨k, hk, rfl, rfl, hdw⟩ := hrel
    by_cases hlt : k < T.length
    · have hlti : (k : Int) < (T.length : Int) := by omega
      obtain ⟨m, hm⟩ : ∃ m, m = T[k] := ⟨_, rfl⟩
      have hmb : m < F.o.l.length := HFI.out.lt m (by rw [hm]; exact List.getElem_mem hlt)
      rcases HS.out with h3 | ⟨b, o, ha, hbb, hcell⟩
      · have h3' := congrArg List.length (iv_nil h3); rw [HFI.out.set, up_length, List.length_nil] at h3'; omega
      rcases HO.out with g3 | ⟨b', o', ha', hbb', hcell'⟩
      · have g3' := congrArg List.length (iv_nil g3); rw [List.length_nil] at g3'; omega
      obtain ⟨x, hx⟩ : ∃ x, x = F.o.l.getD m 0 := ⟨_, rfl⟩
      have hcm : wr.cell? ⟨b, o + k, none⟩ = some (.int .i64 (m : Int)) := by
        rw [hdw.cell]; refine hcell k _ ?_
        rw [HFI.out.set, iv_at (by rw [up_length]; exact hlt), up_at hlt, hm]
      have hcx : wr.cell? ⟨b', o' + m, none⟩ = some (.int .i64 x) := by rw [hdw.cell, hx, getD_at hmb]; exact hcell' m _ (iv_at hmb)
      have hc0 : wr.cell? ⟨w.heap.size, 0, none⟩ = some (.slice (some ⟨b', o', none⟩) F.o.l.length F.o.c) := by rw [hdw.cell, ← ha']; exact x0
      have hmi : (m : Int) < (F.o.l.length : Int) := by omega
      have hx2 : (pays F.o.l T)[k]'(by rw [pays_length]; exact hlt) = x := by rw [pays_at _ _ hlt, hx, hm]
      have hxb := HLB.out x (by rw [← hx2]; exact List.getElem_mem _)
      obtain ⟨y, hy⟩ : ∃ y, y = ((pays F.o.l T).take k).sum := ⟨_, rfl⟩
      have hyb := take_bound HLB.out k
      rw [← hy] at hyb ⊢
      have HSU : Hid (((pays F.o.l T).take (k + 1)).sum = y + x) := Lib.hid (by rw [sum_step (by rw [pays_length]; exact hlt), hx2, hy])
      have e1 : (0 : Int) ≤ y + x := by omega
      have e2 : y + x ≤ 9223372036854775807 := by omega
      rw [ha]
      clear hm hx hx2 hy hcell hcell' ha ha' x0
      go_wp2
      first
        | (go_quiet (fail)
           go_wp2
           go_roundw
           case rel => exact ⟨k + 1, by omega, by go_num, by rw [HSU.out], hdw.more _⟩
           case measure => simp [intOf]; omega)
        | (go_roundw
           case rel => exact ⟨k + 1, by omega, by go_num, by rw [HSU.out], hdw⟩
           case measure => simp [intOf]; omega)
    · obtain rfl : k = T.length := by omega
      have HT : Hid ((pays F.o.l T).take T.length = pays F.o.l T) := Lib.hid (List.take_of_length_le (by rw [pays_length]; exact Nat.le_refl _))
      go_wp2
      go_ret
      exact ⟨by rw [HT.out]; rfl, hbA.trans (hdw.below.mono hbA.size)⟩

/-- What PaymentOf answers. -/
def Pays (F : Fld) (s : Row) (v : Int) (b : Bool) : Prop :=
  ((F.good && setB F.o.l.length s.l) = false ∧ v = 0 ∧ b = false) ∨ (∃ T, Able F s T ∧ F.good = true ∧ setB F.o.l.length s.l = true ∧ v = (pays F.o.l T).sum ∧ b = true)

set_option maxHeartbeats 1000000 in
theorem paymentFor_any (F : Fld) (s : Row) (T : List Nat) (w : World) (hF : F.At w) (hs : s.At w) (hf : Able F s T) :
    Calls Try.prog 68 #[F.val, .slice s.a s.l.length s.c] w fun e w' => e = .returned (.int .i64 (pays F.o.l T).sum) ∧ Below w.heap.size w w' := by
  obtain ⟨wA, hA, hbA, bx, hFA, hszA⟩ := laid_fld F w 29 hF
  have HSA := Lib.hid (hs.on hbA)
  have HFA := Lib.hid hFA
  have HBX := Lib.hid bx
  have HA := Lib.hid hA
  have hsA := hs.on hbA
  have hsz := good_sizes hf.good
  have hoi : (F.o.l.length : Int) ≤ 7 := by omega
  have HLB := Lib.hid (pays_bound hf.good T)
  have x0 : wA.cell? ⟨w.heap.size, 0, none⟩ = some (.slice F.o.a F.o.l.length F.o.c) := bx.c0
  have hti : (T.length : Int) ≤ 1048576 := by have := hf.few; omega
  have hsl : s.l.length = T.length := by rw [hf.set, up_length]
  obtain ⟨g1, g2, g3⟩ := hFA.1
  obtain ⟨h1, h2, h3⟩ := hsA
  have HO := Lib.hid g3
  have HS := Lib.hid h3
  have HFI := Lib.hid hf
  rw [hsl]
  clear hF hs hA hFA bx hf g1 g2 g3 h1 h2 h3 hsl
  show Calls _ _ #[.agg #[.slice F.o.a F.o.l.length F.o.c, F.t.val], _] w _
  go_enter Try.func68, Try.ntmps68
  go_wp2
  go_loopw [5, 7, 10] (fun sv _ i wr => ∃ k : Nat, k ≤ T.length ∧ i = .int .i64 k ∧ sv = .int .i64 ((pays F.o.l T).take k).sum ∧ DrewTo wA wr) (fun _ _ i _ => T.length - (intOf i).toNat)
  case atStart => exact ⟨0, Nat.zero_le _, rfl, by simp, by rw [HA.out]; exact DrewTo.refl _⟩
  case round =>
    obtain ⟨k, hk, rfl, rfl, hdw⟩ := hrel
    by_cases hlt : k < T.length
    · have hlti : (k : Int) < (T.length : Int) := by omega
      obtain ⟨m, hm⟩ : ∃ m, m = T[k] := ⟨_, rfl⟩
      have hmb : m < F.o.l.length := HFI.out.lt m (by rw [hm]; exact List.getElem_mem hlt)
      rcases HS.out with h3 | ⟨b, o, ha, hbb, hcell⟩
      · have h3' := congrArg List.length (iv_nil h3); rw [HFI.out.set, up_length, List.length_nil] at h3'; omega
      rcases HO.out with g3 | ⟨b', o', ha', hbb', hcell'⟩
      · have g3' := congrArg List.length (iv_nil g3); rw [List.length_nil] at g3'; omega
      obtain ⟨x, hx⟩ : ∃ x, x = F.o.l.getD m 0 := ⟨_, rfl⟩
      have hcm : wr.cell? ⟨b, o + k, none⟩ = some (.int .i64 (m : Int)) := by
        rw [hdw.cell]; refine hcell k _ ?_
        rw [HFI.out.set, iv_at (by rw [up_length]; exact hlt), up_at hlt, hm]
      have hcx : wr.cell? ⟨b', o' + m, none⟩ = some (.int .i64 x) := by rw [hdw.cell, hx, getD_at hmb]; exact hcell' m _ (iv_at hmb)
      have hc0 : wr.cell? ⟨w.heap.size, 0, none⟩ = some (.slice (some ⟨b', o', none⟩) F.o.l.length F.o.c) := by rw [hdw.cell, ← ha']; exact x0
      have hmi : (m : Int) < (F.o.l.length : Int) := by omega
      have hx2 : (pays F.o.l T)[k]'(by rw [pays_length]; exact hlt) = x := by rw [pays_at _ _ hlt, hx, hm]
      have hxb := HLB.out x (by rw [← hx2]; exact List.getElem_mem _)
      obtain ⟨y, hy⟩ : ∃ y, y = ((pays F.o.l T).take k).sum := ⟨_, rfl⟩
      have hyb := take_bound HLB.out k
      rw [← hy] at hyb ⊢
      have HSU : Hid (((pays F.o.l T).take (k + 1)).sum = y + x) := Lib.hid (by rw [sum_step (by rw [pays_length]; exact hlt), hx2, hy])
      have e1 : (0 : Int) ≤ y + x := by omega
      have e2 : y + x ≤ 9223372036854775807 := by omega
      rw [ha]
      clear hm hx hx2 hy hcell hcell' ha ha' x0
      go_wp2
      first
        | (go_quiet (fail)
           go_wp2
           go_roundw
           case rel => exact ⟨k + 1, by omega, by go_num, by rw [HSU.out], hdw.more _⟩
           case measure => simp [intOf]; omega)
        | (go_roundw
           case rel => exact ⟨k + 1, by omega, by go_num, by rw [HSU.out], hdw⟩
           case measure => simp [intOf]; omega)
    · obtain rfl : k = T.length := by omega
      have HT : Hid ((pays F.o.l T).take T.length = pays F.o.l T) := Lib.hid (List.take_of_length_le (by rw [pays_length]; exact Nat.le_refl _))
      go_wp2
      go_ret
      exact ⟨by rw [HT.out]; rfl, hbA.trans (hdw.below.mono hbA.size)⟩

end Go.Proofs.Ytemflcegkebloaa
