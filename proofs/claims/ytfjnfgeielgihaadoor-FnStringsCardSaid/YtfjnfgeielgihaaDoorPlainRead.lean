/- Plain mathematics of reading decimal texts: the text of a number reads as that number, both by its digits and by the library's own reading; texts of numbers differ. No condition. -/
import Derived.Test.YtfjnfgeielgihaaDoorPlainNum
import Derived.Test.YtfjnfgeielgihaaDoorPlainSplit
import Derived.Lib.AtoiAll
import Derived.WideShapes
namespace Go.Proofs.YtfjnfgeielgihaaDoor

def Dig (c : UInt8) : Prop := 48 ≤ c.toNat ∧ c.toNat ≤ 57
/-- What digits spell. -/
def natVal (l : List UInt8) : Nat := l.foldl (fun n c => 10 * n + (c.toNat - 48)) 0
theorem natVal_snoc (l : List UInt8) (c : UInt8) : natVal (l ++ [c]) = 10 * natVal l + (c.toNat - 48) := by unfold natVal; rw [List.foldl_append]; rfl

theorem digit_byte (u : Nat) (h : u < 10) : (UInt8.ofNat (48 + u)).toNat = 48 + u := by
  rw [UInt8.toNat_ofNat']; omega

theorem dec_step (u : Nat) (h : ¬ u < 10) : Lib.decDigits u = Lib.decDigits (u / 10) ++ [UInt8.ofNat (48 + u % 10)] := by rw [Lib.decDigits, dif_neg h]

theorem dec_dig (u : Nat) : ∀ c ∈ Lib.decDigits u, Dig c := by
  induction u using Nat.strongRecOn with
  | _ u ih =>
    intro c hc
    by_cases h : u < 10
    · rw [Lib.decDigits, dif_pos h] at hc
      rw [List.mem_singleton] at hc
      subst hc
      unfold Dig; rw [digit_byte u h]; omega
    · rw [dec_step u h, List.mem_append] at hc
      rcases hc with hc | hc
      · exact ih (u / 10) (by omega) c hc
      · rw [List.mem_singleton] at hc
        subst hc
        unfold Dig; rw [digit_byte (u % 10) (by omega)]; omega

theorem dec_val (u : Nat) : natVal (Lib.decDigits u) = u := by
  induction u using Nat.strongRecOn with
  | _ u ih =>
    by_cases h : u < 10
    · rw [Lib.decDigits, dif_pos h]
      show 10 * 0 + ((UInt8.ofNat (48 + u)).toNat - 48) = u
      rw [digit_byte u h]; omega
    · rw [dec_step u h, natVal_snoc, ih (u / 10) (by omega), digit_byte (u % 10) (by omega)]; omega

theorem val_lt' : ∀ (n : Nat) (l : List UInt8), l.length = n → (∀ c ∈ l, Dig c) → natVal l + 1 ≤ 10 ^ n
  | 0, l, hl, _ => by
    obtain rfl := List.eq_nil_of_length_eq_zero hl
    decide
  | n + 1, l, hl, hd => by
    rcases List.eq_nil_or_concat l with rfl | ⟨l', c, rfl⟩
    · simp at hl
    · rw [List.concat_eq_append] at *
      have ih := val_lt' n l' (by simpa using hl) fun c hc => hd c (List.mem_append_left _ hc)
      have hc := hd c (by simp)
      unfold Dig at hc
      rw [natVal_snoc, Nat.pow_succ]
      omega
theorem val_lt (l : List UInt8) (hd : ∀ c ∈ l, Dig c) : natVal l + 1 ≤ 10 ^ l.length := val_lt' _ l rfl hd

theorem parse_digits : ∀ (l : List UInt8) (acc : Nat), (∀ c ∈ l, Dig c) → (acc + 1) * 10 ^ l.length ≤ 1000000000000000000 → Lib.parseUint10 acc l = .ok (l.foldl (fun n c => 10 * n + (c.toNat - 48)) acc)
  | [], acc, _, _ => rfl
  | c :: r, acc, hd, hb => by
    have hc := hd c (by simp)
    unfold Dig at hc
    rw [List.length_cons, Nat.pow_succ, Nat.mul_comm (10 ^ r.length) 10, ← Nat.mul_assoc] at hb
    have hp : 1 ≤ 10 ^ r.length := Nat.one_le_pow _ _ (by decide)
    have h1 : (acc + 1) * 10 ≤ 1000000000000000000 := Nat.le_trans (Nat.le_mul_of_pos_right _ hp) hb
    rw [Lib.parseUint10, if_pos hc, if_neg (by omega), if_neg (by omega), parse_digits r _ (fun c h => hd c (by simp [h])) ?_]
    · rw [List.foldl_cons, Nat.mul_comm acc 10]
    · exact Nat.le_trans (Nat.mul_le_mul_right _ (by omega)) hb

theorem dec_ne (u : Nat) : Lib.decDigits u ≠ [] := by
  intro e
  have := Lib.decDigits_length u
  have := Lib.nDigits_pos u
  rw [e] at *; simp at *; omega

theorem parse_dec (u : Nat) (h : u ≤ 999999) : Lib.parseMag (Lib.decDigits u) = .ok u := by
  unfold Lib.parseMag
  rw [if_neg (dec_ne u), parse_digits _ _ (dec_dig u) ?_]
  · show Lib.NumEnd.ok (natVal (Lib.decDigits u)) = _; rw [dec_val]
  · have hl : (Lib.decDigits u).length ≤ 6 := by rw [Lib.decDigits_length]; exact nDigits_le_pow 5 u (by omega)
    have := Nat.pow_le_pow_right (n := 10) (by decide) hl
    omega

theorem atoi_itoa (n : Int) (h1 : -999999 ≤ n) (h2 : n ≤ 999999) : Lib.atoiAll (Lib.itoa n) = .ok n := by
  unfold Lib.itoa
  by_cases h : n < 0
  · rw [if_pos h]
    unfold Lib.atoiAll
    have e : (45 : UInt8).toNat = 45 := rfl
    simp only [e, or_true, if_true]
    rw [parse_dec n.natAbs (by omega)]
    simp only [not_true_eq_false, false_and, if_false, true_and]
    rw [if_neg (by omega)]
    exact congrArg Lib.NumEnd.ok (by omega)
  · rw [if_neg h]
    cases hl : Lib.decDigits n.toNat with
    | nil => exact absurd hl (dec_ne _)
    | cons c r =>
      have hc := dec_dig n.toNat c (by rw [hl]; simp)
      unfold Dig at hc
      unfold Lib.atoiAll
      simp only []
      rw [if_neg (by omega), ← hl, parse_dec n.toNat (by omega)]
      simp only []
      rw [if_neg (by omega), if_neg (by omega), if_neg (by omega)]
      simp
      omega

/-- s is the text of n, and n is not too great. -/
def Good (s : ByteArray) (n : Int) : Prop := -999999 ≤ n ∧ n ≤ 999999 ∧ numI n = s
theorem numI_list (n : Int) : (numI n).data.toList = Lib.itoa n := rfl
theorem good_atoi {s : ByteArray} {n : Int} (h : Good s n) : Lib.atoiAll s.data.toList = .ok n := by
  obtain ⟨h1, h2, rfl⟩ := h
  exact atoi_itoa n h1 h2
theorem good_unique {s : ByteArray} {n m : Int} (h : Good s n) (k : Good s m) : n = m := by
  have := (good_atoi h).symm.trans (good_atoi k)
  injection this

/-- What reading a text gives: its number and true, or 0 and false. -/
def readF (s : ByteArray) : Int × Bool :=
  match Lib.atoiAll s.data.toList with
  | .ok v => if -999999 ≤ v ∧ v ≤ 999999 ∧ (numI v).toList == s.toList then (v, true) else (0, false)
  | _ => (0, false)
theorem eq_of_toList {a b : ByteArray} (h : (a.toList == b.toList) = true) : a = b := by
  rw [beq_iff_eq, ByteArray.toList_eq, ByteArray.toList_eq] at h
  exact WideShapes.bytes_inj h
theorem readF_good {s : ByteArray} {n : Int} (h : Good s n) : readF s = (n, true) := by
  unfold readF; rw [good_atoi h]
  obtain ⟨h1, h2, rfl⟩ := h
  simp only []
  rw [if_pos ⟨h1, h2, by simp⟩]
theorem readF_bad {s : ByteArray} (h : ∀ n, ¬ Good s n) : readF s = (0, false) := by
  unfold readF
  cases Lib.atoiAll s.data.toList with
  | ok v =>
    simp only []
    rw [if_neg]
    rintro ⟨h1, h2, h3⟩
    exact h v ⟨h1, h2, eq_of_toList h3⟩
  | «syntax» => rfl
  | range => rfl

theorem mem_dig {s : ByteArray} (hd : ∀ c ∈ s.data.toList, Dig c) (k : Nat) (hk : k < s.size) : Dig s[k] := hd _ (Array.mem_toList_iff.2 (Array.getElem_mem (by simpa using hk)))
theorem dig_mem {s : ByteArray} (hd : ∀ k (h : k < s.size), Dig s[k]) : ∀ c ∈ s.data.toList, Dig c := by
  intro c hc
  obtain ⟨k, hk, rfl⟩ := List.getElem_of_mem hc
  exact hd k (by simpa using hk)

theorem good_pos {s : ByteArray} {n : Int} (h : Good s n) (hn : 0 ≤ n) : 1 ≤ s.size ∧ s.size ≤ 6 ∧ (∀ k (h : k < s.size), Dig s[k]) ∧ (natVal s.data.toList : Int) = n := by
  obtain ⟨h1, h2, rfl⟩ := h
  obtain ⟨u, rfl⟩ : ∃ u : Nat, n = (u : Int) := ⟨n.toNat, by omega⟩
  rw [numI_nat]
  refine ⟨num_size_pos u, ?_, mem_dig (dec_dig u), ?_⟩
  · rw [num_size]; exact nDigits_le_pow 5 u (by omega)
  · show ((natVal (Lib.decDigits u) : Nat) : Int) = u; rw [dec_val]

theorem good_neg {s : ByteArray} {n : Int} (h : Good s n) (hn : n < 0) : ∃ hs : 1 < s.size, s[0] = 45 ∧ 1 ≤ (s.extract 1 s.size).size ∧ (s.extract 1 s.size).size ≤ 6 ∧ (∀ k (h : k < (s.extract 1 s.size).size), Dig (s.extract 1 s.size)[k]) ∧ (natVal (s.extract 1 s.size).data.toList : Int) = -n := by
  obtain ⟨h1, h2, rfl⟩ := h
  obtain ⟨u, rfl⟩ : ∃ u : Nat, n = -(u : Int) := ⟨n.natAbs, by omega⟩
  have e := numI_neg u (by omega)
  have ht : (numI (-(u : Int))).extract 1 (numI (-(u : Int))).size = num u := by
    rw [e]; apply ByteArray.ext; apply Array.toList_inj.1
    simp [ByteArray.size_append, ByteArray.data_append, ByteArray.data_extract]
    rw [show (ByteArray.size { data := #[45] }) = 1 from rfl, show 1 + (num u).size - 1 = (num u).size by omega]
    show List.take (num u).data.toList.length (num u).data.toList = _
    rw [List.take_length]
  rw [ht]
  have hz : (numI (-(u : Int))).size = 1 + (num u).size := by rw [e, ByteArray.size_append]; rfl
  have hp := num_size_pos u
  refine ⟨by omega, ?_, hp, ?_, mem_dig (dec_dig u), ?_⟩
  · have : (numI (-(u : Int))).data.toList[0]? = some 45 := by rw [numI_list]; unfold Lib.itoa; rw [if_pos (by omega)]; rfl
    rw [get_list _ 0 (by omega)] at this
    simpa using this
  · rw [num_size]; exact nDigits_le_pow 5 u (by omega)
  · show ((natVal (Lib.decDigits u) : Nat) : Int) = _; rw [dec_val]; omega

theorem val_step (s : ByteArray) (k : Nat) (h : k < s.size) : natVal (s.data.toList.take (k + 1)) = 10 * natVal (s.data.toList.take k) + (s[k].toNat - 48) := by
  have e : s.data.toList.take (k + 1) = s.data.toList.take k ++ [s[k]] := by rw [List.take_succ_eq_append_getElem (by simpa using h)]; rfl
  rw [e, natVal_snoc]
theorem val_all (s : ByteArray) : natVal (s.data.toList.take s.size) = natVal s.data.toList := by rw [List.take_of_length_le (by simp)]
theorem digs_snoc {s : ByteArray} {k : Nat} (h : k < s.size) (hd : ∀ c ∈ s.data.toList.take k, Dig c) (hk : Dig s[k]) : ∀ c ∈ s.data.toList.take (k + 1), Dig c := by
  have e : s.data.toList.take (k + 1) = s.data.toList.take k ++ [s[k]] := by rw [List.take_succ_eq_append_getElem (by simpa using h)]; rfl
  rw [e]; intro c hc
  rcases List.mem_append.1 hc with hc | hc
  · exact hd c hc
  · simp at hc; subst hc; exact hk
theorem val_bd {s : ByteArray} {k : Nat} (hk : k ≤ 6) (hd : ∀ c ∈ s.data.toList.take k, Dig c) : natVal (s.data.toList.take k) ≤ 999999 := by
  have h1 := val_lt _ hd
  have h2 : (s.data.toList.take k).length ≤ 6 := Nat.le_trans (List.length_take_le _ _) hk
  have := Nat.pow_le_pow_right (n := 10) (by decide) h2
  omega

end Go.Proofs.YtfjnfgeielgihaaDoor
