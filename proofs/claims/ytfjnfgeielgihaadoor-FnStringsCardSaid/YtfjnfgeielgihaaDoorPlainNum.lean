/- Plain mathematics of decimal texts: the text of a number as bytes, one digit more, its length. No condition. -/
import Derived.Lib.ItoaNum
namespace Go.Proofs.YtfjnfgeielgihaaDoor

/-- The decimal text of a natural number. -/
def num (u : Nat) : ByteArray := ⟨(Lib.decDigits u).toArray⟩
/-- The decimal text of an integer. -/
def numI (n : Int) : ByteArray := ⟨(Lib.itoa n).toArray⟩

theorem numI_nat (u : Nat) : numI (u : Int) = num u := by unfold numI num Lib.itoa; rw [if_neg (by omega)]; simp
theorem numI_neg (u : Nat) (h : 1 ≤ u) : numI (-(u : Int)) = ⟨#[45]⟩ ++ num u := by
  unfold numI num Lib.itoa; rw [if_pos (by omega)]
  have e : (-(u : Int)).natAbs = u := by omega
  rw [e]; apply ByteArray.ext; simp [ByteArray.data_append]

theorem num_digits (n : Nat) (h : ¬ n < 10) : num (n / 10) ++ num (n % 10) = num n := by
  have hm : n % 10 < 10 := Nat.mod_lt _ (by decide)
  have e : Lib.decDigits n = Lib.decDigits (n / 10) ++ Lib.decDigits (n % 10) := by
    rw [Lib.decDigits, dif_neg h]
    conv => rhs; rhs; rw [Lib.decDigits, dif_pos hm]
  unfold num; rw [e]; apply ByteArray.ext; simp [ByteArray.data_append]

theorem num_size (n : Nat) : (num n).size = Lib.nDigits n := by unfold num; show (Lib.decDigits n).toArray.size = _; rw [List.size_toArray, Lib.decDigits_length]

theorem nDigits_le_pow (k n : Nat) (h : n < 10 ^ (k + 1)) : Lib.nDigits n ≤ k + 1 := by
  induction k generalizing n with
  | zero => rw [Lib.nDigits_small (by simpa using h)]; exact Nat.le_refl _
  | succ k ih =>
    by_cases hs : n < 10
    · rw [Lib.nDigits_small hs]; omega
    · rw [Lib.nDigits_big hs]; have := ih (n / 10) (by rw [Nat.pow_succ] at h; omega); omega

theorem num_size_le (n : Nat) (h : n ≤ 9999999) : (num n).size ≤ 7 := by rw [num_size]; exact nDigits_le_pow 6 n (by omega)
theorem num_size_pos (n : Nat) : 1 ≤ (num n).size := by rw [num_size]; exact Lib.nDigits_pos n

end Go.Proofs.YtfjnfgeielgihaaDoor
