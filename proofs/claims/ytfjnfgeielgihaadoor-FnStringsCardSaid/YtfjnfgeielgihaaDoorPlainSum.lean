/- Plain mathematics of the checksum: the fold over the bytes, its bounds, and one byte more. No condition. -/
import Derived.KernelRfl
namespace Go.Proofs.YtfjnfgeielgihaaDoor

/-- The checksum of a list of bytes. -/
def hsh (l : List UInt8) : Int := l.foldl (fun h c => (41 * h + (c.toNat : Int) + 1) % 999979) 7

theorem hsh_nil : hsh [] = 7 := rfl

theorem hsh_snoc (l : List UInt8) (c : UInt8) : hsh (l ++ [c]) = (41 * hsh l + (c.toNat : Int) + 1) % 999979 := by
  unfold hsh; rw [List.foldl_append]; rfl

theorem hsh_bd (l : List UInt8) : 0 ≤ hsh l ∧ hsh l ≤ 999978 := by
  rcases List.eq_nil_or_concat l with rfl | ⟨l', c, rfl⟩
  · decide
  · rw [List.concat_eq_append, hsh_snoc]
    constructor
    · exact Int.emod_nonneg _ (by decide)
    · have := Int.emod_lt_of_pos (41 * hsh l' + (c.toNat : Int) + 1) (show (0 : Int) < 999979 by decide)
      omega

theorem take_snoc (s : ByteArray) (k : Nat) (h : k < s.size) : s.data.toList.take (k + 1) = s.data.toList.take k ++ [s[k]] := by
  rw [List.take_succ_eq_append_getElem (by simpa using h)]; rfl

theorem hsh_step (s : ByteArray) (k : Nat) (h : k < s.size) : hsh (s.data.toList.take (k + 1)) = (41 * hsh (s.data.toList.take k) + (s[k].toNat : Int) + 1) % 999979 := by
  rw [take_snoc s k h, hsh_snoc]

theorem hsh_all (s : ByteArray) (k : Nat) (h : s.size ≤ k) : hsh (s.data.toList.take k) = hsh s.data.toList := by
  rw [List.take_of_length_le (by simpa using h)]

end Go.Proofs.YtfjnfgeielgihaaDoor
