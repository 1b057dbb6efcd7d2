/- Plain mathematics of splitting a text at a byte: the parts that are done and the place from which the next one goes on. No condition. -/
import Derived.KernelRfl
namespace Go.Proofs.YtfjnfgeielgihaaDoor

/-- Behind the first k bytes: the parts that are done, and where the next part begins. -/
def cutAt (s : ByteArray) (c : UInt8) : Nat → List ByteArray × Nat
  | 0 => ([], 0)
  | k + 1 => if s.data.toList[k]? = some c then ((cutAt s c k).1 ++ [s.extract (cutAt s c k).2 k], k + 1) else cutAt s c k

def CutIs (s : ByteArray) (c : UInt8) (k : Nat) (D : List ByteArray) (f : Nat) : Prop := cutAt s c k = (D, f)

/-- The parts of a text. -/
def parts (s : ByteArray) (c : UInt8) : List ByteArray := (cutAt s c s.size).1 ++ [s.extract (cutAt s c s.size).2 s.size]

theorem cut_zero (s : ByteArray) (c : UInt8) : CutIs s c 0 [] 0 := rfl
theorem get_list (s : ByteArray) (k : Nat) (h : k < s.size) : s.data.toList[k]? = some s[k] := by
  rw [List.getElem?_eq_getElem (by simpa using h)]; rfl
theorem cut_hit {s : ByteArray} {c : UInt8} {k : Nat} {D : List ByteArray} {f : Nat} (h : CutIs s c k D f) (hk : k < s.size) (hc : s[k] = c) : CutIs s c (k + 1) (D ++ [s.extract f k]) (k + 1) := by
  unfold CutIs at *
  rw [cutAt, if_pos (by rw [get_list s k hk, hc]), h]
theorem cut_miss {s : ByteArray} {c : UInt8} {k : Nat} {D : List ByteArray} {f : Nat} (h : CutIs s c k D f) (hk : k < s.size) (hc : s[k] ≠ c) : CutIs s c (k + 1) D f := by
  unfold CutIs at *
  rw [cutAt, if_neg (by rw [get_list s k hk]; simpa using hc), h]
theorem cut_end {s : ByteArray} {c : UInt8} {k : Nat} {D : List ByteArray} {f : Nat} (h : CutIs s c k D f) (hk : k = s.size) : parts s c = D ++ [s.extract f s.size] := by
  subst hk; unfold parts; rw [h]
theorem cut_len (s : ByteArray) (c : UInt8) (k : Nat) : (cutAt s c k).1.length ≤ k := by
  induction k with
  | zero => simp [cutAt]
  | succ k ih =>
    rw [cutAt]; split
    · simp; omega
    · omega
theorem parts_len (s : ByteArray) (c : UInt8) : (parts s c).length ≤ s.size + 1 := by
  unfold parts; rw [List.length_append]; have := cut_len s c s.size; simp; omega

end Go.Proofs.YtfjnfgeielgihaaDoor
