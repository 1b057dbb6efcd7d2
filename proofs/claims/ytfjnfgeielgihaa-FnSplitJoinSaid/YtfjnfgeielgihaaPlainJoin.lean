/- Plain mathematics of joining texts: what has been joined behind the first k texts, its size, and when joining succeeds. No condition. -/
import Derived.Test.YtfjnfgeielgihaaPlainHas
import Derived.Test.YtfjnfgeielgihaaPlainRow
import Derived.Lib.Join
import Derived.WideShapes
namespace Go.Proofs.Ytfjnfgeielgihaa

def sumSz (l : List ByteArray) : Nat := (l.map (·.size)).sum
theorem sumSz_step {l : List ByteArray} {k : Nat} (h : k < l.length) : sumSz (l.take (k + 1)) = sumSz (l.take k) + l[k].size := by
  unfold sumSz; rw [List.take_succ_eq_append_getElem h, List.map_append, List.sum_append]; simp
theorem sumSz_all (l : List ByteArray) : sumSz (l.take l.length) = sumSz l := by rw [List.take_length]

/-- What has been joined behind the first k texts. -/
def joinTo (sep : ByteArray) (l : List ByteArray) : Nat → ByteArray
  | 0 => ⟨#[]⟩
  | k + 1 => (if 0 < k then joinTo sep l k ++ sep else joinTo sep l k) ++ l.getD k ⟨#[]⟩

theorem join_first {sep : ByteArray} {l : List ByteArray} (h : 0 < l.length) : joinTo sep l 0 ++ l[0] = joinTo sep l 1 := by
  simp [joinTo, List.getD_eq_getElem?_getD, h]
theorem join_next {sep : ByteArray} {l : List ByteArray} {k : Nat} (hk : 0 < k) (h : k < l.length) : joinTo sep l k ++ sep ++ l[k] = joinTo sep l (k + 1) := by
  simp [joinTo, List.getD_eq_getElem?_getD, h, hk]

theorem join_size {sep : ByteArray} {l : List ByteArray} (hs : sep.size = 1) : ∀ k, k ≤ l.length → (joinTo sep l k).size = sumSz (l.take k) + (k - 1)
  | 0, _ => rfl
  | 1, h => by rw [← join_first (by omega), sumSz_step (by omega), ByteArray.size_append]; simp [joinTo, sumSz]; rfl
  | k + 2, h => by
    rw [← join_next (by omega) (by omega), ByteArray.size_append, ByteArray.size_append, join_size hs (k + 1) (by omega), hs, sumSz_step (l := l) (k := k + 1) (by omega)]
    omega
theorem sumSz_mono (l : List ByteArray) (k : Nat) : sumSz (l.take k) ≤ sumSz l := by
  conv => rhs; rw [← List.take_append_drop k l]
  unfold sumSz; rw [List.map_append, List.sum_append]; omega
theorem join_mono {sep : ByteArray} {l : List ByteArray} (hs : sep.size = 1) (k : Nat) (h : k ≤ l.length) : (joinTo sep l k).size ≤ (joinTo sep l l.length).size := by
  rw [join_size hs k h, join_size hs l.length (Nat.le_refl _), sumSz_all]
  have := sumSz_mono l k
  omega

/-- Joining succeeds. -/
def JoinOk (l : List ByteArray) (sep : ByteArray) : Prop := l ≠ [] ∧ ∃ h : sep.size = 1, (∀ p ∈ l, hasB p (sep[0]'(by omega)) = false) ∧ (joinTo sep l l.length).size ≤ 4000
/-- What joining gives: the text and true, or the empty text and false. -/
noncomputable def joinF (l : List ByteArray) (sep : ByteArray) : ByteArray × Bool :=
  open Classical in if JoinOk l sep then (joinTo sep l l.length, true) else (⟨#[]⟩, false)
theorem joinF_ok {l : List ByteArray} {sep : ByteArray} (h : JoinOk l sep) : joinF l sep = (joinTo sep l l.length, true) := if_pos h
theorem joinF_bad {l : List ByteArray} {sep : ByteArray} (h : ¬ JoinOk l sep) : joinF l sep = (⟨#[]⟩, false) := if_neg h

theorem clear_snoc {l : List ByteArray} {c : UInt8} {k : Nat} (h : k < l.length) (hd : ∀ p ∈ l.take k, hasB p c = false) (hk : hasB l[k] c = false) : ∀ p ∈ l.take (k + 1), hasB p c = false := by
  rw [List.take_succ_eq_append_getElem h]; intro p hp
  rcases List.mem_append.1 hp with hp | hp
  · exact hd p hp
  · rw [List.mem_singleton] at hp; subst hp; exact hk

theorem one_byte (sep : ByteArray) (h : sep.size = 1) : sep = ⟨#[sep[0]'(by omega)]⟩ := by
  apply ByteArray.ext
  apply Array.ext
  · exact h
  · intro i h1 h2
    have : i = 0 := by simp at h2; omega
    subst this
    rfl

theorem data_append (a b : ByteArray) : (a ++ b).data.toList = a.data.toList ++ b.data.toList := by rw [ByteArray.data_append, Array.toList_append]
theorem join_lists (sep x : ByteArray) (r : List ByteArray) : ∀ k, k ≤ r.length → (joinTo sep (x :: r) (k + 1)).data.toList = x.data.toList ++ Lib.joinTail sep.data.toList ((r.map (·.data.toList)).take k)
  | 0, _ => by
    rw [← join_first (by simp), data_append]
    simp [joinTo, Lib.joinTail]
  | k + 1, h => by
    have hk : k < r.length := by omega
    rw [← join_next (k := k + 1) (by omega) (by simpa using hk), data_append, data_append, join_lists sep x r k (by omega),
      Lib.joinTail_take_succ sep.data.toList (r.map (·.data.toList)) k (r[k].data.toList) (by rw [List.getElem?_map, List.getElem?_eq_getElem hk]; rfl)]
    simp
theorem lib_join (sep : ByteArray) (l : List ByteArray) : (⟨(Lib.join (l.map (·.data.toList)) sep.data.toList).toArray⟩ : ByteArray) = joinTo sep l l.length := by
  apply WideShapes.bytes_inj
  cases l with
  | nil => rfl
  | cons x r =>
    rw [show (x :: r).length = r.length + 1 from rfl, join_lists sep x r r.length (Nat.le_refl _), List.map_cons, Lib.join_cons]
    rw [List.take_of_length_le (by simp)]

end Go.Proofs.Ytfjnfgeielgihaa
