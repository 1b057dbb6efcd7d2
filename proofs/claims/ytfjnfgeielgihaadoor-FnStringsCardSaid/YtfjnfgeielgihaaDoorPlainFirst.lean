/- Plain mathematics: the first part of a text that is split at a byte is what lies ahead of the byte's first place, and texts that differ have lists that differ. No condition. -/
import Derived.Test.YtfjnfgeielgihaaDoorPlainSplit
import Derived.Test.YtfjnfgeielgihaaDoorPlainHas
import Derived.Lib.IndexMore
import Derived.WideShapes
namespace Go.Proofs.YtfjnfgeielgihaaDoor

theorem str_ne {a b : ByteArray} (h : a ≠ b) : (a.toList == b.toList) = false := by
  rw [beq_eq_false_iff_ne, ByteArray.toList_eq, ByteArray.toList_eq]
  exact fun e => h (WideShapes.bytes_inj e)

/-- What lies ahead of the first such byte; the whole text where there is none. -/
def firstB (s : ByteArray) (c : UInt8) : ByteArray := ⟨(Lib.cut s.data.toList [c]).1.toArray⟩

theorem cut_none (s : ByteArray) (c : UInt8) : ∀ k, (∀ j, j < k → s.data.toList[j]? ≠ some c) → cutAt s c k = ([], 0)
  | 0, _ => rfl
  | k + 1, h => by rw [cutAt, if_neg (h k (by omega)), cut_none s c k fun j hj => h j (by omega)]

theorem cut_behind (s : ByteArray) (c : UInt8) (p : Nat) (hp : s.data.toList[p]? = some c) (hm : ∀ j, j < p → s.data.toList[j]? ≠ some c) : ∀ n, ∃ r, (cutAt s c (p + 1 + n)).1 = s.extract 0 p :: r
  | 0 => ⟨[], by show (cutAt s c (p + 1)).1 = _; rw [cutAt, if_pos hp, cut_none s c p hm]; rfl⟩
  | n + 1 => by
    obtain ⟨r, hr⟩ := cut_behind s c p hp hm n
    show ∃ r, (cutAt s c (p + 1 + n + 1)).1 = _
    rw [cutAt]
    split
    · exact ⟨r ++ [s.extract (cutAt s c (p + 1 + n)).2 (p + 1 + n)], by simp [hr]⟩
    · exact ⟨r, hr⟩

theorem extract_take (s : ByteArray) (p : Nat) : s.extract 0 p = ⟨(s.data.toList.take p).toArray⟩ := by
  apply ByteArray.ext; apply Array.toList_inj.1; simp [Array.toList_extract]

theorem parts_first (s : ByteArray) (c : UInt8) : (parts s c)[0]? = some (firstB s c) := by
  unfold parts firstB Lib.cut
  rw [Lib.index_one]
  by_cases h : 0 ≤ Lib.indexByte s.data.toList c
  · obtain ⟨p, hp⟩ : ∃ p : Nat, Lib.indexByte s.data.toList c = p := ⟨_, (Int.toNat_of_nonneg h).symm⟩
    obtain ⟨h1, h2⟩ := Lib.indexByte_some hp
    have hlt : p < s.size := by
      have := (List.getElem?_eq_some_iff.1 h1).1
      simpa using this
    obtain ⟨r, hr⟩ := cut_behind s c p h1 h2 (s.size - (p + 1))
    rw [show p + 1 + (s.size - (p + 1)) = s.size by omega] at hr
    rw [if_pos h, hr, hp]
    simp only [Int.toNat_natCast]
    rw [← extract_take]; rfl
  · have hn : Lib.indexByte s.data.toList c = -1 := by have := Lib.indexByte_ge s.data.toList c; omega
    have hm := Lib.indexByte_none hn
    rw [if_neg h, cut_none s c s.size fun j _ => hm j]
    simp only [List.nil_append]
    show some (s.extract 0 s.size) = _
    rw [extract_take, List.take_of_length_le (by simp)]

theorem firstB_clear (s : ByteArray) (c : UInt8) : hasB (firstB s c) c = false := by
  unfold hasB firstB Lib.cut
  rw [Lib.index_one]
  by_cases h : 0 ≤ Lib.indexByte s.data.toList c
  · obtain ⟨p, hp⟩ : ∃ p : Nat, Lib.indexByte s.data.toList c = p := ⟨_, (Int.toNat_of_nonneg h).symm⟩
    obtain ⟨h1, h2⟩ := Lib.indexByte_some hp
    rw [if_pos h, hp]
    simp only [Int.toNat_natCast]
    rw [List.contains_eq_mem, decide_eq_false_iff_not]
    intro hmem
    obtain ⟨j, hj, e⟩ := List.getElem_of_mem hmem
    simp only [List.length_take] at hj
    rw [List.getElem_take] at e
    exact h2 j (by omega) (by rw [List.getElem?_eq_getElem (by omega), e])
  · have hn : Lib.indexByte s.data.toList c = -1 := by have := Lib.indexByte_ge s.data.toList c; omega
    have hm := Lib.indexByte_none hn
    rw [if_neg h]
    simp only []
    rw [List.contains_eq_mem, decide_eq_false_iff_not]
    intro hmem
    obtain ⟨j, hj, e⟩ := List.getElem_of_mem hmem
    exact hm j (by rw [List.getElem?_eq_getElem hj, e])

theorem firstB_le (s : ByteArray) (c : UInt8) : (firstB s c).size ≤ s.size := by
  show (Lib.cut s.data.toList [c]).1.toArray.size ≤ _
  unfold Lib.cut
  split
  · simp; omega
  · simp

end Go.Proofs.YtfjnfgeielgihaaDoor
