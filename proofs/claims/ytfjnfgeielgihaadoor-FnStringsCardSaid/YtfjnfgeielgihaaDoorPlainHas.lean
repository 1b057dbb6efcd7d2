/- Plain mathematics: whether a byte stands in a text, and at which place first. No condition. -/
import Derived.Lib.IndexAny
namespace Go.Proofs.YtfjnfgeielgihaaDoor

/-- Whether a byte stands in a text. -/
def hasB (s : ByteArray) (c : UInt8) : Bool := s.data.toList.contains c

theorem hasB_no {s : ByteArray} {c : UInt8} (h : hasB s c = false) (k : Nat) (hk : k < s.size) : s[k] ≠ c := by
  intro e
  have hm : c ∈ s.data.toList := by
    rw [← e]; exact Array.mem_toList_iff.2 (Array.getElem_mem (by simpa using hk))
  unfold hasB at h
  rw [List.contains_iff_mem.2 hm] at h
  cases h

theorem first_of {p : Nat → Prop} [DecidablePred p] : ∀ n, (∃ k, k < n ∧ p k) → ∃ k, k < n ∧ p k ∧ ∀ j, j < k → ¬ p j
  | 0, h => by obtain ⟨k, hk, _⟩ := h; omega
  | n + 1, h => by
    by_cases h' : ∃ k, k < n ∧ p k
    · obtain ⟨k, hk, hp, hm⟩ := first_of n h'
      exact ⟨k, by omega, hp, hm⟩
    · obtain ⟨k, hk, hp⟩ := h
      refine ⟨k, hk, hp, fun j hj hpj => h' ⟨j, by omega, hpj⟩⟩

theorem hasB_yes {s : ByteArray} {c : UInt8} (h : hasB s c = true) : ∃ (p : Nat) (hp : p < s.size), s[p] = c ∧ ∀ j (hj : j < p), s[j]'(by omega) ≠ c := by
  unfold hasB at h
  have hm := List.contains_iff_mem.1 h
  obtain ⟨k, hk, e⟩ := List.getElem_of_mem hm
  have hk' : k < s.size := by simpa using hk
  obtain ⟨p, hp, ⟨hp2, hpe⟩, hmin⟩ := first_of (p := fun k => ∃ h : k < s.size, s[k] = c) s.size ⟨k, hk', hk', by rw [← e]; rfl⟩
  exact ⟨p, hp, hpe, fun j hj e => hmin j hj ⟨by omega, e⟩⟩

end Go.Proofs.YtfjnfgeielgihaaDoor
