/- Plain mathematics: joining the parts of a text gives the text back, and the order of bytes is strict. No condition. -/
import Derived.Test.YtfjnfgeielgihaaPlainSplit
import Derived.Test.YtfjnfgeielgihaaPlainJoin
import GoSem.Op.String
namespace Go.Proofs.Ytfjnfgeielgihaa

/-- Texts, each with the separator behind it. -/
def pre (sep : ByteArray) (D : List ByteArray) : ByteArray := D.foldl (fun acc p => acc ++ p ++ sep) ⟨#[]⟩
theorem pre_snoc (sep : ByteArray) (D : List ByteArray) (p : ByteArray) : pre sep (D ++ [p]) = pre sep D ++ p ++ sep := by unfold pre; rw [List.foldl_append]; rfl
theorem empty_append (x : ByteArray) : (⟨#[]⟩ : ByteArray) ++ x = x := by apply ByteArray.ext; simp [ByteArray.data_append]

theorem join_pre (sep : ByteArray) (l : List ByteArray) : ∀ k, k < l.length → joinTo sep l (k + 1) ++ sep = pre sep (l.take (k + 1))
  | 0, h => by
    rw [← join_first h, List.take_succ_eq_append_getElem h, pre_snoc]
    simp [joinTo, pre]
  | k + 1, h => by
    rw [← join_next (by omega) h, join_pre sep l k (by omega), List.take_succ_eq_append_getElem h, pre_snoc]
theorem join_last (sep : ByteArray) (D : List ByteArray) (x : ByteArray) : joinTo sep (D ++ [x]) (D.length + 1) = pre sep D ++ x := by
  cases D with
  | nil => rw [show ([] : List ByteArray).length + 1 = 1 from rfl, ← join_first (by simp)]; rfl
  | cons d r =>
    have hl : (d :: r).length = r.length + 1 := rfl
    have h1 := join_pre sep (d :: r ++ [x]) r.length (by simp; omega)
    have e1 : (d :: r ++ [x]).take (r.length + 1) = d :: r := by rw [← hl]; exact List.take_left
    rw [e1] at h1
    have h2 := join_next (sep := sep) (l := d :: r ++ [x]) (k := r.length + 1) (by omega) (by simp)
    rw [h1] at h2
    rw [hl, ← h2]
    simp

theorem ext_append (s : ByteArray) (a b : Nat) (h1 : a ≤ b) : s.extract 0 a ++ s.extract a b = s.extract 0 b := by
  apply ByteArray.ext; apply Array.toList_inj.1
  simp only [ByteArray.data_append, ByteArray.data_extract, Array.toList_append, Array.toList_extract, List.extract, Nat.sub_zero, List.drop_zero]
  conv => rhs; rw [← List.take_append_drop a (List.take b s.data.toList)]
  rw [List.take_take, Nat.min_eq_left h1, List.drop_take]
theorem ext_one (s : ByteArray) (k : Nat) (h : k < s.size) : s.extract k (k + 1) = ⟨#[s[k]]⟩ := by
  apply ByteArray.ext; apply Array.toList_inj.1
  simp only [ByteArray.data_extract, Array.toList_extract, List.extract]
  have hd : s.data.toList.drop k = s[k] :: s.data.toList.drop (k + 1) := List.drop_eq_getElem_cons (by simpa using h)
  rw [show k + 1 - k = 1 by omega, hd]
  rfl
theorem clear_extract {s : ByteArray} {m : UInt8} {f k : Nat} (hk : k ≤ s.size) (h : ∀ j (_ : f ≤ j) (h2 : j < k), s[j]'(by omega) ≠ m) : hasB (s.extract f k) m = false := by
  unfold hasB
  rw [List.contains_eq_mem, decide_eq_false_iff_not]
  intro hm
  obtain ⟨j, hj, e⟩ := List.getElem_of_mem hm
  simp only [ByteArray.data_extract, Array.toList_extract, List.extract, List.length_take, List.length_drop, Array.length_toList] at hj
  simp only [ByteArray.data_extract, Array.toList_extract, List.extract, List.getElem_take, List.getElem_drop] at e
  exact h (f + j) (by omega) (by omega) e

theorem cut_inv (s sep : ByteArray) (m : UInt8) (hsep : sep = ⟨#[m]⟩) : ∀ k, k ≤ s.size → ∃ D f, CutIs s m k D f ∧ f ≤ k ∧ pre sep D = s.extract 0 f ∧ (∀ p ∈ D, hasB p m = false) ∧ ∀ j (_ : f ≤ j) (_ : j < k) (h3 : j < s.size), s[j] ≠ m
  | 0, _ => ⟨[], 0, cut_zero s m, Nat.le_refl _, by simp [pre]; rfl, by simp, fun j _ h => by omega⟩
  | k + 1, h => by
    obtain ⟨D, f, hc, hf, hp, hcl, hno⟩ := cut_inv s sep m hsep k (by omega)
    by_cases hm : s[k] = m
    · refine ⟨_, _, cut_hit hc (by omega) hm, Nat.le_refl _, ?_, ?_, fun j h1 h2 => by omega⟩
      · rw [pre_snoc, hp, ext_append s f k hf, hsep, ← hm, ← ext_one s k (by omega), ext_append s k (k + 1) (by omega)]
      · intro p hpm
        rcases List.mem_append.1 hpm with hpm | hpm
        · exact hcl p hpm
        · rw [List.mem_singleton] at hpm; subst hpm
          exact clear_extract (by omega) fun j h1 h2 => hno j h1 h2 (by omega)
    · refine ⟨D, f, cut_miss hc (by omega) hm, by omega, hp, hcl, fun j h1 h2 h3 => ?_⟩
      by_cases hj : j = k
      · subst hj; exact hm
      · exact hno j h1 (by omega) h3

/-- Joining the parts gives the text. -/
theorem join_parts (s sep : ByteArray) (hz : sep.size = 1) (hs : s.size ≤ 4000) : joinF (parts s (sep[0]'(by omega))) sep = (s, true) := by
  obtain ⟨D, f, hc, hf, hp, hcl, hno⟩ := cut_inv s sep (sep[0]'(by omega)) (one_byte sep hz) s.size (Nat.le_refl _)
  have hpt := cut_end hc rfl
  have hj : joinTo sep (parts s (sep[0]'(by omega))) (parts s (sep[0]'(by omega))).length = s := by
    rw [hpt, List.length_append, List.length_singleton, join_last, hp, ext_append s f s.size hf]
    apply ByteArray.ext; simp
  rw [joinF_ok ⟨by rw [hpt]; simp, hz, ?_, by rw [hj]; exact hs⟩, hj]
  intro p hpm
  rw [hpt] at hpm
  rcases List.mem_append.1 hpm with hpm | hpm
  · exact hcl p hpm
  · rw [List.mem_singleton] at hpm; subst hpm
    exact clear_extract (Nat.le_refl _) fun j h1 h2 => hno j h1 h2 h2

theorem less_strict : ∀ a b : List UInt8, Op.bytesLess a b = true → Op.bytesLess b a = false
  | _, [], h => by simp [Op.bytesLess] at h
  | [], _ :: _, _ => by simp [Op.bytesLess]
  | a :: x, b :: y, h => by
    simp only [Op.bytesLess, Bool.or_eq_true, decide_eq_true_eq, Bool.and_eq_true, beq_iff_eq] at h
    simp only [Op.bytesLess, Bool.or_eq_false_iff, decide_eq_false_iff_not, Bool.and_eq_false_iff, beq_eq_false_iff_ne]
    rcases h with h | ⟨h, h2⟩
    · refine ⟨fun h3 => ?_, .inl fun h3 => ?_⟩
      · rw [UInt8.lt_iff_toNat_lt] at h h3; omega
      · subst h3; rw [UInt8.lt_iff_toNat_lt] at h; omega
    · subst h
      exact ⟨fun h3 => by rw [UInt8.lt_iff_toNat_lt] at h3; omega, .inr (less_strict x y h2)⟩

end Go.Proofs.Ytfjnfgeielgihaa
