/- Plain mathematics of sealed texts: the text ahead of the mark is the one that was sealed, and no text with one byte changed is sealed. No condition. -/
import Derived.Test.YtfjnfgeielgihaaDoorSeal
import Derived.Test.YtfjnfgeielgihaaDoorPlainFirst
import Derived.Test.YtfjnfgeielgihaaDoorPlainRead
namespace Go.Proofs.YtfjnfgeielgihaaDoor

def fpart (l : List UInt8) : List UInt8 := l.takeWhile (fun b => b != 35)
theorem cut_fpart : ∀ l : List UInt8, (Lib.cut l [35]).1 = fpart l
  | [] => by unfold Lib.cut fpart; rw [Lib.index_one]; rfl
  | b :: r => by
    have ih := cut_fpart r
    unfold Lib.cut at ih ⊢
    rw [Lib.index_one] at ih ⊢
    unfold fpart at ih ⊢
    have hge := Lib.indexByte_ge r 35
    by_cases hb : b = 35
    · subst hb
      simp [Lib.indexByte]
    · have e1 : (b == (35 : UInt8)) = false := beq_eq_false_iff_ne.2 hb
      by_cases hn : Lib.indexByte r 35 = -1
      · have e2 : Lib.indexByte (b :: r) 35 = -1 := by simp [Lib.indexByte, e1, hn]
        rw [e2, if_neg (by decide)]
        rw [hn, if_neg (by decide)] at ih
        simp only [] at ih ⊢
        rw [List.takeWhile_cons, if_pos (by simpa using hb), ← ih]
      · have e2 : Lib.indexByte (b :: r) 35 = Lib.indexByte r 35 + 1 := by simp [Lib.indexByte, e1, hn]
        rw [e2, if_pos (by omega)]
        rw [if_pos (by omega)] at ih
        simp only [] at ih ⊢
        rw [List.takeWhile_cons, if_pos (by simpa using hb), ← ih, show (Lib.indexByte r 35 + 1).toNat = (Lib.indexByte r 35).toNat + 1 by omega, List.take_succ_cons]
theorem first_list (s : ByteArray) : (firstB s 35).data.toList = fpart s.data.toList := by
  unfold firstB; rw [← cut_fpart]

theorem fpart_stop (P R : List UInt8) (h : (35 : UInt8) ∉ P) : fpart (P ++ 35 :: R) = P := by
  unfold fpart
  induction P with
  | nil => simp
  | cons a r ih =>
    have ha : a ≠ 35 := fun e => h (by simp [e])
    rw [List.cons_append, List.takeWhile_cons, if_pos (by simpa using ha), ih fun hm => h (by simp [hm])]
theorem fpart_all (P : List UInt8) (h : (35 : UInt8) ∉ P) : fpart P = P := by
  unfold fpart
  induction P with
  | nil => rfl
  | cons a r ih =>
    have ha : a ≠ 35 := fun e => h (by simp [e])
    rw [List.takeWhile_cons, if_pos (by simpa using ha), ih fun hm => h (by simp [hm])]

/-- The bytes of a checksum's text. -/
def tailOf (l : List UInt8) : List UInt8 := Lib.itoa (hsh l)
theorem tail_dig (l : List UInt8) : (35 : UInt8) ∉ tailOf l := by
  intro h
  have hb := hsh_bd l
  unfold tailOf Lib.itoa at h
  rw [if_neg (by omega)] at h
  have := dec_dig _ _ h
  unfold Dig at this
  have e : (35 : UInt8).toNat = 35 := rfl
  omega
theorem tail_inj {l l' : List UInt8} (h : tailOf l = tailOf l') : hsh l = hsh l' := by
  have h1 := hsh_bd l
  have h2 := hsh_bd l'
  have e1 := atoi_itoa (hsh l) (by omega) (by omega)
  have e2 := atoi_itoa (hsh l') (by omega) (by omega)
  unfold tailOf at h
  rw [h] at e1
  have := e1.symm.trans e2
  injection this
theorem seal_list (s : ByteArray) : (sealB s).data.toList = s.data.toList ++ 35 :: tailOf s.data.toList := by
  unfold sealB tailOf
  simp [ByteArray.data_append, numI]
theorem clear_list {s : ByteArray} (h : hasB s 35 = false) : (35 : UInt8) ∉ s.data.toList := by
  unfold hasB at h
  rw [List.contains_eq_mem, decide_eq_false_iff_not] at h
  exact h

/-- What was sealed is what lies ahead of the mark. -/
theorem first_seal (s : ByteArray) (h : hasB s 35 = false) : firstB (sealB s) 35 = s := by
  apply WideShapes.bytes_inj
  rw [first_list, seal_list, fpart_stop _ _ (clear_list h)]

theorem fold_inj : ∀ (B : List UInt8) (u v : Int), 0 ≤ u → u ≤ 999978 → 0 ≤ v → v ≤ 999978 → u ≠ v →
    B.foldl (fun h (c : UInt8) => (41 * h + (c.toNat : Int) + 1) % 999979) u ≠ B.foldl (fun h (c : UInt8) => (41 * h + (c.toNat : Int) + 1) % 999979) v
  | [], _, _, _, _, _, _, h => h
  | c :: r, u, v, hu0, hu1, hv0, hv1, h => by
    rw [List.foldl_cons, List.foldl_cons]
    refine fold_inj r _ _ (Int.emod_nonneg _ (by decide)) ?_ (Int.emod_nonneg _ (by decide)) ?_ ?_
    · have := Int.emod_lt_of_pos (41 * u + (c.toNat : Int) + 1) (show (0 : Int) < 999979 by decide); omega
    · have := Int.emod_lt_of_pos (41 * v + (c.toNat : Int) + 1) (show (0 : Int) < 999979 by decide); omega
    · intro e; apply h; omega

theorem hsh_change (A B : List UInt8) (c d : UInt8) (h : c ≠ d) : hsh (A ++ c :: B) ≠ hsh (A ++ d :: B) := by
  have hc := c.toNat_lt
  have hd := d.toNat_lt
  have hne : c.toNat ≠ d.toNat := fun e => h (UInt8.toNat_inj.1 e)
  have hb := hsh_bd A
  unfold hsh at hb ⊢
  rw [List.foldl_append, List.foldl_append, List.foldl_cons, List.foldl_cons]
  obtain ⟨s, hs⟩ : ∃ s, s = A.foldl (fun h (c : UInt8) => (41 * h + (c.toNat : Int) + 1) % 999979) 7 := ⟨_, rfl⟩
  rw [← hs] at hb ⊢
  refine fold_inj B _ _ (Int.emod_nonneg _ (by decide)) ?_ (Int.emod_nonneg _ (by decide)) ?_ ?_
  · have := Int.emod_lt_of_pos (41 * s + (c.toNat : Int) + 1) (show (0 : Int) < 999979 by decide); omega
  · have := Int.emod_lt_of_pos (41 * s + (d.toNat : Int) + 1) (show (0 : Int) < 999979 by decide); omega
  · intro e; omega

/-- No list that parts from a sealed one in one byte is sealed. -/
theorem tampered (L A B : List UInt8) (c d : UInt8) (hL : (35 : UInt8) ∉ L) (hy : A ++ c :: B = L ++ 35 :: tailOf L) (hcd : c ≠ d) :
    fpart (A ++ d :: B) ++ 35 :: tailOf (fpart (A ++ d :: B)) ≠ A ++ d :: B := by
  intro he
  have hT := tail_dig L
  have atMark : L = A → c = 35 → B = tailOf L → False := by
    intro h1 h2 h3
    have hno : (35 : UInt8) ∉ A ++ d :: B := by
      intro hm
      rcases List.mem_append.1 hm with hm | hm
      · rw [← h1] at hm; exact hL hm
      · rcases List.mem_cons.1 hm with hm | hm
        · exact hcd (by rw [h2, hm])
        · rw [h3] at hm; exact hT hm
    apply hno
    rw [← he]; simp
  rcases List.append_eq_append_iff.1 hy with ⟨M, h1, h2⟩ | ⟨M, h1, h2⟩
  · cases M with
    | nil =>
      simp only [List.nil_append, List.cons.injEq] at h2
      exact atMark (by simpa using h1) h2.1 h2.2
    | cons m M' =>
      simp only [List.cons_append, List.cons.injEq] at h2
      obtain ⟨rfl, h2⟩ := h2
      have hA : (35 : UInt8) ∉ A := fun hm => hL (by rw [h1]; exact List.mem_append_left _ hm)
      have hM : (35 : UInt8) ∉ M' := fun hm => hL (by rw [h1]; simp [hm])
      by_cases hd : d = 35
      · subst hd
        rw [fpart_stop A B hA] at he
        have he2 := List.append_cancel_left he
        simp only [List.cons.injEq, true_and] at he2
        exact tail_dig A (by rw [he2, h2]; simp)
      · have hP : (35 : UInt8) ∉ A ++ d :: M' := by
          intro hm
          rcases List.mem_append.1 hm with hm | hm
          · exact hA hm
          · rcases List.mem_cons.1 hm with hm | hm
            · exact hd hm.symm
            · exact hM hm
        have e : A ++ d :: B = (A ++ d :: M') ++ 35 :: tailOf L := by rw [h2]; simp
        rw [e, fpart_stop _ _ hP] at he
        have he2 := List.append_cancel_left he
        simp only [List.cons.injEq, true_and] at he2
        have := tail_inj he2
        rw [h1] at this
        exact hsh_change A M' d c (fun e => hcd e.symm) this
  · cases M with
    | nil =>
      simp only [List.nil_append, List.cons.injEq] at h2
      exact atMark (by simpa using h1.symm) h2.1.symm h2.2.symm
    | cons m M' =>
      simp only [List.cons_append, List.cons.injEq] at h2
      obtain ⟨rfl, h2⟩ := h2
      rw [h1, List.append_assoc, List.cons_append, fpart_stop L _ hL] at he
      have he2 := List.append_cancel_left he
      simp only [List.cons.injEq, true_and] at he2
      rw [h2] at he2
      have he3 := List.append_cancel_left he2
      simp only [List.cons.injEq] at he3
      exact hcd he3.1

/-- The same of texts. -/
theorem tampered_text (x : ByteArray) (A B : List UInt8) (c d : UInt8) (hx : hasB x 35 = false) (hy : (sealB x).data.toList = A ++ c :: B) (hcd : c ≠ d) :
    sealB (firstB ⟨(A ++ d :: B).toArray⟩ 35) ≠ ⟨(A ++ d :: B).toArray⟩ := by
  intro e
  have h := congrArg (fun b : ByteArray => b.data.toList) e
  simp only [] at h
  rw [seal_list, first_list] at h
  exact tampered x.data.toList A B c d (clear_list hx) (by rw [← hy, seal_list]) hcd (by simpa using h)

end Go.Proofs.YtfjnfgeielgihaaDoor
