/- Plain mathematics of hitting sets: covers of the turned System. No condition. -/
import Derived.Test.YtddalelkgmkdpaaTurnProg
import Derived.Test.YtddalelkgmkdpaaPairIsCover
import Derived.Test.YtddalelkgmkdpaaNewEls
namespace Go.Proofs.Ytddalelkgmkdpaa

/-- Each set has one of these elements. -/
def hitsB (d : List (List Int)) (E : List Int) : Bool := d.all fun l => l.any fun x => E.contains x
theorem newE_all {cov l : List Int} : (newE cov l).length = l.length ↔ l.any (fun x => cov.contains x) = false := by
  unfold newE
  rw [List.length_filter_eq_length_iff, List.any_eq_false]
  simp
theorem nums_rise (m : Nat) : ((List.range m).map fun (i : Nat) => (i : Int)).Pairwise (· < ·) := by
  rw [List.pairwise_map]
  exact List.pairwise_lt_range.imp (fun h => by omega)
/-- A rising list of numbers below m has m of them exactly if it has all. -/
theorem full_iff {l : List Int} {m : Nat} (hr : l.Pairwise (· < ·)) (hb : ∀ x ∈ l, 0 ≤ x ∧ x < m) : l.length = m ↔ ∀ i : Nat, i < m → (i : Int) ∈ l := by
  have he : l = ((List.range m).map fun (i : Nat) => (i : Int)).filter (fun x => l.contains x) := by
    refine rises_same _ _ hr ((nums_rise m).filter _) fun x => ?_
    rw [List.mem_filter, List.mem_map]
    constructor
    · intro hx
      have := hb x hx
      exact ⟨⟨x.toNat, List.mem_range.2 (by omega), by omega⟩, List.contains_iff_mem.2 hx⟩
    · rintro ⟨_, hx⟩
      exact List.contains_iff_mem.1 hx
  have hl : ((List.range m).map fun (i : Nat) => (i : Int)).length = m := by simp
  rw [show (l.length = m) = ((((List.range m).map fun (i : Nat) => (i : Int)).filter (fun x => l.contains x)).length = ((List.range m).map fun (i : Nat) => (i : Int)).length) by rw [hl, ← he]]
  rw [List.length_filter_eq_length_iff]
  constructor
  · intro h i hi
    exact List.contains_iff_mem.1 (h _ (List.mem_map.2 ⟨i, List.mem_range.2 hi, rfl⟩))
  · intro h x hx
    obtain ⟨i, hi, rfl⟩ := List.mem_map.1 hx
    exact List.contains_iff_mem.2 (h i (List.mem_range.1 hi))
theorem flatS_mem {d : List (List Int)} {T : List Nat} {x : Int} : x ∈ flatS d T ↔ ∃ m ∈ T, x ∈ d.getD m [] := by
  unfold flatS
  rw [List.mem_flatten]
  constructor
  · rintro ⟨l, hl, hx⟩
    obtain ⟨m, hm, rfl⟩ := List.mem_map.1 hl
    exact ⟨m, hm, hx⟩
  · rintro ⟨m, hm, hx⟩
    exact ⟨_, List.mem_map.2 ⟨m, hm, rfl⟩, hx⟩
theorem turnD_getD (n : Nat) (d : List (List Int)) {k : Nat} (h : k < n) : (turnD n d).getD k [] = withEl d (k : Int) := by
  rw [List.getD_eq_getElem?_getD, List.getElem?_eq_getElem (by rw [turnD_len]; exact h), Option.getD_some, turnD_get n d h]
theorem hits_cover (d : List (List Int)) (n : Nat) (T : List Nat) (hT : ∀ k ∈ T, k < n) : (((elsT (turnD n d) T).length : Int) == (d.length : Int)) = hitsB d (up T) := by
  have hmem : ∀ x : Int, x ∈ elsT (turnD n d) T ↔ ∃ k ∈ T, ∃ i : Nat, x = i ∧ i < d.length ∧ (d.getD i []).contains (k : Int) = true := fun x => by
    unfold elsT
    rw [putAll_mem, flatS_mem]
    constructor
    · rintro ⟨k, hk, hx⟩
      rw [turnD_getD n d (hT k hk)] at hx
      obtain ⟨i, h1, h2, h3⟩ := (picks_mem _ _ _ _).1 hx
      exact ⟨k, hk, i, h1, h2, h3⟩
    · rintro ⟨k, hk, i, h1, h2, h3⟩
      refine ⟨k, hk, ?_⟩
      rw [turnD_getD n d (hT k hk)]
      exact (picks_mem _ _ _ _).2 ⟨i, h1, h2, h3⟩
  have hf := full_iff (l := elsT (turnD n d) T) (m := d.length) (putAll_rises _) (fun x hx => by
    obtain ⟨k, _, i, h1, h2, _⟩ := (hmem x).1 hx
    omega)
  rw [nat_eqB, Bool.eq_iff_iff, decide_eq_true_eq, hf]
  unfold hitsB
  rw [List.all_eq_true]
  constructor
  · intro h l hl
    obtain ⟨i, hi, rfl⟩ := List.mem_iff_getElem.1 hl
    obtain ⟨k, hk, j, h1, h2, h3⟩ := (hmem _).1 (h i hi)
    obtain rfl : i = j := by omega
    rw [List.getD_eq_getElem?_getD, List.getElem?_eq_getElem hi, Option.getD_some] at h3
    rw [List.any_eq_true]
    exact ⟨(k : Int), List.contains_iff_mem.1 h3, List.contains_iff_mem.2 (List.mem_map.2 ⟨k, hk, rfl⟩)⟩
  · intro h i hi
    obtain ⟨x, hx, hx2⟩ := List.any_eq_true.1 (h d[i] (List.getElem_mem hi))
    obtain ⟨k, hk, rfl⟩ := List.mem_map.1 (List.contains_iff_mem.1 hx2)
    refine (hmem _).2 ⟨k, hk, i, rfl, hi, ?_⟩
    rw [List.getD_eq_getElem?_getD, List.getElem?_eq_getElem hi, Option.getD_some]
    exact List.contains_iff_mem.2 hx

/-- The turned System of a valid one is valid. -/
theorem turnS_good {S : Sys} (h : S.good = true) : (turnS S).good = true := by
  obtain ⟨n, hn, hn8, hm8, _, _, _⟩ := good_n h
  have hnn : S.n.toNat = n := by omega
  unfold Sys.good turnS
  rw [mkSys_con, hnn]
  have h1 : (mkSys (S.f.t.con.length : Int) (List.replicate n 1) (turnD n S.f.t.con)).n = (S.f.t.con.length : Int) := rfl
  have h2 : (mkSys (S.f.t.con.length : Int) (List.replicate n 1) (turnD n S.f.t.con)).f.o.l = List.replicate n 1 := rfl
  rw [h1, h2]
  refine sysB_iff.2 ⟨by omega, by omega, by rw [turnD_len]; exact hn8, by rw [turnD_len, List.length_replicate], ?_, ?_⟩
  · rw [List.all_eq_true]
    intro x hx
    rw [(List.mem_replicate.1 hx).2]; decide
  · rw [List.all_eq_true, Int.toNat_natCast]
    intro l hl
    unfold turnD at hl
    obtain ⟨x, _, rfl⟩ := List.mem_map.1 hl
    exact picks_set _ _ _

end Go.Proofs.Ytddalelkgmkdpaa
