/- Gains of sets: plain. No condition. -/
import Derived.Test.YtbochmpkjacnnaaPlainServe
namespace Go.Proofs.Ytbochmpkjacnnaa

/-- The gains of the clients, where a client is worth u. -/
def gainsL (F : Fld) (u : Int) (T : List Nat) : List Int := (lens F.t.con T).map fun x => max 0 (u - x)
/-- The gain of a list of sites, which may be empty. -/
def gainT (F : Fld) (u : Int) (T : List Nat) : Int := if T = [] then 0 else (gainsL F u T).sum
/-- A valid Field and a worth. -/
def worthB (F : Fld) (u : Int) : Bool := F.good && (decide (0 ≤ u) && decide (u ≤ 999))
theorem worthB_iff {F : Fld} {u : Int} : worthB F u = true ↔ F.good = true ∧ 0 ≤ u ∧ u ≤ 999 := by unfold worthB; simp
theorem worthB_like {F G : Fld} (h : G.Like F) (u : Int) : worthB G u = worthB F u := by unfold worthB; rw [h.good]
theorem gainT_like {F G : Fld} (h : G.Like F) (u : Int) (T : List Nat) : gainT G u T = gainT F u T := by unfold gainT gainsL; rw [h.2]
theorem gainT_nil (F : Fld) (u : Int) : gainT F u [] = 0 := by unfold gainT; rw [if_pos rfl]
theorem gainT_some (F : Fld) (u : Int) {T : List Nat} (h : 0 < T.length) : gainT F u T = (gainsL F u T).sum := by
  unfold gainT; rw [if_neg]; intro e; rw [e] at h; exact absurd h (by simp)
theorem gainsL_len (F : Fld) (u : Int) (T : List Nat) : (gainsL F u T).length = F.t.R.length := by unfold gainsL lens Tab.con; simp
theorem sum_bnd {M : Int} : ∀ {l : List Int}, (∀ x ∈ l, 0 ≤ x ∧ x ≤ M) → 0 ≤ l.sum ∧ l.sum ≤ M * l.length
  | [], _ => by simp
  | x :: l, h => by
    have h1 := h x (List.mem_cons_self ..)
    have h2 := sum_bnd (l := l) fun y hy => h y (List.mem_cons_of_mem _ hy)
    rw [List.sum_cons, List.length_cons, Int.natCast_add, Int.mul_add]
    omega
theorem take_bnd {M : Int} {l : List Int} (h : ∀ x ∈ l, 0 ≤ x ∧ x ≤ M) (k : Nat) : 0 ≤ (l.take k).sum ∧ (l.take k).sum ≤ M * (l.take k).length := sum_bnd fun x hx => h x (List.mem_of_mem_take hx)
theorem lens_pos {F : Fld} (h : F.good = true) (T : List Nat) : ∀ x ∈ lens F.t.con T, 0 ≤ x ∧ x ≤ 99 := by
  intro x hx
  unfold lens at hx
  obtain ⟨row, hr, rfl⟩ := List.mem_map.1 hx
  obtain ⟨r, hr', rfl⟩ := List.mem_map.1 hr
  exact getD_bound (good_row h hr').2 _
theorem gainsL_bound {F : Fld} {u : Int} (h : worthB F u = true) (T : List Nat) : ∀ x ∈ gainsL F u T, 0 ≤ x ∧ x ≤ 999 := by
  obtain ⟨hg, h0, h1⟩ := worthB_iff.1 h
  intro x hx
  unfold gainsL at hx
  obtain ⟨y, hy, rfl⟩ := List.mem_map.1 hx
  have := lens_pos hg T y hy
  omega
theorem gainT_bound {F : Fld} {u : Int} (h : worthB F u = true) (T : List Nat) : 0 ≤ gainT F u T ∧ gainT F u T ≤ 6993 := by
  unfold gainT
  split
  · omega
  · have h1 := sum_bnd (gainsL_bound h T)
    have h2 := (good_sizes (worthB_iff.1 h).1).2.2
    rw [gainsL_len] at h1
    omega
theorem gainsL_at (F : Fld) (u : Int) (T : List Nat) {i : Nat} (h : i < F.t.R.length) : (gainsL F u T)[i]'(by rw [gainsL_len]; exact h) = max 0 (u - F.t.R[i].l.getD (near F.t.R[i].l T) 0) := by simp [gainsL, lens, Tab.con]
theorem gains_step {F : Fld} {u : Int} {T : List Nat} {i : Nat} (h : i < F.t.R.length) : ((gainsL F u T).take (i + 1)).sum = ((gainsL F u T).take i).sum + max 0 (u - F.t.R[i].l.getD (near F.t.R[i].l T) 0) := by
  rw [sum_step (by rw [gainsL_len]; exact h), gainsL_at F u T h]
theorem gains_all (F : Fld) (u : Int) (T : List Nat) : (gainsL F u T).take F.t.R.length = gainsL F u T := List.take_of_length_le (by rw [gainsL_len]; exact Nat.le_refl _)
/-- The numbers of a list of sites. -/
def nats (l : List Int) : List Nat := l.map Int.toNat
theorem nats_up (T : List Nat) : nats (up T) = T := by unfold nats up; rw [List.map_map]; exact (List.map_congr_left fun x _ => by simp).trans (List.map_id T)
def askG (F : Fld) (u : Int) (l : List Int) : Bool := worthB F u && setB F.o.l.length l
theorem askG_like {F G : Fld} (h : G.Like F) (u : Int) (l : List Int) : askG G u l = askG F u l := by unfold askG; rw [worthB_like h, h.1]
theorem askG_iff {F : Fld} {u : Int} {l : List Int} : askG F u l = true ↔ worthB F u = true ∧ setB F.o.l.length l = true := by unfold askG; simp
end Go.Proofs.Ytbochmpkjacnnaa
