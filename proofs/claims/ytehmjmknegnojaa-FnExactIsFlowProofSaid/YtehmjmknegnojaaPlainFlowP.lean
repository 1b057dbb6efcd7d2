/- Plain mathematics of flow prices; lists and tables, cell by cell. No condition. -/
import Derived.Test.YtehmjmknegnojaaNeeds
import Derived.Test.YtehmjmknegnojaaSwap
import Derived.Test.YtehmjmknegnojaaShelf
namespace Go.Proofs.Ytehmjmknegnojaa
open Go.RowKit

theorem rowAll {r : Row} {w : World} (hr : r.At w) (h0 : 0 < r.l.length) : ∃ b o, r.a = some ⟨b, o, none⟩ ∧ b < w.heap.size ∧ ∀ m, m < r.l.length → w.cell? ⟨b, o + m, none⟩ = some (.int .i64 (r.l.getD m 0)) := by
  obtain ⟨_, _, h3⟩ := hr
  rcases h3 with h3 | ⟨b, o, ha, hb, hc⟩
  · have := congrArg List.length (iv_nil h3); rw [List.length_nil] at this; omega
  · exact ⟨b, o, ha, hb, fun m hm => by rw [getD_at hm]; exact hc m _ (iv_at hm)⟩
theorem tabAll {T : Tab} {w : World} (hT : T.At w) (h0 : 0 < T.R.length) : ∃ b o, T.a = some ⟨b, o, none⟩ ∧ b < w.heap.size ∧ ∀ k (h : k < T.R.length), w.cell? ⟨b, o + k, none⟩ = some (.slice T.R[k].a T.R[k].l.length T.R[k].c) := by
  obtain ⟨⟨_, _, h3⟩, _⟩ := hT
  rcases h3 with h3 | ⟨b, o, ha, hb, hc⟩
  · have := congrArg List.length h3; rw [tv_length, List.length_nil] at this; omega
  · exact ⟨b, o, ha, hb, fun m hm => hc m _ (tv_at hm)⟩
theorem mn_one (x : Int) : Lib.minOf [x] = x := by simp [Lib.minOf]
theorem mn_snoc {l : List Int} (h : 0 < l.length) (x : Int) : Lib.minOf (l ++ [x]) = min (Lib.minOf l) x := by
  cases l with
  | nil => simp at h
  | cons a r => unfold Lib.minOf; simp
theorem range_all {p : Nat → Bool} {n : Nat} (h : ∀ i, i < n → p i = true) : (List.range n).all p = true := List.all_eq_true.2 fun i hi => h i (List.mem_range.1 hi)
theorem range_out {p : Nat → Bool} {n i : Nat} (hi : i < n) (h : p i = false) : (List.range n).all p = false := by
  rw [Bool.eq_false_iff]; intro hc; rw [List.all_eq_true.1 hc i (List.mem_range.2 hi)] at h; cases h

/-- The sums of a client's lengths to the sites of a set and their prices. -/
def offersOf (row p : List Int) (T : List Nat) : List Int := T.map fun m => row.getD m 0 + p.getD m 0
theorem offers_len (row p : List Int) (T : List Nat) : (offersOf row p T).length = T.length := List.length_map _
theorem offers_step {row p : List Int} {T : List Nat} {k : Nat} (h : k < T.length) : (offersOf row p T).take (k + 1) = (offersOf row p T).take k ++ [row.getD T[k] 0 + p.getD T[k] 0] := by
  rw [List.take_succ_eq_append_getElem (by rw [offers_len]; exact h)]
  congr 2
  simp [offersOf]
theorem offers_one {row p : List Int} {T : List Nat} (h : 0 < T.length) : (offersOf row p T).take 1 = [row.getD T[0] 0 + p.getD T[0] 0] := by
  have := offers_step (row := row) (p := p) h
  rw [List.take_zero, List.nil_append] at this; exact this
theorem offers_all (row p : List Int) (T : List Nat) : (offersOf row p T).take T.length = offersOf row p T := List.take_of_length_le (by rw [offers_len]; exact Nat.le_refl _)
/-- The least of them. -/
def offer (row p : List Int) (T : List Nat) : Int := Lib.minOf (offersOf row p T)
def closed1 (S p : List Int) (a : Nat) : Bool := !(decide (0 < p.getD a 0)) || hasI S (a : Int)
def price1 (F : Fld) (T : List Nat) (u p : List Int) (j : Nat) : Bool := (decide (-999 ≤ u.getD j 0) && decide (u.getD j 0 ≤ 999)) && decide (u.getD j 0 ≤ offer (F.t.con.getD j []) p T)
/-- Flow prices for a set. -/
def flowPricesB (F : Fld) (S u p : List Int) : Bool := (decide (u.length = F.t.R.length) && (p.all (upTo 999) && decide (p.length = F.o.l.length))) && (List.range p.length).all (closed1 S p) && (List.range u.length).all (price1 F (S.map Int.toNat) u p)
theorem nat_up (T : List Nat) : (up T).map Int.toNat = T := by unfold up; rw [List.map_map]; exact (List.map_congr_left fun x _ => by simp).trans (List.map_id T)
theorem like_len {F G : Fld} (h : G.Like F) : G.t.R.length = F.t.R.length := by have := congrArg List.length h.2; unfold Tab.con at this; rwa [List.length_map, List.length_map] at this
theorem price1_like {F G : Fld} (h : G.Like F) (T : List Nat) (u p : List Int) : price1 G T u p = price1 F T u p := funext fun j => by unfold price1; rw [h.2]
theorem flowPricesB_like {F G : Fld} {S u p : List Int} (h : G.Like F) : flowPricesB G S u p = flowPricesB F S u p := by
  unfold flowPricesB
  rw [h.1, like_len h, price1_like h]
theorem con_getD {F : Fld} {j : Nat} (h : j < F.t.R.length) : F.t.con.getD j [] = F.t.R[j].l := by
  unfold Tab.con
  rw [List.getD_eq_getElem?_getD, List.getElem?_map, List.getElem?_eq_getElem h]; rfl
theorem upTo_at {m : Int} {l : List Int} (h : l.all (upTo m) = true) {k : Nat} (hk : k < l.length) : 0 ≤ l.getD k 0 ∧ l.getD k 0 ≤ m := by
  rw [getD_at hk]; exact upTo_iff.1 (List.all_eq_true.1 h _ (List.getElem_mem hk))

theorem leastF_any (a b : Int) (w : World) :
    Calls Try.prog 83 #[.int .i64 a, .int .i64 b] w fun e w' => e = .returned (.int .i64 (min a b)) ∧ w' = w := by
  by_cases h : a < b
  · have hm : Hid (min a b = a) := Lib.hid (by omega)
    go_enter Try.func83, Try.ntmps83
    go_wp2
    go_ret
    exact ⟨by rw [hm.out]; rfl, rfl⟩
  · have hm : Hid (min a b = b) := Lib.hid (by omega)
    go_enter Try.func83, Try.ntmps83
    go_wp2
    go_ret
    exact ⟨by rw [hm.out]; rfl, rfl⟩

end Go.Proofs.Ytehmjmknegnojaa
