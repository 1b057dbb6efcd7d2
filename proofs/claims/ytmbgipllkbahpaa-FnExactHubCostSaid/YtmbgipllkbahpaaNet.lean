/- Networks: plain, their boxes, and whether one is valid. Condition: the tables read as such. -/
import Derived.Test.YtmbgipllkbahpaaPairIsAllocation
import Derived.IntWalk
namespace Go.Proofs.Ytmbgipllkbahpaa
open Go.RowKit

/-- What a unit of flow costs. -/
def unitV (d : List (List Int)) (H : List Nat) (c : Int) (i j : Nat) : Int := 10 * (cel d i (H.getD i 0) + cel d j (H.getD j 0)) + c * cel d (H.getD i 0) (H.getD j 0)
def flowV (d f : List (List Int)) (H : List Nat) (c : Int) (i j : Nat) : Int := if i = j then 0 else cel f i j * unitV d H c i j
def rowH (d f : List (List Int)) (H : List Nat) (c : Int) (i k : Nat) : Int := ((List.range k).map fun j => flowV d f H c i j).sum
def totH (d f : List (List Int)) (H : List Nat) (c : Int) (n k : Nat) : Int := ((List.range k).map fun i => rowH d f H c i n).sum
theorem rowH_zero (d f : List (List Int)) (H : List Nat) (c : Int) (i : Nat) : rowH d f H c i 0 = 0 := by simp [rowH]
theorem rowH_step (d f : List (List Int)) (H : List Nat) (c : Int) (i k : Nat) : rowH d f H c i (k + 1) = rowH d f H c i k + flowV d f H c i k := by unfold rowH; rw [List.range_succ, List.map_append, List.sum_append]; simp
theorem totH_zero (d f : List (List Int)) (H : List Nat) (c : Int) (n : Nat) : totH d f H c n 0 = 0 := by simp [totH]
theorem totH_step (d f : List (List Int)) (H : List Nat) (c : Int) (n k : Nat) : totH d f H c n (k + 1) = totH d f H c n k + rowH d f H c k n := by unfold totH; rw [List.range_succ, List.map_append, List.sum_append]; simp
/-- A network. -/
structure Net (d f : List (List Int)) (c : Int) : Prop where
  grd : Grd d
  few : d.length ≤ 5
  len : f.length = d.length
  rows : f.all (rowB d.length) = true
  lo : 0 ≤ c
  hi : c ≤ 10
theorem mul_b {x y a b : Int} (h0 : 0 ≤ x) (h1 : x ≤ a) (h2 : 0 ≤ y) (h3 : y ≤ b) : 0 ≤ x * y ∧ x * y ≤ a * b := by
  have p := Int.mul_le_mul_of_nonneg_left h3 h0
  have q := Int.mul_le_mul_of_nonneg_right h1 (show 0 ≤ b by omega)
  exact ⟨Int.mul_nonneg h0 h2, Int.le_trans p q⟩
theorem Net.disc {d f : List (List Int)} {c : Int} (h : Net d f c) (i j : Nat) : 0 ≤ c * cel d i j ∧ c * cel d i j ≤ 990 := by
  have := mul_b h.lo h.hi (h.grd.bound i j).1 (h.grd.bound i j).2; omega
theorem Net.unit {d f : List (List Int)} {c : Int} (h : Net d f c) (H : List Nat) (i j : Nat) : 0 ≤ unitV d H c i j ∧ unitV d H c i j ≤ 2970 := by
  have h1 := h.disc (H.getD i 0) (H.getD j 0)
  have h2 := h.grd.bound i (H.getD i 0)
  have h3 := h.grd.bound j (H.getD j 0)
  unfold unitV; omega
theorem Net.prod {d f : List (List Int)} {c : Int} (h : Net d f c) (H : List Nat) (i j : Nat) : 0 ≤ cel f i j * unitV d H c i j ∧ cel f i j * unitV d H c i j ≤ 294030 := by
  have h1 := h.unit H i j
  have h2 := cel_bound h.rows i j
  have := mul_b h2.1 h2.2 h1.1 h1.2; omega
theorem Net.flow {d f : List (List Int)} {c : Int} (h : Net d f c) (H : List Nat) (i j : Nat) : 0 ≤ flowV d f H c i j ∧ flowV d f H c i j ≤ 294030 := by
  unfold flowV
  split
  · omega
  · exact h.prod H i j
theorem Net.row {d f : List (List Int)} {c : Int} (h : Net d f c) (H : List Nat) (i : Nat) : ∀ k : Nat, 0 ≤ rowH d f H c i k ∧ rowH d f H c i k ≤ 294030 * (k : Int)
  | 0 => by rw [rowH_zero]; simp
  | k + 1 => by have := h.row H i k; have := h.flow H i k; rw [rowH_step]; omega
theorem Net.tot {d f : List (List Int)} {c : Int} (h : Net d f c) (H : List Nat) {n : Nat} (hn : n ≤ 5) : ∀ k : Nat, 0 ≤ totH d f H c n k ∧ totH d f H c n k ≤ 1470150 * (k : Int)
  | 0 => by rw [totH_zero]; simp
  | k + 1 => by have := h.tot H hn k; have := h.row H k n; rw [totH_step]; omega
def netB (d f : List (List Int)) (c : Int) : Bool := smallG d && sqB d.length f && (decide (0 ≤ c) && decide (c ≤ 10))
theorem netB_iff {d f : List (List Int)} {c : Int} (h : netB d f c = true) : Net d f c := by
  unfold netB smallG sqB at h
  simp only [Bool.and_eq_true, decide_eq_true_eq] at h
  exact ⟨grdB_iff.1 h.1.1.1, by omega, h.1.2.1, h.1.2.2, h.2.1, h.2.2⟩

/-- A struct of three cells in a block of its own. -/
def BoxN (w : World) (g : Nat) (x y z : Value) (t : TypeId) : Prop := w.heap[g]? = some (Obj.cells #[x, y, z] t)
theorem BoxN.lt {w : World} {g : Nat} {x y z : Value} {t : TypeId} (h : BoxN w g x y z t) : g < w.heap.size := (Array.getElem?_eq_some_iff.1 h).1
theorem BoxN.c0 {w : World} {g : Nat} {x y z : Value} {t : TypeId} (h : BoxN w g x y z t) : w.cell? ⟨g, 0, none⟩ = some x := by unfold World.cell?; simp only [show w.heap[g]? = some (Obj.cells #[x, y, z] t) from h]; rfl
theorem BoxN.c1 {w : World} {g : Nat} {x y z : Value} {t : TypeId} (h : BoxN w g x y z t) : w.cell? ⟨g, 1, none⟩ = some y := by unfold World.cell?; simp only [show w.heap[g]? = some (Obj.cells #[x, y, z] t) from h]; rfl
theorem BoxN.c2 {w : World} {g : Nat} {x y z : Value} {t : TypeId} (h : BoxN w g x y z t) : w.cell? ⟨g, 2, none⟩ = some z := by unfold World.cell?; simp only [show w.heap[g]? = some (Obj.cells #[x, y, z] t) from h]; rfl
theorem BoxN.on {w w' : World} {g : Nat} {x y z : Value} {t : TypeId} (h : BoxN w g x y z t) (b : Below w.heap.size w w') : BoxN w' g x y z t := (b.block g h.lt).trans h
theorem BoxN.made (w : World) (x y z : Value) (t : TypeId) : BoxN (w.alloc (Obj.cells #[x, y, z] t)) w.heap.size x y z t := by
  show (w.heap.push (Obj.cells #[x, y, z] t))[w.heap.size]? = _
  simp

set_option maxRecDepth 16000 in
set_option maxHeartbeats 1500000 in
theorem netValid_any (T Q : Tab) (c : Int) (w : World) (hT : T.At w) (hQ : Q.At w) :
    Calls Try.prog 48 #[.agg #[.slice T.a T.R.length T.c, .slice Q.a Q.R.length Q.c, .int .i64 c]] w fun e w' => e = .returned (.bool (netB T.con Q.con c)) ∧ Below w.heap.size w w' := by
  obtain ⟨wA, hA⟩ : ∃ u, u = w.alloc (Obj.cells #[.slice T.a T.R.length T.c, .slice Q.a Q.R.length Q.c, .int .i64 c] 54) := ⟨_, rfl⟩
  have hbA : Below w.heap.size w wA := by rw [hA]; exact below_alloc _ _
  have bx : BoxN wA w.heap.size (.slice T.a T.R.length T.c) (.slice Q.a Q.R.length Q.c) (.int .i64 c) 54 := by rw [hA]; exact BoxN.made _ _ _ _ _
  obtain ⟨g, hg⟩ : ∃ g, g = smallG T.con := ⟨_, rfl⟩
  obtain ⟨u, hu⟩ : ∃ u, u = sqB T.con.length Q.con := ⟨_, rfl⟩
  have hlim := tab_lim0 hT
  have C1 := Lib.hid (by have := mayHave_any T wA (hT.on hbA); rw [← hg] at this; exact this)
  have C2 := Lib.hid (fun W (hb : Below wA.heap.size wA W) => (by have := isSquare_any Q T.R.length W ((hQ.on hbA).on hb) hlim; rw [show sqB T.R.length Q.con = u by rw [hu, con_length]] at this; exact this : Calls Try.prog 51 #[.slice Q.a Q.R.length Q.c, .int .i64 (T.R.length : Int), .int .i64 99] W fun e w' => e = .returned (.bool u) ∧ Below W.heap.size W w'))
  have HE : Hid (netB T.con Q.con c = (g && u && (decide (0 ≤ c) && decide (c ≤ 10)))) := Lib.hid (by unfold netB; rw [hg, hu])
  rw [HE.out]
  have HBX := Lib.hid bx
  have y0 := bx.c0
  have y1 := bx.c1
  have y2 := bx.c2
  rw [hA] at y0 y1 y2
  have HA := Lib.hid hA
  clear hT hQ hA bx hg hu HE
  cases g with
  | false =>
    go_enter Try.func48, Try.ntmps48
    go_wp2_with fail
    rw [← HA.out]
    refine (show Calls _ _ _ _ _ from C1.out).mono ?_
    rintro e W ⟨rfl, hb⟩
    clear y0 y1 y2
    go_wp2
    go_ret
    exact ⟨rfl, hbA.trans (hb.mono hbA.size)⟩
  | true =>
    cases u with
    | false =>
      go_enter Try.func48, Try.ntmps48
      go_wp2_with fail
      rw [← HA.out]
      refine (show Calls _ _ _ _ _ from C1.out).mono ?_
      rintro e W ⟨rfl, hb⟩
      clear y0 y1 y2
      have y0 := (HBX.out.on hb).c0
      have y1 := (HBX.out.on hb).c1
      have hbw := hbA.trans (hb.mono hbA.size)
      go_wp2_with fail
      refine (show Calls _ _ _ _ _ from C2.out W hb).mono ?_
      rintro e W2 ⟨rfl, hb2⟩
      clear y0 y1
      go_wp2
      go_ret
      exact ⟨rfl, hbw.trans (hb2.mono hbw.size)⟩
    | true =>
      by_cases h0 : 0 ≤ c
      · have hge : c ≥ 0 := h0
        have HD : Hid ((true && true && (decide (0 ≤ c) && decide (c ≤ 10))) = decide (c ≤ 10)) := Lib.hid (by rw [decide_eq_true h0]; simp)
        rw [HD.out]
        go_enter Try.func48, Try.ntmps48
        go_wp2_with fail
        rw [← HA.out]
        refine (show Calls _ _ _ _ _ from C1.out).mono ?_
        rintro e W ⟨rfl, hb⟩
        clear y0 y1 y2
        have y0 := (HBX.out.on hb).c0
        have y1 := (HBX.out.on hb).c1
        have hbw := hbA.trans (hb.mono hbA.size)
        go_wp2_with fail
        refine (show Calls _ _ _ _ _ from C2.out W hb).mono ?_
        rintro e W2 ⟨rfl, hb2⟩
        clear y0 y1
        have y2 := (HBX.out.on (hb.trans (hb2.mono hb.size))).c2
        go_wp2
        go_ret
        exact ⟨rfl, hbw.trans (hb2.mono hbw.size)⟩
      · have hge : ¬ c ≥ 0 := h0
        have HD : Hid ((true && true && (decide (0 ≤ c) && decide (c ≤ 10))) = false) := Lib.hid (by rw [decide_eq_false h0]; rfl)
        rw [HD.out]
        go_enter Try.func48, Try.ntmps48
        go_wp2_with fail
        rw [← HA.out]
        refine (show Calls _ _ _ _ _ from C1.out).mono ?_
        rintro e W ⟨rfl, hb⟩
        clear y0 y1 y2
        have y0 := (HBX.out.on hb).c0
        have y1 := (HBX.out.on hb).c1
        have hbw := hbA.trans (hb.mono hbA.size)
        go_wp2_with fail
        refine (show Calls _ _ _ _ _ from C2.out W hb).mono ?_
        rintro e W2 ⟨rfl, hb2⟩
        clear y0 y1
        have y2 := (HBX.out.on (hb.trans (hb2.mono hb.size))).c2
        go_wp2
        go_ret
        exact ⟨rfl, hbw.trans (hb2.mono hbw.size)⟩
end Go.Proofs.Ytmbgipllkbahpaa
