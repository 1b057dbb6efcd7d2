/- What the contract of the model's putting of a number to its place wants: the split, and append of nothing too at a step of a drawn region. No condition. -/
import Derived.Test.YtemflcegkebloaaSwap
import Derived.Deep.AppendLies
import Derived.Deep.RegionHeld3
namespace Go.Proofs.Ytemflcegkebloaa
open Go.RowKit

/-- append onto a slice that is not nil, of nothing too, at a step of a region that draws its order. -/
theorem step_append_some {P : Program} {w : World} {ops : Array Oper} {o : Oper} {a : Act} {K : Act → World → Prop} {Q : Exit → Act → World → Prop} {E : Prop} (hgd : o.guard = none) (s x : Operand) (t : TypeId)
    (ho : o.op = .call { callee := .builtin .append, args := #[s, x], argTypes := #[t, t] })
    (base : Nat) (e : TypeId) (i : TypeInfo) (z : Value) (size bytes : Nat) (ht : P.underlying t = some (.slice e)) (hi : P.info? e = some i) (hz : i.zero = some z)
    (hsize : i.size = size) (hby : i.bytes = bytes) (hzs : z.cells.size = size) (hsz : 0 < size)
    (v : Value) (n : Nat) (xs : List Value) (hs : a.eval s = v) (hown : w.ownsRow base e size v n xs) (hv : v ≠ .slice none 0 0)
    (ad : Addr) (m c : Nat) (news : List Value) (hx : a.eval x = .slice (some ad) m c) (hl : news.length = m * size) (hnews : ∀ j u, news[j]? = some u → w.cell? (ad.add j) = some u) (h1 : ∀ u ∈ news, u.oneCell' = true)
    (h63 : n + m ≤ maxLen) (hbytes : (n + m) * bytes ≤ 140737488355328) (hbase : base ≤ w.heap.size) (q : Nat) (hq : n + m = q)
    (h : ∀ g cap w', w'.ownsRow base e size (.slice (some ⟨g, 0, none⟩) q cap) q (xs ++ news) → w.grownBy w' v.ownBlock → (v.ownBlock = some g ∨ g = w.heap.size) → K (a.put o.dst (.slice (some ⟨g, 0, none⟩) q cap)) w') :
    if Region.wanted o (yielded ops a.tmps) = true then Oper.wp P o a w K Q else E := by
  have hw : Region.wanted o (yielded ops a.tmps) = true := by simp [Region.wanted, hgd]
  rw [if_pos hw]
  subst hq
  obtain ⟨v', w', hr, h2, h3, h4, h5⟩ := run_append_own_at (P := P) w base t o.type e i z size bytes ht hi hz hsize hby hzs hsz v n xs hown ad m c news hl hnews h1 h63 hbytes hbase
  have hv' : v' ≠ .slice none 0 0 := fun e => hv (h4.1 e).1
  rcases id h2.2 with ⟨h6, _⟩ | ⟨g, cap, cur, rfl, _⟩
  · exact absurd h6 hv'
  · unfold Oper.wp execOp
    simp only [ho, resolve, invoke, builtin, Sem.run_bind, Sem.run_pure, Result.andThen_ok, List.map_toArray, List.map_cons, List.map_nil, hs, hx, hr]
    exact h g cap w' h2 h3 (h5.imp (fun e => e.symm) (fun e => by simpa [Value.ownBlock] using e))

/-- A cell that a growing row leaves. -/
theorem far_cell {u w1 : World} {g B : Nat} {x : Value} {e : TypeId} {fr : Nat × Nat} (hg : u.grownBy w1 (some g)) (hb : u.heap[B]? = some (.cells #[x] e fr)) (hne : B ≠ g) :
    ∀ j z, [x][j]? = some z → w1.cell? ((⟨B, 0, none⟩ : Addr).add j) = some z := by
  have hlt : B < u.heap.size := (Array.getElem?_eq_some_iff.1 hb).1
  have := (hg.block B hlt (fun e => hne (by cases e; rfl))).trans hb
  exact World.news_of_block this

theorem put_split {n : Int} : ∀ (l : List Int) (k : Nat), k ≤ l.length → (∀ j, (hj : j < l.length) → j < k → l[j] < n) → (k = l.length ∨ ∃ hk : k < l.length, ¬ l[k] < n) → putAt l n = l.take k ++ n :: l.drop k
  | [], k, hk, _, _ => by simp at hk; subst hk; simp [putAt]
  | a :: t, 0, _, _, h => by
    have h' : ¬ a < n := by
      rcases h with h | ⟨_, h⟩
      · simp at h
      · simpa using h
    simp [putAt, h']
  | a :: t, k + 1, hk, hlt, h => by
    have ha : a < n := hlt 0 (by simp) (by omega)
    have ih := put_split (n := n) t k (by simpa using hk) (fun j hj hjk => hlt (j + 1) (by simpa using hj) (by omega)) (by
      rcases h with h | ⟨h1, h2⟩
      · left; simpa using h
      · right; exact ⟨by simpa using h1, h2⟩)
    have e : putAt (a :: t) n = a :: putAt t n := by simp [putAt, ha]
    rw [e, ih]; rfl

end Go.Proofs.Ytemflcegkebloaa
