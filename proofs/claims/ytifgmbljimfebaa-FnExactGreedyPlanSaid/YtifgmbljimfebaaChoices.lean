/- The iterator of all choices of at most so many sets: it hands them, in order, each in memory of its own. Condition: at most eight sets. -/
import Derived.Test.YtifgmbljimfebaaEigSiteSeq
namespace Go.Proofs.Ytifgmbljimfebaa
open Go.RowKit Go.Shelf
attribute [local go_sem] Oper.semAt_some

theorem yield_wide {n m : Nat} {P : Program} {l : Nat} {args : Array Value} {W : World} {R : Ending → World → Prop} (h : YieldAt Fence.wide n P l args W R) : YieldAt Fence.wide m P l args W R := by
  obtain ⟨fn, tmps, asg, bd, h1, h2⟩ := h
  exact ⟨fn, tmps, asg, bd, h1, trivial, fun c cs _ => h2.2 c cs (room_wide _)⟩

/-- All choices of at most M of N sets, in order. -/
def choL (N M : Nat) : List (List Nat) := [] :: E8.preS N M

set_option maxHeartbeats 1000000 in
theorem setsUpTo2_any (n k : Nat) (w : World) :
    Calls Try.prog 91 #[.int .i64 n, .int .i64 k] w fun e w' => ∃ Bk Bs, e = .returned (.func (.func 100) #[] #[.pointer (some ⟨Bk, 0, none⟩), .pointer (some ⟨Bs, 0, none⟩)]) ∧ Hid (w'.cell? ⟨Bk, 0, none⟩ = some (.int .i64 k)) ∧ Hid (w'.cell? ⟨Bs, 0, none⟩ = some (.int .i64 n)) ∧ Hid (w.heap.size ≤ Bs) ∧ Below w.heap.size w w' := by
  have HB := Lib.hid ((below_alloc w (.cells #[.int .i64 n] 3)).alloc (by simp) (.cells #[.int .i64 k] 3))
  have H0 := Lib.hid ((Boxed.new w 3 (.int .i64 n)).alloc (.cells #[.int .i64 k] 3)).cell
  have H1 := Lib.hid (Boxed.new (w.alloc (.cells #[.int .i64 n] 3)) 3 (.int .i64 k)).cell
  go_enter Try.func91, Try.ntmps91
  go_wp2
  go_ret
  exact ⟨_, w.heap.size, rfl, Lib.hid (by have := H1.out; simp only [World.size_alloc] at this; exact this), Lib.hid H0.out, Lib.hid (Nat.le_refl _), HB.out⟩

set_option maxRecDepth 100000 in
set_option maxHeartbeats 4000000 in
theorem choices_seqX (n : Nat) (hn : 6 ≤ n) (Bs Bk N K : Nat) (w0 : World) (hN : N ≤ 8) (hK : K ≤ 8) (hBs : w0.cell? ⟨Bs, 0, none⟩ = some (.int .i64 N)) (hBk : w0.cell? ⟨Bk, 0, none⟩ = some (.int .i64 K)) (p q : Nat) (hps : p ≤ Bs) (hqs : Bs < q) (hpk : p ≤ Bk) (hqk : Bk < q) :
    ListSeqX Fence.wide n Try.prog 92 #[.pointer (some ⟨Bs, 0, none⟩), .pointer (some ⟨Bk, 0, none⟩)] ((choL N (min K N)).map up) p q w0 := by
  intro l lo hi J S W y0 hW hlo hhi hJ hS hY h0 hy0
  have h1 : 1 ≤ n := by omega
  have hbs : Bs < w0.heap.size := World.block_lt_of_cell? w0 _ hBs
  have hbk : Bk < w0.heap.size := World.block_lt_of_cell? w0 _ hBk
  have hw0W := hW.size
  obtain ⟨M, hM⟩ : ∃ M, M = min K N := ⟨_, rfl⟩
  rw [← hM] at hY ⊢
  have hMN : M ≤ N := by omega
  have hmin : Hid (min (K : Int) (N : Int) = (M : Int)) := Lib.hid (by omega)
  have hNi : (N : Int) ≤ 8 := by omega
  have hKi : (K : Int) ≤ 8 := by omega
  obtain ⟨x, hx⟩ : ∃ x : Row, x = ⟨some ⟨W.heap.size, 0, none⟩, 0, []⟩ := ⟨_, rfl⟩
  have hb1 := below_alloc W (.cells #[] 3)
  have hs1 : (W.alloc (.cells #[] 3)).heap.size = W.heap.size + 1 := size_alloc _ _
  have hxo : x.Own 3 (W.alloc (.cells #[] 3)) := .inl (by rw [hx])
  have hxi : x.In W.heap.size (W.alloc (.cells #[] 3)).heap.size (W.alloc (.cells #[] 3)) := by rw [hx]; unfold Row.In RowIn; exact ⟨Nat.le_refl _, Nat.zero_le _, .inl rfl⟩
  obtain ⟨fn, tmps, asg, bd, hyl, hRnd⟩ := hY 0 y0 x (W.alloc (.cells #[] 3)) (by simp [choL]) (by rw [hx]; rfl) (hJ _ _ _ _ h0 hb1) (hy0.on hb1) ⟨hxo, hxi.wide (Nat.zero_le _) (Nat.le_refl _)⟩ hxi (by omega)
  have hyl2 : (Instr.yield l #[.slice (some ⟨W.heap.size, 0, none⟩) 0 0]).run Try.prog (W.alloc (.cells #[] 3)) = .ok (.round l fn tmps asg bd) (W.alloc (.cells #[] 3)) := by rw [hx] at hyl; exact hyl
  have HRnd := Lib.hid hRnd
  have HY := Lib.hid hY
  have HJ := Lib.hid hJ
  have HS := Lib.hid hS
  have HBs : Hid (∀ u, Touch lo hi (W.alloc (.cells #[] 3)) u → u.cell? ⟨Bs, 0, none⟩ = some (.int .i64 N) ∧ u.cell? ⟨Bk, 0, none⟩ = some (.int .i64 K)) := Lib.hid fun u hu => by
    have hWa := hW.trans (hb1.mono hw0W)
    exact ⟨(hu.cell (p := ⟨Bs, 0, none⟩) (by simp only; omega) (by simp only; omega)).trans ((hWa.cell (p := ⟨Bs, 0, none⟩) hbs).trans hBs), (hu.cell (p := ⟨Bk, 0, none⟩) (by simp only; omega) (by simp only; omega)).trans ((hWa.cell (p := ⟨Bk, 0, none⟩) hbk).trans hBk)⟩
  have HL : Hid (((choL N M).map up).length = (E8.preS N M).length + 1) := Lib.hid (by simp [choL])
  have HAT : Hid (∀ k (h : k < ((E8.preS N M).map up).length), ∃ h2 : k + 1 < ((choL N M).map up).length, ((choL N M).map up)[k + 1] = ((E8.preS N M).map up)[k]) := Lib.hid fun k h => ⟨by simp [choL] at h ⊢; omega, by simp [choL]⟩
  have hx1 := hx
  clear hY hJ hS hW hBs hBk hx hxo hyl hRnd h0 hM
  refine callsIn_of_wp Try.func92 rfl trivial ?_ rfl
  simp only [Try.ntmps92, List.size_toArray, List.length_cons, List.length_nil, Nat.reduceAdd, Nat.reduceSub, Array.replicate_succ, Array.replicate_zero, List.push_toArray, List.append_toArray, List.nil_append, List.cons_append]
  clear hx1 hxi
  gi_wp2
  refine HRnd.out.mono ?_
  rintro e W3 ⟨y', hy', hH3, ⟨rfl, ht3, hJ3⟩ | ⟨rfl, ht3, hS3⟩⟩
  case inr =>
    have HEND : Hid ((∃ v, Ending.returned (.tuple #[]) = .returned v) ∧ ∃ y, y.Held W3 ∧ (J ((choL N M).map up).length y W3 ∨ S y W3)) := Lib.hid ⟨⟨_, rfl⟩, y', hH3, .inr hS3⟩
    clear hy' hH3 ht3 hS3
    gi_wp2
    refine bodyPost_end (results_none rfl _ _ _) rfl ?_
    exact HEND.out
  have hs3 := ht3.size
  obtain ⟨c1, c2⟩ := HBs.out W3 ht3
  have CS := Lib.hid (setsUpTo2_any N M W3)
  have HJ3 := Lib.hid hJ3
  have HH3 := Lib.hid hH3
  have hmn := hmin.out
  clear hy' hH3 ht3 hJ3
  gi_wp2
  refine ⟨trivial, (callsIn_wide.2 CS.out).mono ?_⟩
  rintro e W4 ⟨Bk2, Bs2, rfl, HK2, HS2, HG2, hb4⟩
  have hsz4 := hb4.size
  have hJ4 := HJ.out _ _ _ _ HJ3.out (hb4.mono (by omega))
  have hH4 := HH3.out.on hb4
  have hlt2 : Bs2 < W4.heap.size := World.block_lt_of_cell? W4 _ HS2.out
  have hge2 := HG2.out
  have HSQ := E8.upTo_seqX (n - 1) (by omega) Bk2 Bs2 N M W4 hN hMN HK2.out HS2.out W3.heap.size W4.heap.size hge2 hlt2
  have HIN := Lib.hid (HSQ l lo hi (fun k y A => J (k + 1) y A) S W4 y' (Below.refl _ _) (.inl (by omega)) (by omega)
    (fun k y A B h hb => HJ.out _ _ _ _ h (hb.mono (by omega))) (fun y A B h hb => HS.out _ _ _ h (hb.mono (by omega)))
    (fun k y x W1 hk hx hj hy hxh hxi hsz => by
      obtain ⟨hk2, he⟩ := HAT.out k hk
      obtain ⟨f2, t2, a2, b2, g1, g2⟩ := HY.out (k + 1) y x W1 hk2 (by rw [he]; exact hx) hj hy hxh (hxi.wide (by omega) (Nat.le_refl _)) (by omega)
      refine yield_wide (n := n - 1) ⟨f2, t2, a2, b2, g1, g2.mono ?_⟩
      rintro e W' ⟨y2, q1, q2, ⟨q3, q4, q5⟩ | ⟨q3, q4, q5⟩⟩
      · exact ⟨y2, q1, q2, .inl ⟨q3, q4, q5⟩⟩
      · exact ⟨y2, q1, q2, .inr ⟨q3, q4.wide (Nat.le_refl _) (by omega), q5⟩⟩)
    hJ4 hH4)
  have HLL : Hid (((E8.preS N M).map up).length + 1 = ((choL N M).map up).length) := Lib.hid (by simp [choL])
  clear hJ4 hH4 hb4 HSQ c1 c2
  gi_wp2
  refine ⟨trivial, HIN.out.mono ?_⟩
  rintro e W5 ⟨⟨v, rfl⟩, y5, hy5, hJS⟩
  have HEND : Hid ((∃ v, Ending.returned (.tuple #[]) = .returned v) ∧ ∃ y, y.Held W5 ∧ (J ((choL N M).map up).length y W5 ∨ S y W5)) := Lib.hid ⟨⟨_, rfl⟩, y5, hy5, by rw [← HLL.out]; exact hJS⟩
  clear hy5 hJS
  gi_wp2
  refine bodyPost_end (results_none rfl _ _ _) rfl ?_
  exact HEND.out

set_option maxHeartbeats 1000000 in
theorem choicesUpTo_any (n k : Nat) (w : World) :
    Calls Try.prog 76 #[.int .i64 n, .int .i64 k] w fun e w' => ∃ Bs Bk, e = .returned (.func (.func 92) #[] #[.pointer (some ⟨Bs, 0, none⟩), .pointer (some ⟨Bk, 0, none⟩)]) ∧ Hid (w'.cell? ⟨Bs, 0, none⟩ = some (.int .i64 n)) ∧ Hid (w'.cell? ⟨Bk, 0, none⟩ = some (.int .i64 k)) ∧ Below w.heap.size w w' := by
  have HB := Lib.hid ((below_alloc w (.cells #[.int .i64 n] 3)).alloc (by simp) (.cells #[.int .i64 k] 3))
  have H0 := Lib.hid ((Boxed.new w 3 (.int .i64 n)).alloc (.cells #[.int .i64 k] 3)).cell
  have H1 := Lib.hid (Boxed.new (w.alloc (.cells #[.int .i64 n] 3)) 3 (.int .i64 k)).cell
  go_enter Try.func76, Try.ntmps76
  go_wp2
  go_ret
  exact ⟨w.heap.size, _, rfl, Lib.hid H0.out, Lib.hid (by have := H1.out; simp only [World.size_alloc] at this; exact this), HB.out⟩
end Go.Proofs.Ytifgmbljimfebaa
