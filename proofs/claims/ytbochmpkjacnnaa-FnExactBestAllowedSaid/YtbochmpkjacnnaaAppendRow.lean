/- A row of numbers that is appended to an own row, with no condition but that there are at most 1048576. -/
import Derived.Test.YtbochmpkjacnnaaDedup
import Derived.Lib.SliceRun
namespace Go.Proofs.Ytbochmpkjacnnaa
open Go.RowKit Go.Shelf

theorem iv_one (L : List Int) : ∀ u ∈ iv L, u.oneCell' = true := fun u hu => by
  unfold iv at hu; obtain ⟨y, _, rfl⟩ := List.mem_map.1 hu; rfl
set_option maxRecDepth 100000 in
/-- Numbers that are appended to an own row, none of them among these. -/
theorem append_row (B : Nat) (v : Value) (n : Nat) (xs : List Value) (w : World) (hown : w.ownsRow B 3 1 v n xs) (a : Option Addr) (c m : Nat) (news : List Value) (hm : m = news.length) (hx : RowAt w a c news) (h1 : ∀ u ∈ news, u.oneCell' = true)
    (hb : n + m ≤ 1048576) (hB : B ≤ w.heap.size) : ∃ v' w', (Builtin.append_ #[22, 22] 22 #[v, .slice a m c]).run Try.prog w = .ok v' w' ∧ w'.ownsRow B 3 1 v' (n + m) (xs ++ news) ∧ Below B w w' := by
  obtain ⟨i0, hi, hz0, hz1, hz2⟩ := info_parts infoInt
  subst hm
  obtain ⟨_, _, h3⟩ := hx
  by_cases hn : news = []
  · subst hn
    refine ⟨v, w, ?_, by simpa using hown, Below.refl _ _⟩
    have hs : Src Try.prog i0.size 22 (.slice a 0 c) 0 [] w := by rw [hz1]; exact src_none a c w
    rcases hown.2 with ⟨rfl, rfl⟩ | ⟨g, cap, cur, rfl, _, _, hnc, _⟩
    · exact run_append_nothing w _ _ _ 3 i0 rfl hi none 0 0 (Nat.le_refl _) _ hs
    · exact run_append_nothing w _ _ _ 3 i0 rfl hi _ n cap hnc _ hs
  · rcases h3 with h3 | ⟨b, o, rfl, _, h4⟩
    · exact absurd h3 hn
    · obtain ⟨v', w', hr, ho, hg, hv, _⟩ := run_append_own_at (P := Try.prog) (w := w) B 22 22 3 i0 (.int .i64 0) 1 8 rfl hi hz0 hz1 hz2 rfl (by decide) v n xs hown ⟨b, o, none⟩ news.length c news (by omega) (fun j u hj => by have h5 := h4 j u hj; by_cases e : j = 0 <;> simp_all [Addr.add]) h1 (by unfold maxLen; omega) (by omega) hB
      refine ⟨v', w', hr, ho, ⟨hg.os, hg.tape, hg.output, hg.size, fun k hk => hg.block k (by omega) fun e => ?_⟩⟩
      have := (hown.lt k e.symm).1; omega

end Go.Proofs.Ytbochmpkjacnnaa
