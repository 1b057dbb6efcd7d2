/- The contract of the iterator that SplitString ranges over: for every loop body that keeps what lay before, it yields the parts of the text, in order. Condition: the text has at most 4000 bytes. -/
import Derived.RangeFuncNested
import Derived.RangeFuncBound
import Derived.RangeFuncCalls
import Derived.RangeFuncLeaves
import Derived.Shelf.Abstract
import Derived.Shelf.RegionOpen
import Derived.WalkKit
import Derived.OwnWalkIn
import Derived.TacticsInMore
import Derived.LoopNIn
import Derived.LoopIn
import Derived.Lib.Hide
import Derived.Test.YtfjnfgeielgihaaRows
import Derived.Test.YtfjnfgeielgihaaScopeIn
import Derived.Test.YtfjnfgeielgihaaSplitSpec
namespace Go.Proofs.Ytfjnfgeielgihaa
open Go.RowKit Go.Shelf
attribute [local go_sem] Oper.semAt_some
/-- Block b lies as it lay. -/
def KeepB (b : Nat) (A B : World) : Prop := B.heap[b]? = A.heap[b]?
def strLen : Value → Nat | .string b => b.size | _ => 0
theorem extract_get (s : ByteArray) (f k : Nat) (h : k < (s.extract f s.size).size) (h2 : f + k < s.size) : (s.extract f s.size)[k] = s[f + k] := by
  rw [ByteArray.getElem_extract]
theorem ext_head (s : ByteArray) (f k : Nat) (hk : f + k ≤ s.size) : (s.extract f s.size).extract 0 k = s.extract f (f + k) := by
  apply ByteArray.ext; simp only [ByteArray.data_extract, Array.extract_extract]
  congr 1
  omega
theorem ext_tail (s : ByteArray) (f k : Nat) (hf : f ≤ s.size) : (s.extract f s.size).extract (k + 1) (s.extract f s.size).size = s.extract (f + k + 1) s.size := by
  rw [ByteArray.size_extract]
  apply ByteArray.ext; simp [ByteArray.data_extract, Array.extract_extract]
  rw [show f + (k + 1) = f + k + 1 by omega, show f + (s.size - f) = s.size by omega]; simp
theorem grown_draws (W : World) (n : Nat) : W.grownBy (W.drewN n) none := ⟨rfl, rfl, rfl, Nat.le_refl _, fun _ _ _ => rfl⟩
theorem grown_draw (W : World) : W.grownBy W.drew none := ⟨rfl, rfl, rfl, Nat.le_refl _, fun _ _ _ => rfl⟩
set_option maxRecDepth 100000 in
set_option maxHeartbeats 2000000 in
theorem pieces_in (n : Nat) (hn : 1 ≤ n) (l Bs Bc : Nat) (s : ByteArray) (c : UInt8) (hs : s.size ≤ 4000) (J Jx : List ByteArray → World → Prop)
    (hJ : ∀ pre W, J pre W → J pre W.drew)
    (hY : ∀ pre x W, J pre W → pre.length < s.size + 1 → YieldAt Fence.wide (n - 1) Try.prog l #[.string x] W fun e W' =>
      (e = .returned (.bool true) ∧ J (pre ++ [x]) W' ∧ KeepB Bc W W') ∨ (e = .returned (.bool false) ∧ Jx (pre ++ [x]) W'))
    (W : World) (hBs : W.cell? ⟨Bs, 0, none⟩ = some (.string s)) (hBc : W.cell? ⟨Bc, 0, none⟩ = some (.int .u8 c.toNat)) (h0 : J [] W) :
    CallsIn Fence.wide n Try.prog 36 #[.func (.yield l) #[] #[], .pointer (some ⟨Bs, 0, none⟩), .pointer (some ⟨Bc, 0, none⟩)] W fun e W' => (∃ v, e = .returned v) ∧
      ((∃ ys, ys = parts s c ∧ J ys W') ∨ (∃ pre, True ∧ Jx pre W')) := by
  have hfull : s = s.extract 0 s.size := by apply ByteArray.ext; simp
  have HFull := Lib.hid hfull
  clear hfull
  refine callsIn_of_wp Try.func36 rfl trivial ?_ rfl
  simp only [Try.ntmps36, List.size_toArray, List.length_cons, List.length_nil, Nat.reduceAdd, Nat.reduceSub, Array.replicate_succ, Array.replicate_zero, List.push_toArray, List.append_toArray, List.nil_append, List.cons_append]
  gi_wp2
  refine scope_in ?_
  gi_wp2
  refine label_in ?_
  gi_wp2
  gi_loopw [4] (fun rest wr => ∃ (f : Nat) (D : List ByteArray), f ≤ s.size ∧ rest = .string (s.extract f s.size) ∧ CutIs s c f D f ∧ D.length ≤ f ∧ J D wr ∧ wr.cell? ⟨Bc, 0, none⟩ = some (.int .u8 c.toNat)) (fun rest _ => strLen rest)
  case atStart => exact ⟨0, [], Nat.zero_le _, by rw [← HFull.out], cut_zero s c, Nat.le_refl _, h0, hBc⟩
  case round =>
    obtain ⟨f, D, hf1, rfl, hcut, hDf, hJD, hcB⟩ := hrel
    obtain ⟨r, hr⟩ : ∃ r, r = s.extract f s.size := ⟨_, rfl⟩
    have hrs : r.size = s.size - f := by rw [hr, ByteArray.size_extract]; omega
    have hrsi : (r.size : Int) ≤ 4000 := by omega
    rw [← hr]
    have HR := Lib.hid hr
    have HRS := Lib.hid hrs
    clear hr hrs
    gi_wp2
    gi_loopw [4, 9] (fun rest i wr' => ∃ k : Nat, k ≤ r.size ∧ i = .int .i64 k ∧ rest = .string r ∧ CutIs s c (f + k) D f ∧ J D wr' ∧ wr'.cell? ⟨Bc, 0, none⟩ = some (.int .u8 c.toNat)) (fun _ i _ => r.size - (intOf i).toNat)
    case atStart => exact ⟨0, Nat.zero_le _, rfl, rfl, hcut, hJD, hcB⟩
    case round =>
      obtain ⟨k, hk, rfl, rfl, hcut2, hJD2, hcB2⟩ := hrel
      by_cases hlt : k < r.size
      · have hlti : (k : Int) < (r.size : Int) := by omega
        have hgk : r[k] = s[f + k]'(by have := HRS.out; omega) := by
          have e := HR.out
          subst e
          exact extract_get s f k hlt _
        by_cases hc : r[k] = c
        · have ht := byte_eq hc
          have hc0 : s[f + k]'(by have := HRS.out; omega) = c := by rw [← hgk]; exact hc
          have HC := Lib.hid (cut_hit hcut2 (by have := HRS.out; omega) hc0)
          clear hgk hc hc0
          have hne : ((r[k].toNat : Int) != (c.toNat : Int)) = false := by rw [bne, ht]; rfl
          have hJ2 := hJ _ _ hJD2
          have hlen : D.length < s.size + 1 := by omega
          have HX : Hid (D ++ [r.extract 0 k] = D ++ [s.extract f (f + k)]) := Lib.hid (by rw [HR.out, ext_head s f k (by have := HRS.out; omega)])
          have HT : Hid (r.extract (k + 1) r.size = s.extract (f + k + 1) s.size) := Lib.hid (by rw [HR.out]; exact ext_tail s f k hf1)
          have hcB3 : wr.drew.cell? ⟨Bc, 0, none⟩ = some (.int .u8 c.toNat) := hcB2
          obtain ⟨fn, tmps, assign, body, hy, hRnd⟩ := hY D (r.extract 0 k) wr.drew hJ2 hlen
          gi_wp2
          gi_region
          gi_wp2
          refine hRnd.mono ?_
          rintro e W3 (⟨rfl, hJ3, hk3⟩ | ⟨rfl, hJx3⟩)
          · have hcB4 : W3.cell? ⟨Bc, 0, none⟩ = some (.int .u8 c.toNat) := (World.cell?_of_block (a := ⟨Bc, 0, none⟩) hk3).trans hcB3
            rw [HX.out] at hJ3
            gi_wp2
            go_roundw
            case rel => exact ⟨f + k + 1, _, by have := HRS.out; omega, by rw [HT.out], HC.out, by simp; omega, hJ3, hcB4⟩
            case measure => simp [strLen]; omega
          · gi_wp2
            rw [Exit.noGoto_ret]
            refine bodyPost_ret (results_none rfl _ _ _) rfl ?_
            exact ⟨⟨_, rfl⟩, .inr ⟨_, trivial, hJx3⟩⟩
        · have ht := byte_ne hc
          have hne : ((r[k].toNat : Int) != (c.toNat : Int)) = true := by rw [bne, ht]; rfl
          have hc0 : s[f + k]'(by have := HRS.out; omega) ≠ c := by rw [← hgk]; exact hc
          have HC := Lib.hid (cut_miss hcut2 (by have := HRS.out; omega) hc0)
          have hJ2 := hJ _ _ hJD2
          have hcB3 : wr.drew.cell? ⟨Bc, 0, none⟩ = some (.int .u8 c.toNat) := hcB2
          clear hgk hc hc0
          gi_wp2
          gi_region
          gi_wp2
          go_roundw
          case rel => exact ⟨k + 1, by omega, by go_num, rfl, HC.out, hJ2, hcB3⟩
          case measure => simp [intOf]; omega
      · obtain rfl : k = r.size := by omega
        have hend : CutIs s c s.size D f := by have := HRS.out; rw [show f + r.size = s.size by omega] at hcut2; exact hcut2
        have HE : Hid (parts s c = D ++ [r]) := Lib.hid (by rw [cut_end hend rfl, HR.out])
        have hlen : D.length < s.size + 1 := by omega
        obtain ⟨fn, tmps, assign, body, hy, hRnd⟩ := hY D r wr hJD2 hlen
        gi_wp2
        refine hRnd.mono ?_
        rintro e W3 (⟨rfl, hJ3, hk3⟩ | ⟨rfl, hJx3⟩)
        · gi_wp2
          rw [Exit.noGoto_ret]
          refine bodyPost_ret (results_none rfl _ _ _) rfl ?_
          exact ⟨⟨_, rfl⟩, .inl ⟨_, HE.out.symm, hJ3⟩⟩
        · gi_wp2
          rw [Exit.noGoto_ret]
          refine bodyPost_ret (results_none rfl _ _ _) rfl ?_
          exact ⟨⟨_, rfl⟩, .inr ⟨_, trivial, hJx3⟩⟩
end Go.Proofs.Ytfjnfgeielgihaa
