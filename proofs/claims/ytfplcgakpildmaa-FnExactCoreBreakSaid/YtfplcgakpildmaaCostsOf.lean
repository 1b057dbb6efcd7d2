/- The costs of all sets of clients, as the program makes them. Condition: a valid Field. -/
import Derived.Test.YtfplcgakpildmaaPlainCosts
import Derived.Test.YtfplcgakpildmaaSumsOf
import Derived.Test.YtfplcgakpildmaaTops
import Derived.Test.YtfplcgakpildmaaSiteSeq
import Derived.Test.YtfplcgakpildmaaWriteI
import Derived.Test.YtfplcgakpildmaaRoundRegion
namespace Go.Proofs.Ytfplcgakpildmaa
open Go.RowKit Go.Shelf
attribute [local go_sem] Oper.semAt_some

set_option maxHeartbeats 1000000 in
theorem siteSetsL_any (n : Nat) (w : World) :
    Calls Try.prog 68 #[.int .i64 n] w fun e w' => ∃ Bk Bs, e = .returned (.func (.func 74) #[] #[.pointer (some ⟨Bk, 0, none⟩), .pointer (some ⟨Bs, 0, none⟩)]) ∧ (w.heap.size ≤ Bk ∧ w.heap.size ≤ Bs) ∧ Hid (w'.cell? ⟨Bk, 0, none⟩ = some (.int .i64 n)) ∧ Hid (w'.cell? ⟨Bs, 0, none⟩ = some (.int .i64 n)) ∧ Below w.heap.size w w' := by
  have CU : Hid (Calls Try.prog 53 #[.int .i64 n, .int .i64 n] w fun e w' => ∃ Bk Bs, e = .returned (.func (.func 74) #[] #[.pointer (some ⟨Bk, 0, none⟩), .pointer (some ⟨Bs, 0, none⟩)]) ∧ (w.heap.size ≤ Bk ∧ w.heap.size ≤ Bs) ∧ Hid (w'.cell? ⟨Bk, 0, none⟩ = some (.int .i64 n)) ∧ Hid (w'.cell? ⟨Bs, 0, none⟩ = some (.int .i64 n)) ∧ Below w.heap.size w w') := Lib.hid (by
    have HB := Lib.hid ((below_alloc w (.cells #[.int .i64 n] 3)).alloc (by simp) (.cells #[.int .i64 n] 3))
    have H0 := Lib.hid ((Boxed.new w 3 (.int .i64 n)).alloc (.cells #[.int .i64 n] 3)).cell
    have H1 := Lib.hid (Boxed.new (w.alloc (.cells #[.int .i64 n] 3)) 3 (.int .i64 n)).cell
    go_enter Try.func53, Try.ntmps53
    go_wp2
    go_ret
    exact ⟨w.heap.size + 1, w.heap.size, rfl, ⟨by omega, by omega⟩, Lib.hid (by have := H1.out; simp only [World.size_alloc] at this; exact this), Lib.hid H0.out, HB.out⟩)
  go_enter Try.func68, Try.ntmps68
  go_wp2_with fail
  refine (show Calls _ _ _ _ _ from CU.out).mono ?_
  rintro e W1 ⟨Bk, Bs, rfl, H0, H1, H2, hb⟩
  have H00 := Lib.hid H0
  clear H0
  go_wp2
  go_ret
  exact ⟨Bk, Bs, rfl, H00.out, H1, H2, hb⟩

theorem shl8 : ∀ m < 8, wrap64 ((2 : Int) ^ m) = ((2 ^ m : Nat) : Int) := by decide +kernel

/-- The table after so many sets. -/
def rowC (F : Fld) (C : List (List Nat)) : List Int := (List.range (2 ^ F.t.R.length)).map fun c => minV (parT F c) C
theorem rowC_len (F : Fld) (C : List (List Nat)) : (rowC F C).length = 2 ^ F.t.R.length := by unfold rowC; simp
theorem rowC_at (F : Fld) (C : List (List Nat)) {c : Nat} (h : c < 2 ^ F.t.R.length) : (rowC F C)[c]'(by rw [rowC_len]; exact h) = minV (parT F c) C := by simp [rowC]
theorem rowC_nil (F : Fld) : rowC F [] = List.replicate (2 ^ F.t.R.length) 9223372036854775807 := by
  unfold rowC minV
  simp [List.map_const']
theorem rowC_end (F : Fld) : (rowC F (allSets F.o.l.length)).set 0 0 = costs F := by
  apply List.ext_getElem
  · rw [List.length_set, rowC_len, costs_len]
  · intro c h1 h2
    rw [List.length_set, rowC_len] at h1
    rw [List.getElem_set]
    have e : (costs F)[c] = costC F c := by simp [costs]
    rw [e]
    unfold costC
    by_cases hc : c = 0
    · subst hc; simp
    · rw [if_neg (by omega), if_neg hc, rowC_at F _ h1]
/-- A list of which the first i numbers are written over. -/
def mixI (xs ms : List Int) (i : Nat) : List Int := ms.take i ++ xs.drop i
theorem mixI_zero (xs ms : List Int) : mixI xs ms 0 = xs := by simp [mixI]
theorem mixI_all {xs ms : List Int} (h : ms.length = xs.length) : mixI xs ms xs.length = ms := by simp [mixI, ← h]
theorem mixI_len {xs ms : List Int} {i : Nat} (h : ms.length = xs.length) : (mixI xs ms i).length = xs.length := by simp [mixI]; omega
theorem mixI_at {xs ms : List Int} {i : Nat} (h : ms.length = xs.length) (hi : i < xs.length) : (mixI xs ms i)[i]'(by rw [mixI_len h]; exact hi) = xs[i] := by
  unfold mixI
  rw [List.getElem_append_right (by rw [List.length_take]; omega)]
  simp only [List.length_take, List.getElem_drop]
  congr 1; omega
theorem mixI_set {xs ms : List Int} {i : Nat} (h : ms.length = xs.length) (hi : i < xs.length) : (mixI xs ms i).set i (ms[i]'(by omega)) = mixI xs ms (i + 1) := by
  unfold mixI
  rw [List.set_append_right _ _ (by rw [List.length_take]; omega), List.length_take, show i - min i ms.length = 0 by omega]
  rw [List.drop_eq_getElem_cons hi, List.set_cons_zero, List.take_succ_eq_append_getElem (show i < ms.length by omega), List.append_assoc]
  rfl

/-- What is held between two sets. -/
structure HoldsC (B G lo hi : Nat) (w : World) (F : Fld) (t : Row) (C : List (List Nat)) (k : Nat) (y : Row) (W : World) : Prop where
  bl : Below B w W
  bx : Box2 W B (.slice F.o.a F.o.l.length F.o.c) (.slice F.t.a F.t.R.length F.t.c) 29
  bc : Boxed W G 22 (.slice t.a (2 ^ F.t.R.length : Nat) t.c)
  own : (Row.mk t.a t.c (rowC F (C.take k))).Own 3 W
  ins : (Row.mk t.a t.c (rowC F (C.take k))).In lo hi W
theorem HoldsC.keep {B G lo hi M : Nat} {w : World} {F : Fld} {t : Row} {C : List (List Nat)} {k : Nat} {y : Row} {A A' : World} (h : HoldsC B G lo hi w F t C k y A) (hb : Below M A A') (hB : B < M) (hG : G < M) (hh : hi ≤ M) : HoldsC B G lo hi w F t C k y A' := by
  have t1 : Touch M (M + A'.heap.size) A A' := ⟨hb.os, hb.tape, hb.output, hb.size, fun j hj hn => by
    by_cases h2 : j < M
    · exact hb.block j h2
    · exact absurd ⟨by omega, by have := hb.size; omega⟩ hn⟩
  exact ⟨h.bl.trans (hb.mono (by omega)), (hb.block _ hB).trans h.bx, (hb.block _ hG).trans h.bc, h.own.touch h.ins t1 (.inl hh), h.ins.touch t1 (.inl hh)⟩

set_option maxRecDepth 100000 in
set_option maxHeartbeats 6000000 in
theorem costsOf_in (n : Nat) (hn : 8 ≤ n) (F : Fld) (w : World) (hF : F.At w) (hg : F.good = true) :
    CallsIn Fence.wide n Try.prog 40 #[.agg #[.slice F.o.a F.o.l.length F.o.c, .slice F.t.a F.t.R.length F.t.c]] w fun e w' => ∃ t : Row, e = .returned (.slice t.a t.l.length t.c) ∧ t.l = costs F ∧ t.Own 3 w' ∧ t.In w.heap.size w'.heap.size w' ∧ Below w.heap.size w w' := by
  have h1 : 1 ≤ n := by omega
  obtain ⟨wA, hA, hbA, bx, hFA, hszA⟩ := laid_fld F w 29 hF
  obtain ⟨wB, hB⟩ : ∃ u, u = wA.alloc (.cells #[.int .i64 9223372036854775807] 3) := ⟨_, rfl⟩
  have hbB : Below wA.heap.size wA wB := by rw [hB]; exact below_alloc _ _
  have hszB : wB.heap.size = w.heap.size + 1 + 1 := by rw [hB, size_alloc, hszA]
  have hbw := hbA.trans (hbB.mono hbA.size)
  have hsz := good_sizes hg
  have hmx : Row.At wB ⟨some ⟨w.heap.size + 1, 0, none⟩, 1, [9223372036854775807]⟩ := ⟨by simp [iv], (show 1 ≤ maxLen by decide), .inr ⟨w.heap.size + 1, 0, rfl, by omega, fun j x hj => by
    have hj1 : j < 1 := by have := (List.getElem?_eq_some_iff.1 hj).1; simpa [iv] using this
    obtain rfl : j = 0 := by omega
    rw [show x = .int .i64 9223372036854775807 by simpa [iv] using hj.symm, hB, ← hszA]; simp⟩⟩
  obtain ⟨N, hN⟩ : ∃ N, N = 2 ^ F.t.R.length := ⟨_, rfl⟩
  have hsh : wrap64 ((2 : Int) ^ F.t.R.length) = (N : Int) := by rw [hN]; exact shl8 _ (by omega)
  have hN7 : N ≤ 128 := by rw [hN]; have := Nat.pow_le_pow_right (show 0 < 2 by omega) (show F.t.R.length ≤ 7 by omega); simpa using this
  have hN1 : 1 ≤ N := by rw [hN]; exact Nat.two_pow_pos _
  have CR := Lib.hid (repeatTops_any ⟨some ⟨w.heap.size + 1, 0, none⟩, 1, [9223372036854775807]⟩ N wB hmx rfl (by omega))
  have bxB : Box2 wB w.heap.size (.slice F.o.a F.o.l.length F.o.c) (.slice F.t.a F.t.R.length F.t.c) 29 := bx.on hbB
  have x0 := bxB.c0
  have x1 := bxB.c1
  have HB : Hid (wB = (w.alloc (Obj.cells #[.slice F.o.a F.o.l.length F.o.c, .slice F.t.a F.t.R.length F.t.c] 29)).alloc (.cells #[.int .i64 9223372036854775807] 3)) := Lib.hid (by rw [hB, hA]; rfl)
  rw [HB.out] at x0 x1
  have HBX := Lib.hid bxB
  have HBW := Lib.hid hbw
  have HF0 := Lib.hid hF
  have HG := Lib.hid hg
  have HN := Lib.hid hN
  have hmi : (F.t.R.length : Int) ≤ 7 := by omega
  have hoi : (F.o.l.length : Int) ≤ 7 := by omega
  have HSZB := Lib.hid hszB
  clear hA hB hbA bx hFA hszA hbB hbw hsz hmx bxB hF hN hg hszB
  refine callsIn_of_wp_marks Try.func40 rfl trivial ?_ rfl
  simp only [Try.ntmps40, List.size_toArray, List.length_cons, List.length_nil, Nat.reduceAdd, Nat.reduceSub, Array.replicate_succ, Array.replicate_zero, List.push_toArray, List.append_toArray, List.nil_append, List.cons_append]
  gi_wp2
  rw [← HB.out]
  refine ⟨trivial, (callsIn_wide.2 (show Calls _ _ _ _ _ from CR.out)).mono ?_⟩
  rintro e W1 ⟨t, rfl, htl, hto, hti, hb1⟩
  have htn : t.l.length = N := by rw [htl, List.length_replicate]
  rw [htn]
  have ht0 : t.l = rowC F [] := by rw [htl, HN.out, rowC_nil]
  obtain ⟨W2, hW2⟩ : ∃ u, u = W1.alloc (.cells #[.slice t.a N t.c] 22) := ⟨_, rfl⟩
  have hb2 : Below W1.heap.size W1 W2 := by rw [hW2]; exact below_alloc _ _
  have hszW2 : W2.heap.size = W1.heap.size + 1 := by rw [hW2, size_alloc]
  have hbc2 : Boxed W2 W1.heap.size 22 (.slice t.a N t.c) := by rw [hW2]; exact Boxed.new _ _ _
  have hszB1 := hb1.size
  have hb12 : Below wB.heap.size wB W2 := hb1.trans (hb2.mono hb1.size)
  have bx2 := HBX.out.on hb12
  have y0 := bx2.c0
  have y1 := bx2.c1
  rw [hW2] at y0 y1
  have CS := Lib.hid (siteSetsL_any F.o.l.length W2)
  have HW2 := Lib.hid hW2
  have HSZ2 := Lib.hid hszW2
  have HBC2 := Lib.hid hbc2
  have HB12 := Lib.hid hb12
  have HT0 := Lib.hid ht0
  have HTO := Lib.hid (hto.on hb2)
  have HTI := Lib.hid ((hti.on hb2).wide (Nat.le_refl _) (Nat.le_refl _) : t.In wB.heap.size W1.heap.size W2)
  have HZB1 := Lib.hid hszB1
  clear hW2 hb2 hszW2 hbc2 hb12 bx2 ht0 hto hti hb1 htl htn x0 x1
  gi_wp2
  rw [← HW2.out]
  refine ⟨trivial, (callsIn_wide.2 (show Calls _ _ _ _ _ from CS.out)).mono ?_⟩
  rintro e W3 ⟨Bk, Bs, rfl, hBB, HK, HS, hb3⟩
  have HB3 := Lib.hid hb3
  have HBB := Lib.hid hBB
  have hsz3 := hb3.size
  have HB13 := Lib.hid (HB12.out.trans (hb3.mono HB12.out.size))
  have HBW3 := Lib.hid (HBW.out.trans (HB13.out.mono HBW.out.size))
  clear hb3 hBB y0 y1
  have hsB := HSZB.out
  have hz2 := HSZ2.out
  have hz1 := HZB1.out
  have hsz := good_sizes HG.out
  obtain ⟨C, hC⟩ : ∃ C, C = allSets F.o.l.length := ⟨_, rfl⟩
  have HSQ := sites_seq (n - 1) (by omega) Bk Bs F.o.l.length W3 hsz.2.1 HK.out HS.out W2.heap.size W3.heap.size HBB.out.2 (World.block_lt_of_cell? W3 _ HS.out)
  rw [← hC] at HSQ
  have HSQ' := Lib.hid HSQ
  have HCL : Hid ((C.map up).length = C.length) := Lib.hid (List.length_map _)
  have HOK : Hid (∀ T ∈ C, T ≠ [] ∧ ((setB F.o.l.length (up T) = true ∧ ∀ m ∈ T, m < F.o.l.length) ∧ T.length ≤ 7)) := Lib.hid (fun T hT => all_ok hsz.2.1 (by rw [← hC]; exact hT))
  have HEQC := Lib.hid hC
  have h00 : HoldsC w.heap.size W1.heap.size wB.heap.size W1.heap.size w F t C 0 noRow W3 :=
    ⟨HBW3.out, HBX.out.on HB13.out, (HB3.out.block _ (by omega)).trans (by rw [← HN.out]; exact HBC2.out), by
      rw [List.take_zero, ← HT0.out]; exact HTO.out.on HB3.out, by
      rw [List.take_zero, ← HT0.out]; exact HTI.out.on HB3.out⟩
  have H00 := Lib.hid h00
  clear hC HSQ h00 hsz
  have hnn : 1 ≤ n - 1 := by omega
  gi_wp2
  refine wpIn_rangeLists (F := Fence.wide) rfl h1 (gf := 74) (lb := #[.pointer (some ⟨Bk, 0, none⟩), .pointer (some ⟨Bs, 0, none⟩)]) rfl trivial (enters_of Try.func74 (by kernel_rfl) rfl) HSQ'.out (Below.refl _ _) rfl wB.heap.size W1.heap.size (.inl (by omega)) (by omega)
    (HoldsC w.heap.size W1.heap.size wB.heap.size W1.heap.size w F t C) (fun k y A B h hb => h.keep hb (by omega) (by omega) (by omega)) noRow H00.out (noRow_held _)
    (fun x => { tmps := #[.agg #[.slice F.o.a F.o.l.length F.o.c, .slice F.t.a F.t.R.length F.t.c], .pointer (some ⟨w.heap.size, 0, none⟩), .slice none 0 0, .pointer (some ⟨W1.heap.size, 0, none⟩), .slice x.a x.l.length x.c, undef, undef, undef, .slice (some ⟨w.heap.size + 1, 0, none⟩) 1 1, .pointer (some ⟨w.heap.size, 1, none⟩), .slice F.t.a F.t.R.length F.t.c, .int .i64 F.t.R.length, .int .i64 N, .slice t.a N t.c, .pointer (some ⟨w.heap.size, 0, none⟩), .slice F.o.a F.o.l.length F.o.c, .int .i64 F.o.l.length, .func (.func 74) #[] #[.pointer (some ⟨Bk, 0, none⟩), .pointer (some ⟨Bs, 0, none⟩)], .slice x.a x.l.length x.c, undef, undef, undef, undef, undef, undef, undef, undef, undef, undef, undef, undef, undef, undef, undef, undef, undef, undef, undef, undef, undef, undef, undef, undef, undef, undef, undef, undef], defers := [] }) ?assign ?body ?done
  case assign =>
    intro l x W K hK
    gi_wp2
    exact hK
  case body =>
    intro l' k y x W hk hx hI hyH hxH hxI hsz
    have hkC : k < C.length := by rw [HCL.out] at hk; exact hk
    have hxC : x.l = up C[k] := by rw [hx, List.getElem_map]
    have hok := HOK.out _ (List.getElem_mem hkC)
    have HI := Lib.hid hI
    have HYH := Lib.hid hyH
    have HXH := Lib.hid hxH
    have HXI := Lib.hid hxI
    have hFW : F.At W := HF0.out.on hI.bl
    obtain ⟨T, hT⟩ : ∃ T, T = C[k] := ⟨_, rfl⟩
    rw [← hT] at hxC hok
    have hsm := good_sizes HG.out
    have CP := Lib.hid (paymentFor_any F x T W hFW hxH.2.at ⟨HG.out, hxC, hok.2.1.2, by omega⟩)
    have CL := Lib.hid (fun W' (hb : Below W.heap.size W W') => servedLengths_any F x T W' (hFW.on hb) (hxH.2.at.on hb) ⟨HG.out, hxC, List.length_pos_iff.2 hok.1, hok.2.1.2⟩)
    have CQ := Lib.hid (fun (s : Row) (W' : World) (hs : s.At W') (hsl : s.l = lens F.t.con T) => sumsOf_any s W' hs (by rw [hsl, lens_length]; omega) (fun z hz => by rw [hsl] at hz; have := lens_bound HG.out T z hz; omega))
    obtain ⟨pay, hpay⟩ : ∃ z, z = (pays F.o.l T).sum := ⟨_, rfl⟩
    have hpb : 0 ≤ pay ∧ pay ≤ 693 := by
      have h2 := sum_bound (pays_bound HG.out T)
      have h3 : (pays F.o.l T).length = T.length := by unfold pays; simp
      rw [← hpay] at h2; omega
    rw [← hpay] at CP
    have HROW : Hid (∀ i, (hi : i < N) → ∀ v : Int, v = pay + (sumsL (lens F.t.con T)).getD i 0 → minV (parT F i) (C.take (k + 1)) = min (minV (parT F i) (C.take k)) v) := Lib.hid (fun i hi v hv => by
      rw [minV_step _ _ hkC, ← hT, hv, sumsL_at _ (by rw [lens_length, ← HN.out]; exact hi), lens_length, hpay]; rfl)
    have HSB := Lib.hid (fun i (hi : i < N) => (show 0 ≤ (sumsL (lens F.t.con T)).getD i 0 ∧ (sumsL (lens F.t.con T)).getD i 0 ≤ 693 from by
      rw [sumsL_at _ (by rw [lens_length, ← HN.out]; exact hi)]
      have h4 := subS_bound (lens_bound HG.out T) (bitsTo i (lens F.t.con T).length)
      have h5 := bitsTo_len i (lens F.t.con T).length
      have h6 := lens_length F T
      omega))
    have HQN : Hid ((sumsL (lens F.t.con T)).length = N) := Lib.hid (by rw [sumsL_len, lens_length, HN.out])
    have x0 := hI.bx.c0
    have x1 := hI.bx.c1
    have hpb1 := hpb.1
    have hpb2 := hpb.2
    clear hx hI hyH hxH hxI hxC hok hFW hT hpay hsm hpb
    gi_wp2
    refine ⟨trivial, fun _ => by omega, (callsIn_wide.2 (show Calls _ _ _ _ _ from CP.out)).mono ?_⟩
    rintro e W4 ⟨rfl, hb4⟩
    have hI4 := HI.out.keep hb4 (by omega) (by omega) (by omega)
    have z0 := hI4.bx.c0
    have z1 := hI4.bx.c1
    have C5 := Lib.hid (CL.out W4 hb4)
    have HB4 := Lib.hid hb4
    have hsz4 := hb4.size
    clear hb4 hI4 x0 x1
    gi_wp2
    refine ⟨trivial, fun _ => by omega, (callsIn_wide.2 (show Calls _ _ _ _ _ from C5.out)).mono ?_⟩
    rintro e W5 ⟨sl, rfl, hsl, -, hsi, hb5⟩
    have C6 := Lib.hid (CQ.out sl W5 hsi.at hsl)
    have HSL := Lib.hid hsl
    have HB5 := Lib.hid (HB4.out.trans (hb5.mono hsz4))
    have hsz5 := HB5.out.size
    clear hsl hsi hb5 z0 z1
    gi_wp2
    refine ⟨trivial, fun _ => by omega, (callsIn_wide.2 (show Calls _ _ _ _ _ from C6.out)).mono ?_⟩
    rintro e W6 ⟨q, rfl, hql, -, hqi, hb6⟩
    rw [HSL.out] at hql
    have hqn : q.l.length = N := by rw [hql]; exact HQN.out
    rw [hqn]
    have HB6 := Lib.hid (HB5.out.trans (hb6.mono hsz5))
    have hsz6 := HB6.out.size
    have hI6 := HI.out.keep HB6.out (by omega) (by omega) (by omega)
    obtain ⟨xs, hxs⟩ : ∃ l, l = rowC F (C.take k) := ⟨_, rfl⟩
    obtain ⟨ms, hms⟩ : ∃ l, l = rowC F (C.take (k + 1)) := ⟨_, rfl⟩
    have hxn : xs.length = N := by rw [hxs, rowC_len, HN.out]
    have hmn : ms.length = xs.length := by rw [hms, hxn, rowC_len, HN.out]
    have ho6 := hI6.own
    have hi6 := hI6.ins
    rw [← hxs] at ho6 hi6
    obtain ⟨g, hga, hgl, hgh, hgW, -⟩ := row_write ho6 hi6 (a := 0) (by simp only; omega) 0
    simp only at hga
    obtain ⟨qb, qo, hqa, hqlo, hqlt, hqc⟩ : ∃ b o, q.a = some ⟨b, o, none⟩ ∧ W5.heap.size ≤ b ∧ b < W6.heap.size ∧ ∀ j, j < N → W6.cell? ⟨b, o + j, none⟩ = some (.int .i64 ((sumsL (lens F.t.con T)).getD j 0)) := by
      rcases hqi.2.2 with h3 | ⟨b, o, e, h4, h5, h6, h7⟩
      · have := congrArg List.length (iv_nil h3); rw [hqn, List.length_nil] at this; omega
      · exact ⟨b, o, e, h4, h6, fun j hj => by rw [h7 j _ (iv_at (by rw [hqn]; exact hj)), ← hql, getD_at (by rw [hqn]; exact hj)]⟩
    have HQC := Lib.hid (fun wr (ht : Touch wB.heap.size W1.heap.size W6 wr) j (hj : j < N) => (ht.cell (p := ⟨qb, qo + j, none⟩) hqlt (by simp only; omega)).trans (hqc j hj))
    have HGC := Lib.hid (fun wr (ht : Touch wB.heap.size W1.heap.size W6 wr) => (show wr.cell? ⟨W1.heap.size, 0, none⟩ = some (.slice (some ⟨g, 0, none⟩) N t.c) from by
      have h := hI6.bc
      rw [hga, ← HN.out] at h
      exact (ht.cell (p := ⟨W1.heap.size, 0, none⟩) h.lt (by simp only; omega)).trans h.cell))
    have HXS := Lib.hid hxs
    have HMS := Lib.hid hms
    have HXN := Lib.hid hxn
    have HMN := Lib.hid hmn
    have HI6 := Lib.hid hI6
    have HGA := Lib.hid hga
    have HO6 := Lib.hid ho6
    have HII6 := Lib.hid hi6
    have hni : (N : Int) ≤ 128 := by omega
    rw [hqa]
    clear hql hqi hb6 hqn hI6 hxs hms hxn hmn ho6 hi6 hga hqa hqc
    gi_wp2
    gi_loopw [6, 7, 27] (fun _ _ iv' wr => ∃ i : Nat, i ≤ N ∧ iv' = .int .i64 i ∧ Touch wB.heap.size W1.heap.size W6 wr ∧ (Row.mk t.a t.c (mixI xs ms i)).Own 3 wr ∧ (Row.mk t.a t.c (mixI xs ms i)).In wB.heap.size W1.heap.size wr) (fun _ _ iv' _ => N - (intOf iv').toNat)
    case atStart => exact ⟨0, Nat.zero_le _, rfl, Touch.refl _ _ _, by rw [mixI_zero]; exact HO6.out, by rw [mixI_zero]; exact HII6.out⟩
    case round =>
      obtain ⟨i, hi, rfl, htw, how, hiw⟩ := hrel
      by_cases hlt : i < N
      · have hlti : (i : Int) < (N : Int) := by omega
        have c1 := HQC.out wr htw i hlt
        have c2 := HGC.out wr htw
        obtain ⟨s, hs⟩ : ∃ z, z = (sumsL (lens F.t.con T)).getD i 0 := ⟨_, rfl⟩
        have hsb := HSB.out i hlt
        rw [← hs] at c1 hsb
        have hix : i < xs.length := by rw [HXN.out]; exact hlt
        obtain ⟨old, hold⟩ : ∃ z, z = xs[i] := ⟨_, rfl⟩
        have HMI : Hid (ms[i]'(by rw [HMN.out]; exact hix) = min old (pay + s)) := Lib.hid (by
          have h := HROW.out i hlt (pay + s) (by rw [hs])
          have e1 : ms[i]'(by rw [HMN.out]; exact hix) = minV (parT F i) (C.take (k + 1)) := by
            simp only [HMS.out]; exact rowC_at F _ (by rw [← HN.out]; exact hlt)
          have e2 : old = minV (parT F i) (C.take k) := by
            rw [hold]; simp only [HXS.out]; exact rowC_at F _ (by rw [← HN.out]; exact hlt)
          rw [e1, h, e2])
        have hsb1 := hsb.1
        have hsb2 := hsb.2
        have HOW := Lib.hid (fun u (hu : Below wr.heap.size wr u) => by
          have h := row_write (how.on hu) ((hiw.on hu)) (a := i) (by simp only; rw [mixI_len HMN.out]; exact hix) (min old (pay + s))
          obtain ⟨g', e1, h1, h2, h3, hfr, hcell, ho', hi', hwr⟩ := h
          simp only [HGA.out, Option.some.injEq, Addr.mk.injEq, and_true] at e1
          subst e1
          simp only at hcell ho' hi'
          rw [mixI_at HMN.out hix, ← hold] at hcell
          have e3 : (mixI xs ms i).set i (min old (pay + s)) = mixI xs ms (i + 1) := by rw [← HMI.out]; exact mixI_set HMN.out hix
          rw [e3] at ho' hi'
          exact (⟨hfr, hcell, ho', hi', (Touch.of_below hu).trans (hwr.touch (hiw.on hu))⟩ : u.frozen? ⟨g, i, none⟩ = false ∧ u.cell? ⟨g, i, none⟩ = some (.int .i64 old) ∧ (Row.mk t.a t.c (mixI xs ms (i + 1))).Own 3 (u.setCell ⟨g, i, none⟩ (.int .i64 (min old (pay + s)))) ∧ (Row.mk t.a t.c (mixI xs ms (i + 1))).In wB.heap.size W1.heap.size (u.setCell ⟨g, i, none⟩ (.int .i64 (min old (pay + s)))) ∧ Touch wB.heap.size W1.heap.size wr (u.setCell ⟨g, i, none⟩ (.int .i64 (min old (pay + s))))))
        obtain ⟨f1, c3, -, -, -⟩ := HOW.out wr (Below.refl _ _)
        have HTW := Lib.hid htw
        clear hs hold hsb htw how hiw
        have hwr : (pay + s) ≤ 1386 := by omega
        gi_wp2
        refine round_still_tail 11 (by kernel_rfl) (by kernel_rfl) (by kernel_rfl) ?_
        simp only [List.take_succ_cons, List.take_zero, List.drop_succ_cons, List.drop_zero]
        repeat still_step
        try refine wpStill_nil ?_
        change wpListIn _ _ _ _ _ _ _ wr.drew
        obtain ⟨u, hu⟩ : ∃ u, u = wr.drew := ⟨_, rfl⟩
        have hbu : Below wr.heap.size wr u := by rw [hu]; exact (Below.refl _ _).drew
        obtain ⟨f2, c4, o2, i2, t2⟩ := HOW.out u hbu
        rw [← hu]
        have O2 := Lib.hid o2
        have I2 := Lib.hid i2
        have T2 := Lib.hid (HTW.out.trans t2)
        clear hu hbu o2 i2 t2 f1 c3 c1 c2
        gi_wp2
        go_roundw
        case rel => exact ⟨i + 1, by omega, by go_num, T2.out, O2.out, I2.out⟩
        case measure => simp [intOf]; omega
      · obtain rfl : i = N := by omega
        have HEND : Hid (RoundEnd (HoldsC w.heap.size W1.heap.size wB.heap.size W1.heap.size w F t C) k y x wB.heap.size W1.heap.size W .normal { tmps := #[], defers := [] } wr) := Lib.hid (by
          have h6 := HI6.out
          have e : mixI xs ms i = rowC F (C.take (k + 1)) := by rw [← HXN.out, mixI_all HMN.out, HMS.out]
          rw [e] at how hiw
          exact ⟨(Touch.of_below HB6.out).trans htw, x, .inr rfl, ⟨h6.bl.trans (htw.below (by omega) (by omega)), h6.bx.touch htw (.inl (by omega)), (htw.block _ (by have := h6.bc.lt; omega) (by omega)).trans h6.bc, how, hiw⟩, (HXH.out.1.on HB6.out).touch (HXI.out.on HB6.out) htw (.inr (by omega)), (((HXI.out.on HB6.out).touch htw (.inr (by omega))).wide (Nat.zero_le _) (by have := htw.size; omega))⟩)
        clear htw how hiw
        gi_wp2
        exact HEND.out
  case done =>
    intro D y W hD hI hyH hK
    obtain ⟨ro, hro⟩ : ∃ l, l = rowC F C := ⟨_, rfl⟩
    have hrn : ro.length = N := by rw [hro, rowC_len, HN.out]
    have ho := hI.own
    have hi := hI.ins
    rw [HCL.out, List.take_length, ← hro] at ho hi
    obtain ⟨g, hga, hgl, hgh, hgW, hfr, hcell, ho2, hi2, hwr⟩ := row_write ho hi (a := 0) (by simp only; omega) 0
    simp only at hga hcell ho2 hi2
    have hbc := hI.bc.cell
    rw [hga, ← HN.out] at hbc
    obtain ⟨z0, hcell'⟩ : ∃ z0 : Int, W.cell? ⟨g, 0, none⟩ = some (.int .i64 z0) := ⟨_, hcell⟩
    clear hcell
    have hK2 : (W.setCell ⟨g, 0, none⟩ (.int .i64 0)).heap[D]? = some (.deferred (some [])) := (Below.heap_setCell W ⟨g, 0, none⟩ _ D (show D ≠ g by omega)).trans hK
    have ht2 := hwr.touch hi
    have hbl2 := hI.bl.trans (ht2.below (by omega) (by omega))
    have HO2 := Lib.hid ho2
    have HI2 := Lib.hid hi2
    have HGA := Lib.hid hga
    have HRO : Hid (ro.set 0 0 = costs F) := Lib.hid (by rw [hro, HEQC.out]; exact rowC_end F)
    have HRN : Hid ((ro.set 0 0).length = N) := Lib.hid (by rw [List.length_set, hrn])
    have HBL2 := Lib.hid hbl2
    have HK2 := Lib.hid hK2
    have hN0 : (0 : Int) < (N : Int) := by omega
    have hZ : W1.heap.size ≤ (W.setCell ⟨g, 0, none⟩ (.int .i64 0)).heap.size := by have := ht2.size; have := hI.bc.lt; omega
    have hbc2 : (W.setCell ⟨g, 0, none⟩ (.int .i64 0)).cell? ⟨W1.heap.size, 0, none⟩ = some (.slice (some ⟨g, 0, none⟩) N t.c) := (ht2.cell (p := ⟨W1.heap.size, 0, none⟩) hI.bc.lt (by simp only; omega)).trans hbc
    have HZ := Lib.hid hZ
    clear hI hyH hro hrn ho hi ho2 hi2 hwr hga ht2 hbl2 hK2 hgl hgh hgW hZ
    gi_wp2
    refine ⟨by simp, .inl ⟨_, _, rfl, run_takeDeferred HK2.out, ?_⟩⟩
    refine ⟨.slice (some ⟨g, 0, none⟩) N t.c, by simp [results, Try.results40, go_sem], ⟨t.a, t.c, ro.set 0 0⟩, ?_, HRO.out, ?_, ?_, ?_⟩
    · rw [HRN.out, HGA.out]
    · exact (held_put ⟨HO2.out, HI2.out.wide (Nat.zero_le _) HZ.out⟩ _ HK2.out rfl).1
    · exact held_in (held_put ⟨HO2.out, HI2.out.wide (Nat.zero_le _) HZ.out⟩ _ HK2.out rfl) (fun hl a ha => by have := in_ge HI2.out hl a ha; omega)
    · exact HBL2.out.trans (put_below _ (by omega))
end Go.Proofs.Ytfplcgakpildmaa
