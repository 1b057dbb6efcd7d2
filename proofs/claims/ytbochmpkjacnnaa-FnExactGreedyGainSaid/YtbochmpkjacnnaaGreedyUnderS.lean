/- Sites taken greedily under a rule (sizeRule), the program's side. Condition: the Field reads as such, costs of 0 to 1000 for all sites, and the rule's two tests are told by contracts. -/
import Derived.Test.YtbochmpkjacnnaaPlainPickRun
import Derived.Test.YtbochmpkjacnnaaDropSite
import Derived.Test.YtbochmpkjacnnaaWorthAsk
import Derived.Test.YtbochmpkjacnnaaEigNext
namespace Go.Proofs.Ytbochmpkjacnnaa
open Go.RowKit Go.Shelf
attribute [local go_sem] Oper.semAt_some

def lenS : Value → Nat
  | .slice _ n _ => n
  | _ => 0
/-- What the search holds between two rounds. -/
structure PickSt (F : Fld) (u : Int) (c : List Int) (p : List Nat → Bool) (n : Nat) (R : List Nat) (B lo hi : Nat) (w : World) (T L : List Nat) (t r : Row) (W : World) : Prop where
  tl : t.l = up T
  rl : r.l = up L
  tn : t.a ≠ none
  to : t.Own 3 W
  ti : ∃ x y, t.In x y W ∧ B ≤ x ∧ (y ≤ lo ∨ hi ≤ x)
  ro : r.Own 3 W
  ri : r.In lo hi W
  bl : Below w.heap.size w W
  sz : hi ≤ W.heap.size
  Tlt : ∀ m ∈ T, m < n
  Tnd : T.Nodup
  Llt : ∀ m ∈ L, m < n
  Lnd : L.Nodup
  off : ∀ m ∈ L, m ∉ T
  run : gRun F u c p L.length T L = R
theorem few_of {n : Nat} {T : List Nat} (h1 : ∀ m ∈ T, m < n) (h2 : T.Nodup) : T.length ≤ n := by
  have := nodup_len T (List.range n) h2 (fun x hx => List.mem_range.2 (h1 x hx))
  rw [List.length_range] at this; exact this

theorem up_eraseIdx (L : List Nat) : ∀ j, (up L).eraseIdx j = up (L.eraseIdx j) := by
  induction L with
  | nil => intro j; rfl
  | cons a L ih =>
    intro j
    cases j with
    | zero => rfl
    | succ j => show (a : Int) :: (up L).eraseIdx j = (a : Int) :: up (L.eraseIdx j); rw [ih j]
theorem up_nodup {L : List Nat} (h : L.Nodup) : (up L).Nodup := by
  unfold up
  exact List.Pairwise.map _ (fun a b (hab : a ≠ b) => by show (a : Int) ≠ (b : Int); omega) h
theorem up_erase {L : List Nat} {i : Nat} (_h : i ∈ L) : (up L).eraseIdx (L.idxOf i) = up (L.erase i) := by
  rw [List.erase_eq_eraseIdx_of_idxOf rfl, up_eraseIdx]
theorem PickSt.next {F : Fld} {u : Int} {c : List Int} {p : List Nat → Bool} {n : Nat} {R : List Nat} {B lo hi i : Nat} {w wr W6 W7 : World} {T L T' : List Nat} {t r y r' : Row} (st : PickSt F u c p n R B lo hi w T L t r wr) (hiL : i ∈ L) (hs : (pickG F u T c L).1 = (i : Int)) (hT' : T' = if p (T ++ [i]) then T ++ [i] else T) (hyl : y.l = up T') (hyn : y.a ≠ none) (hyo : y.Own 3 W6) (hyi : ∃ a b, y.In a b W6 ∧ B ≤ a ∧ (b ≤ lo ∨ hi ≤ a)) (hb6 : Below wr.heap.size wr W6) (hrl : r'.l = r.l.eraseIdx (L.idxOf i)) (hro : r'.Own 3 W7) (hri : r'.In lo hi W7) (t7 : Touch lo hi W6 W7) (hlo : w.heap.size ≤ lo) : PickSt F u c p n R B lo hi w T' (L.erase i) y r' W7 := by
  have hb : Below w.heap.size w W6 := st.bl.trans (hb6.mono st.bl.size)
  obtain ⟨a, b, h1, h2, h3⟩ := hyi
  have hsub : ∀ m ∈ T', m ∈ T ∨ m = i := fun m hm => by
    rw [hT'] at hm
    split at hm
    · rcases List.mem_append.1 hm with h | h
      · exact .inl h
      · exact .inr (List.mem_singleton.1 h)
    · exact .inl hm
  refine ⟨hyl, by rw [hrl, st.rl, up_erase hiL], hyn, hyo.touch h1 t7 h3, ⟨a, b, h1.touch t7 h3, h2, h3⟩, hro, hri, hb.trans (t7.below hlo hb.size), Nat.le_trans (Nat.le_trans st.sz hb6.size) t7.size, fun m hm => ?_, ?_, fun m hm => st.Llt m (List.mem_of_mem_erase hm), st.Lnd.erase i, fun m hm h => ?_, ?_⟩
  · rcases hsub m hm with h | h
    · exact st.Tlt m h
    · rw [h]; exact st.Llt i hiL
  · rw [hT']
    split
    · rw [List.nodup_append]
      refine ⟨st.Tnd, by simp, fun x hx z hz => ?_⟩
      rw [List.mem_singleton] at hz
      rw [hz]; intro e; exact st.off i hiL (e ▸ hx)
    · exact st.Tnd
  · rcases hsub m h with h | h
    · exact st.off m (List.mem_of_mem_erase hm) h
    · rw [h] at hm; exact (List.Nodup.mem_erase_iff st.Lnd).1 hm |>.1 rfl
  · rw [← st.run, List.length_erase_of_mem hiL]
    cases hL : L.length with
    | zero => exact absurd (List.length_pos_of_mem hiL) (by omega)
    | succ m =>
      rw [Nat.add_sub_cancel]
      conv => rhs; unfold gRun
      rw [hs, if_neg (by omega), Int.toNat_natCast, hT']

set_option maxRecDepth 100000 in
set_option maxHeartbeats 2000000 in
theorem greedyUnderS_any (F : Fld) (u : Int) (pay : Value) (rb : Bool) (p : List Nat → Bool) (cs : Row) (w : World) (hF : F.At w) (hc : cs.At w) (hcl : F.o.l.length ≤ cs.l.length) (hcb : ∀ i, 0 ≤ cs.l.getD i 0 ∧ cs.l.getD i 0 ≤ 1000)
    (hV : ∀ W, Below w.heap.size w W → Calls Try.prog 56 #[pay] W fun e w' => e = .returned (.bool rb) ∧ Below W.heap.size W w')
    (hA : worthB F u = true → rb = true → ∀ (T : List Nat) (x : Row) (W : World), (∀ m ∈ T, m < F.o.l.length) → T.Nodup → Below w.heap.size w W → x.At W → x.l = up T → Calls Try.prog 139 #[pay, .slice x.a x.l.length x.c] W fun e w' => e = .returned (.bool (p T)) ∧ Below W.heap.size W w')
    (b : Bool) (hb0 : b = (worthB F u && rb)) (l : List Int) (hl0 : l = if b then up (gRun F u cs.l p F.o.l.length [] (List.range F.o.l.length)) else []) :
    Calls Try.prog 50 #[.agg #[.slice F.o.a F.o.l.length F.o.c, .slice F.t.a F.t.R.length F.t.c, .int .i64 u], .iface 52 pay, .slice cs.a cs.l.length cs.c] w (PInts l b w) := by
  obtain ⟨i0, hi, hz0, hz1, hz2⟩ := info_parts infoInt
  obtain ⟨wA, hA0, hbA, bx, hFA, hszA⟩ := laid_val F u w 50 hF
  obtain ⟨V, hV0⟩ : ∃ V, V = wA.alloc (.cells #[] 3) := ⟨_, rfl⟩
  have hbV : Below w.heap.size w V := by rw [hV0]; exact hbA.alloc hbA.size _
  have szV : V.heap.size = w.heap.size + 2 := by rw [hV0, size_alloc, hszA]
  have bxV : BoxV V w.heap.size F u 50 := by rw [hV0]; exact bx.on (below_alloc _ _)
  have hOw : V.ownsRow (w.heap.size + 1) 3 1 (.slice (some ⟨w.heap.size + 1, 0, none⟩) 0 0) ([] : List Int).length (iv []) := by
    rw [hV0, ← hszA]; exact empty_own wA
  have hVA : Hid ((w.alloc (Obj.cells #[.slice F.o.a F.o.l.length F.o.c, .slice F.t.a F.t.R.length F.t.c, .int .i64 u] 50)).alloc (.cells #[] 3) = V) := Lib.hid (by rw [hV0, hA0])
  obtain ⟨g, hg⟩ : ∃ g, g = worthB F u := ⟨_, rfl⟩
  have CW := Lib.hid (by have := validV_any F u V (hF.on hbV); rw [← hg] at this; exact this)
  have CR := Lib.hid hV
  have CA := Lib.hid hA
  have HBV := Lib.hid hbV
  have HSV := Lib.hid szV
  have HBX := Lib.hid bxV
  have HFF := Lib.hid hF
  have HCS := Lib.hid hc
  have HCB := Lib.hid hcb
  have HG := Lib.hid hg
  have HOW := Lib.hid hOw
  have HB0 : Hid (b = (g && rb)) := Lib.hid (by rw [hb0, hg])
  have HL0 := Lib.hid hl0
  have HNO : Hid (b = false → ∀ W, Below V.heap.size V W → PInts l b w (.returned (.tuple #[.slice (some ⟨w.heap.size + 1, 0, none⟩) 0 0, .bool false])) W) := Lib.hid (fun h W hW => by
    obtain ⟨y0, hy0v, hy0l, hy0o, hy0i⟩ := row_of_own hOw
    have e : l = [] := by rw [hl0, h]; rfl
    rw [hy0v, e, h]
    exact ⟨y0, rfl, hy0l, hy0o.on hW, ((hy0i.on hW).wide (by omega) hW.size), hbV.trans (hW.mono hbV.size)⟩)
  have x0 := bxV.c0
  have x1 := bxV.c1
  have x2 := bxV.c2
  clear hF hc hcb hV hA hb0 hl0 hA0 hV0 hbA hbV bx bxV hFA hszA hOw hg szV
  go_enter Try.func50, Try.ntmps50
  go_wp2_with fail
  rw [hVA.out]
  go_wp2_with fail
  refine (show Calls _ _ _ _ _ from CW.out).mono ?_
  rintro e W1 ⟨rfl, hb1⟩
  have HB1 := Lib.hid hb1
  clear x0 x1 x2
  cases g with
  | false =>
    have HE := Lib.hid (HNO.out HB0.out W1 hb1)
    clear hb1
    go_wp2
    go_ret2
    exact HE.out
  | true =>
    have CR1 := Lib.hid (CR.out W1 (HBV.out.trans (hb1.mono HBV.out.size)))
    clear hb1
    go_wp2_with fail
    refine (show Calls _ _ _ _ _ from CR1.out).mono ?_
    rintro e W2 ⟨rfl, hb2⟩
    have HB2 := Lib.hid (HB1.out.trans (hb2.mono HB1.out.size))
    clear hb2
    cases rb with
    | false =>
      have HE := Lib.hid (HNO.out HB0.out W2 HB2.out)
      go_wp2
      go_ret2
      exact HE.out
    | true =>
      have HBT : Hid (b = true) := Lib.hid HB0.out
      obtain ⟨n, hn⟩ : ∃ n, n = F.o.l.length := ⟨_, rfl⟩
      have hGood := (worthB_iff.1 HG.out.symm).1
      have hn7 : n ≤ 7 := by have := good_sizes hGood; omega
      have CN := Lib.hid (by have := E8.numbers_any F.o.l.length W2 (by omega); exact this)
      have bx2 := HBX.out.on HB2.out
      have x0 := bx2.c0
      have x1 := bx2.c1
      have x2 := bx2.c2
      have HN := Lib.hid hn
      clear bx2 hn hGood
      go_wp2_with fail
      refine (show Calls _ _ _ _ _ from CN.out).mono ?_
      rintro e W3 ⟨r0, rfl, hr0l, hr0o, hr0i, hb3⟩
      obtain ⟨lo, hlo⟩ : ∃ lo, lo = W2.heap.size := ⟨_, rfl⟩
      obtain ⟨hh, hhh⟩ : ∃ hh, hh = W3.heap.size := ⟨_, rfl⟩
      obtain ⟨R, hR⟩ : ∃ R, R = gRun F u cs.l p F.o.l.length [] (List.range F.o.l.length) := ⟨_, rfl⟩
      have HB3 := Lib.hid (HB2.out.trans (hb3.mono HB2.out.size))
      have HLL : Hid (l = up R) := Lib.hid (by rw [HL0.out, HBT.out, hR]; rfl)
      have HP0 : Hid (∃ (T L : List Nat) (t r : Row), Value.slice (some ⟨w.heap.size + 1, 0, none⟩) 0 0 = .slice t.a t.l.length t.c ∧ Value.slice r0.a r0.l.length r0.c = .slice r.a r.l.length r.c ∧ PickSt F u cs.l p F.o.l.length R w.heap.size lo hh w T L t r W3) := Lib.hid (by
        obtain ⟨y0, hy0v, hy0l, hy0o, hy0i⟩ := row_of_own HOW.out
        refine ⟨[], List.range F.o.l.length, y0, r0, hy0v, rfl, hy0l, hr0l, fun h => ?_, hy0o.on HB3.out, ⟨w.heap.size + 1, V.heap.size, hy0i.on HB3.out, by omega, .inl ?_⟩, hr0o, by rw [hlo, hhh]; exact hr0i, HBV.out.trans (HB3.out.mono HBV.out.size), by omega, by simp, by simp, fun m hm => List.mem_range.1 hm, List.nodup_range, by simp, by rw [List.length_range]; exact hR.symm⟩
        · rw [h] at hy0v; simp at hy0v
        · rw [hlo]; exact HB2.out.size)
      have hlo1 : V.heap.size ≤ lo := by rw [hlo]; exact HB2.out.size
      clear hr0l hr0o hr0i hb3 hR hlo hhh x0 x1 x2
      go_wp2
      go_loopw [8, 9, 10, 11] (fun tv lv _ _ wr => ∃ (T L : List Nat) (t r : Row), tv = .slice t.a t.l.length t.c ∧ lv = .slice r.a r.l.length r.c ∧ PickSt F u cs.l p F.o.l.length R w.heap.size lo hh w T L t r wr ∧ Below V.heap.size V wr) (fun _ lv _ _ _ => lenS lv)
      case atStart =>
        obtain ⟨T, L, t, r, e1, e2, h⟩ := HP0.out
        exact ⟨T, L, t, r, e1, e2, h, HB3.out⟩
      case round =>
        obtain ⟨T, L, t, r, rfl, rfl, st, hbw⟩ := hrel
        have hT7 : T.length ≤ 7 := by have := few_of st.Tlt st.Tnd; have := HN.out; omega
        have hL7 : L.length ≤ 7 := by have := few_of st.Llt st.Lnd; have := HN.out; omega
        have hFw := HFF.out.on st.bl
        have hta : t.At wr := by obtain ⟨x, y, h, _⟩ := st.ti; exact h.at
        have CP := Lib.hid (bestPick_any F u t r cs T L wr hFw hta st.tn ⟨HG.out.symm, st.tl, st.Tlt, by omega⟩ (by omega) st.ri.at st.rl st.Llt hL7 (HCS.out.on st.bl) hcl HCB.out)
        obtain ⟨⟨s1, s2, s3⟩, hs⟩ : ∃ s, s = pickG F u T cs.l L := ⟨_, rfl⟩
        rw [← hs] at CP
        simp only at CP
        have bxw := HBX.out.on hbw
        have x0 := bxw.c0
        have x1 := bxw.c1
        have x2 := bxw.c2
        have HS := Lib.hid hs
        have ST := Lib.hid st
        have HBW := Lib.hid hbw
        clear bxw hs st hbw hFw hta
        go_wp2_with fail
        refine (show Calls _ _ _ _ _ from CP.out).mono ?_
        rintro e W4 ⟨rfl, hb4⟩
        have HB4 := Lib.hid hb4
        clear hb4 x0 x1 x2
        by_cases h1 : s1 = -1
        · subst h1
          have HE : Hid (R = T) := Lib.hid (by
            rw [← ST.out.run]
            cases hL : L.length with
            | zero => rfl
            | succ m => unfold gRun; rw [← HS.out, if_pos rfl])
          have HFIN : Hid (∀ W5, Below W4.heap.size W4 W5 → PInts l b w (.returned (.tuple #[.slice t.a t.l.length t.c, .bool true])) W5) := Lib.hid fun W5 h5 => by
            rw [HBT.out, HLL.out]
            have hb := HB4.out.trans (h5.mono HB4.out.size)
            obtain ⟨x, y, h, hx, _⟩ := ST.out.ti
            refine ⟨t, rfl, by rw [ST.out.tl, HE.out], ST.out.to.on hb, ?_, ST.out.bl.trans (hb.mono ST.out.bl.size)⟩
            obtain ⟨q1, q2, q3⟩ := h.on hb
            refine ⟨q1, q2, ?_⟩
            rcases q3 with q3 | ⟨b', o', e', a1, a2, a3, a4⟩
            · exact .inl q3
            · exact .inr ⟨b', o', e', by omega, a3, a3, a4⟩
          go_wp2
          go_ret2
          exact HFIN.out _ (below_alloc _ _)
        · obtain ⟨i, hiL, hie⟩ : ∃ i : Nat, i ∈ L ∧ s1 = (i : Int) := by
            rcases pickG_site F u T cs.l L with h | ⟨h, h'⟩
            · rw [← HS.out] at h; exact absurd h h1
            · rw [← HS.out] at h h'; exact ⟨_, h, h'⟩
          subst hie
          have hne : ((i : Int) == -1) = false := beq_false_of_ne (by omega)
          obtain ⟨W5, hW5⟩ : ∃ W5, W5 = W4.alloc (.cells #[.int .i64 (i : Int), .int .i64 s2, .int .i64 s3] 87) := ⟨_, rfl⟩
          have bx5 : Box3 W5 W4.heap.size (.int .i64 (i : Int)) (.int .i64 s2) (.int .i64 s3) 87 := by rw [hW5]; exact Box3.made _ _ _ _ _
          have hb45 : Below W4.heap.size W4 W5 := by rw [hW5]; exact below_alloc _ _
          have hb5 : Below wr.heap.size wr W5 := HB4.out.trans (hb45.mono HB4.out.size)
          have hsz5 : W4.heap.size < W5.heap.size := by rw [hW5, size_alloc]; omega
          have HW5 := Lib.hid hW5.symm
          have BX5 := Lib.hid bx5
          have HB5 := Lib.hid hb5
          have HSZ5 := Lib.hid hsz5
          have hta : t.At wr := by obtain ⟨x, y, h, _⟩ := ST.out.ti; exact h.at
          have htl := ST.out.tl
          obtain ⟨nt, hnt⟩ : ∃ nt, nt = t.l.length := ⟨_, rfl⟩
          have hnt7 : nt ≤ 7 := by rw [hnt, htl, up_length]; exact hT7
          have CC := Lib.hid (fun W (h : Below W5.heap.size W5 W) => (by
            have := cloneW_any t W (hta.on (hb5.trans (h.mono hb5.size))) ST.out.tn (by omega)
            rw [← hnt] at this
            exact this.mono (fun e w' ⟨v', h1, h2, h3⟩ => ⟨v', h1, owns_low h2 h.size, h3⟩) : Calls Try.prog 78 #[.slice t.a nt t.c] W fun e w' => ∃ v', e = .returned v' ∧ w'.ownsRow W5.heap.size 3 1 v' nt (iv t.l) ∧ Below W.heap.size W w'))
          have HROW : Hid (∀ (W' : World) (v : Value), W'.ownsRow W5.heap.size 3 1 v (nt + 1) (iv t.l ++ [.int .i64 (i : Int)]) → ∃ y : Row, v = .slice y.a y.l.length y.c ∧ y.l = up (T ++ [i]) ∧ y.a ≠ none ∧ y.Own 3 W' ∧ y.In W5.heap.size W'.heap.size W') := Lib.hid fun W' v h => by
            have e : iv t.l ++ [.int .i64 (i : Int)] = iv (up (T ++ [i])) := by rw [htl, ← up_snocM]; simp [iv]
            rw [e] at h
            have hl : nt + 1 = (up (T ++ [i])).length := by rw [up_length, List.length_append, hnt, htl, up_length]; rfl
            rw [hl] at h
            obtain ⟨y, h1, h2, h3, h4⟩ := row_of_own h
            refine ⟨y, h1, h2, fun h => ?_, h3, h4⟩
            rcases h3 with h3 | ⟨g, h3, _⟩
            · rw [h2] at h3; have := congrArg List.length h3; rw [up_length, List.length_append] at this; simp at this
            · rw [h] at h3; cases h3
          have HSU : Hid (∀ U, Below W5.heap.size W5 U → ((U.cell? ⟨W4.heap.size, 0, none⟩ = some (.int .i64 (i : Int))) ∧ Below W5.heap.size W5 U)) := Lib.hid fun U hu => ⟨(bx5.on hu).c0, hu⟩
          have HAL : Hid (∀ U o, Below W5.heap.size W5 U → Below W5.heap.size W5 (U.alloc o)) := Lib.hid fun U o hu => hu.alloc hu.size o
          have HGR : Hid (∀ (U U' : World) (v : Value) (B : Nat) (xs : List Value) (m : Nat), U.grownBy U' v.ownBlock → Below W5.heap.size W5 U → U.ownsRow B 3 1 v m xs → W5.heap.size ≤ B → Below W5.heap.size W5 U') := Lib.hid fun U U' v B xs m hg hu ho hB => hu.grown hg hu.size (fun j hj => Nat.le_trans hB (ho.lt j hj).1)
          have s0 := HSU.out W5.drew (Below.refl _ _).drew
          rw [← hnt]
          have HNT := Lib.hid hnt
          have HIL := Lib.hid hiL
          have HTL := Lib.hid htl
          clear hW5 bx5 hb45 hb5 hsz5 hta htl hnt hiL h1
          go_wp2
          rw [HW5.out]
          go_region_held3 (fun U => (U.cell? ⟨W4.heap.size, 0, none⟩ = some (.int .i64 (i : Int))) ∧ Below W5.heap.size W5 U) (first | exact s0 | exact HSU.out _ (by assumption) | exact HSU.out _ (HAL.out _ _ (by assumption)) | exact HSU.out _ (HAL.out _ _ (by exact And.right (by assumption))) | exact HSU.out _ (HAL.out _ _ (Below.refl _ _)).drew) (first
            | (go_at_call 78; refine (show Calls _ _ _ _ _ from CC.out _ (by first | assumption | exact And.right (by assumption))).mono ?_; rintro e u1 ⟨vc, rfl, hoc, hb1⟩; have hB1 : Below W5.heap.size W5 u1 := Below.trans (show Below W5.heap.size W5 _ from (by first | assumption | exact And.right (by assumption))) (hb1.mono (Below.size (show Below W5.heap.size W5 _ from (by first | assumption | exact And.right (by assumption))))); have hzu := Below.size (show Below W5.heap.size W5 _ from (by first | assumption | exact And.right (by assumption))))
            | (refine step_append_lies _ rfl (.tmp 37) (.tmp 40) 22 rfl W5.heap.size 3 i0 (.int .i64 0) 1 8 Try.underlying22 hi hz0 hz1 hz2 rfl (by decide) _ _ _ rfl (by first | exact hoc | exact hoc.alloc _ | exact owns_below hoc (by assumption) | exact (owns_below hoc (by assumption)).alloc _) _ 1 1 [.int .i64 (i : Int)] rfl rfl (by first | exact one_cell _ _ _ | exact one_onD hb1 | exact one_on hb1) (by simp [Value.oneCell']) (by omega) (by unfold maxLen; omega) (by omega) (by first | omega | (simp; omega)) _ rfl ?_; intro g cap w1 hown' hgrow hat hlt1; have hB3 : Below W5.heap.size W5 w1 := HGR.out _ _ _ _ _ _ hgrow (by first | assumption | exact And.right (by assumption) | exact HAL.out _ _ (by assumption) | exact HAL.out _ _ (And.right (by assumption))) (by first | exact hoc | exact hoc.alloc _ | exact owns_below hoc (by assumption) | exact (owns_below hoc (by assumption)).alloc _) (Nat.le_refl _); have HTA := Lib.hid (HROW.out w1 _ hown')))
          all_goals
            obtain ⟨y, hyv, hyl, hyn, hyo, hyi⟩ := HTA.out
            rw [hyv]
            have HB3 := Lib.hid hB3
            clear HTA hown' hgrow hat hlt1 hB3
            have hb1' : Below wr.heap.size wr w1 := HB5.out.trans (HB3.out.mono HB5.out.size)
            obtain ⟨v, hv⟩ : ∃ v, v = p (T ++ [i]) := ⟨_, rfl⟩
            have hTi : ∀ m ∈ T ++ [i], m < F.o.l.length := fun m hm => by
              rcases List.mem_append.1 hm with h | h
              · exact ST.out.Tlt m h
              · rw [List.mem_singleton.1 h]; exact ST.out.Llt i HIL.out
            have hTn : (T ++ [i]).Nodup := by
              rw [List.nodup_append]
              refine ⟨ST.out.Tnd, by simp, fun x hx z hz => ?_⟩
              rw [List.mem_singleton] at hz
              rw [hz]; intro e; exact ST.out.off i HIL.out (e ▸ hx)
            have CA1 := Lib.hid (by have := CA.out HG.out.symm (by first | rfl | trivial) (T ++ [i]) y w1 hTi hTn (ST.out.bl.trans (hb1'.mono ST.out.bl.size)) hyi.at hyl; rw [← hv] at this; exact this)
            have hp : L.idxOf i < r.l.length := by rw [ST.out.rl, up_length]; exact List.idxOf_lt_length_of_mem HIL.out
            have hps : r.l[L.idxOf i] = (i : Int) := by simp only [ST.out.rl, up, List.getElem_map, List.getElem_idxOf]
            have hrm : r.l.length ≤ 7 := by rw [ST.out.rl, up_length]; exact hL7
            have CD := Lib.hid (fun W6 (h6 : Below w1.heap.size w1 W6) => deleteSite_any r lo hh W4.heap.size (L.idxOf i) (i : Int) W6 (ST.out.ro.on (hb1'.trans (h6.mono hb1'.size))) (ST.out.ri.on (hb1'.trans (h6.mono hb1'.size))) (BX5.out.on (HB3.out.trans (h6.mono HB3.out.size))).c0 (.inr (Nat.le_trans ST.out.sz HB4.out.size)) (Nat.lt_of_lt_of_le HSZ5.out (Nat.le_trans HB3.out.size h6.size)) hp hps (by rw [ST.out.rl]; exact up_nodup ST.out.Lnd) hrm)
            have HLEN : Hid (∀ r' : Row, r'.l = r.l.eraseIdx (L.idxOf i) → r'.l.length < r.l.length) := Lib.hid fun r' h => by rw [h, List.length_eraseIdx, if_pos hp]; omega
            have hpk : (pickG F u T cs.l L).1 = (i : Int) := by rw [← HS.out]
            have HLO : Hid (w.heap.size ≤ lo) := Lib.hid (Nat.le_trans HBV.out.size hlo1)
            have HVW := Lib.hid (HBW.out.trans (hb1'.mono HBW.out.size))
            have HNX := Lib.hid (fun W6 W7 (r' : Row) (h6 : Below w1.heap.size w1 W6) (h1 : r'.l = r.l.eraseIdx (L.idxOf i)) (h2 : r'.Own 3 W7) (h3 : r'.In lo hh W7) (h4 : Touch lo hh W6 W7) => (show Below V.heap.size V W7 ∧ (v = true → PickSt F u cs.l p F.o.l.length R w.heap.size lo hh w (T ++ [i]) (L.erase i) y r' W7) ∧ (v = false → PickSt F u cs.l p F.o.l.length R w.heap.size lo hh w T (L.erase i) t r' W7) from by
              have h61 := hb1'.trans (h6.mono hb1'.size)
              refine ⟨(HVW.out.trans (h6.mono HVW.out.size)).trans (h4.below hlo1 (Nat.le_trans HVW.out.size h6.size)), fun hvt => ?_, fun hvf => ?_⟩
              · exact ST.out.next HIL.out hpk (T' := T ++ [i]) (by rw [← hv, hvt, if_pos rfl]) hyl hyn (hyo.on h6) ⟨_, _, hyi.on h6, Nat.le_trans ST.out.bl.size HB5.out.size, .inr (Nat.le_trans ST.out.sz HB5.out.size)⟩ h61 h1 h2 h3 h4 HLO.out
              · obtain ⟨x, z, q1, q2, q3⟩ := ST.out.ti
                exact ST.out.next HIL.out hpk (T' := T) (by rw [← hv, hvf, if_neg (by simp)]) ST.out.tl ST.out.tn (ST.out.to.on h61) ⟨x, z, q1.on h61, q2, q3⟩ h61 h1 h2 h3 h4 HLO.out))
            clear hyv hyl hyn hyo hyi hv hTi hTn hp hps hrm hpk hb1'
            go_wp2_with fail
            refine (show Calls _ _ _ _ _ from CA1.out).mono ?_
            rintro e W6 ⟨rfl, hb6⟩
            have HB6 := Lib.hid hb6
            have CD1 := Lib.hid (CD.out W6 hb6)
            clear hb6
            cases v with
            | true =>
              go_wp2_with fail
              refine (show Calls _ _ _ _ _ from CD1.out).mono ?_
              rintro e W7 ⟨r', rfl, k1, k2, k3, k4⟩
              have N := Lib.hid (HNX.out W6 W7 r' HB6.out k1 k2 k3 k4)
              have HL := HLEN.out r' k1
              clear k1 k2 k3 k4
              go_wp2
              go_roundw
              case rel => exact ⟨T ++ [i], L.erase i, y, r', rfl, rfl, N.out.2.1 (by first | rfl | trivial), N.out.1⟩
              case measure => exact HL
            | false =>
              go_wp2_with fail
              refine (show Calls _ _ _ _ _ from CD1.out).mono ?_
              rintro e W7 ⟨r', rfl, k1, k2, k3, k4⟩
              have N := Lib.hid (HNX.out W6 W7 r' HB6.out k1 k2 k3 k4)
              have HL := HLEN.out r' k1
              clear k1 k2 k3 k4
              go_wp2
              go_roundw
              case rel => exact ⟨T, L.erase i, t, r', by rw [HNT.out], rfl, N.out.2.2 (by first | rfl | trivial), N.out.1⟩
              case measure => exact HL
end Go.Proofs.Ytbochmpkjacnnaa
