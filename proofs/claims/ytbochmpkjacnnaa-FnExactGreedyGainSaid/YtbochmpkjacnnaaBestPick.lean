/- The best pick among some sites, on the program's side. Condition: a valid Field and worth; costs of 0 to 1000 for all sites. -/
import Derived.Test.YtbochmpkjacnnaaPickTools
import Derived.Test.YtbochmpkjacnnaaMargImpl
namespace Go.Proofs.Ytbochmpkjacnnaa
open Go.RowKit Go.Shelf

/-- The better one of a pick and that of a site. -/
def pickStep (F : Fld) (u : Int) (T : List Nat) (c : List Int) (b : Int × Int × Int) (i : Nat) : Int × Int × Int :=
  if moreT F u T i * b.2.2 > b.2.1 * c.getD i 0 then ((i : Int), moreT F u T i, c.getD i 0) else b
def pickG (F : Fld) (u : Int) (T : List Nat) (c : List Int) (L : List Nat) : Int × Int × Int := L.foldl (pickStep F u T c) (-1, 0, 1)
theorem pickG_bound {F : Fld} {u : Int} (hw : worthB F u = true) (T : List Nat) {c : List Int} (hc : ∀ i, 0 ≤ c.getD i 0 ∧ c.getD i 0 ≤ 1000) (L : List Nat) : ∀ b : Int × Int × Int, (0 ≤ b.2.1 ∧ b.2.1 ≤ 6993) ∧ (0 ≤ b.2.2 ∧ b.2.2 ≤ 1000) → (0 ≤ (L.foldl (pickStep F u T c) b).2.1 ∧ (L.foldl (pickStep F u T c) b).2.1 ≤ 6993) ∧ (0 ≤ (L.foldl (pickStep F u T c) b).2.2 ∧ (L.foldl (pickStep F u T c) b).2.2 ≤ 1000) := by
  induction L with
  | nil => intro b h; exact h
  | cons i L ih =>
    intro b h
    refine ih _ ?_
    unfold pickStep
    split
    · exact ⟨moreT_bound hw T i, hc i⟩
    · exact h
theorem pickG_step (F : Fld) (u : Int) (T : List Nat) (c : List Int) (L : List Nat) {k : Nat} (hk : k < L.length) : pickG F u T c (L.take (k + 1)) = pickStep F u T c (pickG F u T c (L.take k)) L[k] := by
  unfold pickG
  rw [List.take_succ_eq_append_getElem hk, List.foldl_append]; rfl

theorem at_fact {Q : Exit → Act → World → Prop} {e : Exit} {a : Act} {u : World} {P : World → Prop} (hP : P u) (h : ∀ v, P v → Q e a v) : Q e a u := h u hP
theorem next_on {V u1 : World} {x y z : Value} {t : TypeId} (hb : Below (V.alloc (.cells #[x, y, z] t)).heap.size (V.alloc (.cells #[x, y, z] t)) u1) : Box3 u1 V.heap.size x y z t := (Box3.made V x y z t).on hb
theorem next_onD {V u1 : World} {x y z : Value} {t : TypeId} (hb : Below (V.alloc (.cells #[x, y, z] t)).drew.heap.size (V.alloc (.cells #[x, y, z] t)).drew u1) : Box3 u1 V.heap.size x y z t := next_on ((Below.refl (V.alloc (.cells #[x, y, z] t)).heap.size (V.alloc (.cells #[x, y, z] t))).drew.trans hb)

set_option maxRecDepth 32000 in
set_option maxHeartbeats 1500000 in
theorem bestPick_any (F : Fld) (u : Int) (s r cs : Row) (T L : List Nat) (w : World) (hF : F.At w) (hs : s.At w) (hn : s.a ≠ none) (hf : Worthy F u s T) (hT : T.length ≤ 100) (hr : r.At w) (hrl : r.l = up L) (hL : ∀ i ∈ L, i < F.o.l.length) (hLm : L.length ≤ 7) (hc : cs.At w) (hcl : F.o.l.length ≤ cs.l.length) (hcb : ∀ i, 0 ≤ cs.l.getD i 0 ∧ cs.l.getD i 0 ≤ 1000) :
    Calls Try.prog 77 #[.agg #[.slice F.o.a F.o.l.length F.o.c, .slice F.t.a F.t.R.length F.t.c, .int .i64 u], .slice s.a s.l.length s.c, .slice r.a r.l.length r.c, .slice cs.a cs.l.length cs.c] w fun e w' => e = .returned (.agg #[.int .i64 (pickG F u T cs.l L).1, .int .i64 (pickG F u T cs.l L).2.1, .int .i64 (pickG F u T cs.l L).2.2]) ∧ Below w.heap.size w w' := by
  obtain ⟨wA, hA, hbA, bx, hFA, hszA⟩ := laid_val F u w 50 hF
  obtain ⟨wC, hC⟩ : ∃ x, x = (wA.alloc (.cells #[.int .i64 0, .int .i64 0, .int .i64 0] 87)).alloc (.cells #[.int .i64 (-1), .int .i64 0, .int .i64 1] 87) := ⟨_, rfl⟩
  have hbC : Below wA.heap.size wA wC := by rw [hC]; exact ((Below.refl _ _).alloc (Nat.le_refl _) _).alloc (by rw [size_alloc]; omega) _
  have r0 : Box3 wC (w.heap.size + 1) (.int .i64 0) (.int .i64 0) (.int .i64 0) 87 := by rw [hC, ← hszA]; exact (Box3.made wA _ _ _ _).later _
  have b0 : Box3 wC (w.heap.size + 1 + 1) (.int .i64 (-1)) (.int .i64 0) (.int .i64 1) 87 := by
    rw [hC, ← hszA]
    have := Box3.made (wA.alloc (.cells #[.int .i64 0, .int .i64 0, .int .i64 0] 87)) (.int .i64 (-1)) (.int .i64 0) (.int .i64 1) 87
    rw [size_alloc] at this; exact this
  have HSETB := Lib.hid (fun (W : World) (x y z a b c : Value) (hb : Below wA.heap.size wA W) (hr : Box3 W (w.heap.size + 1) (.int .i64 0) (.int .i64 0) (.int .i64 0) 87) (h : Box3 W (w.heap.size + 1 + 1) x y z 87) => (show
      Below wA.heap.size wA (((W.setCell ⟨w.heap.size + 1 + 1, 0, none⟩ a).setCell ⟨w.heap.size + 1 + 1, 1, none⟩ b).setCell ⟨w.heap.size + 1 + 1, 2, none⟩ c) ∧ Box3 (((W.setCell ⟨w.heap.size + 1 + 1, 0, none⟩ a).setCell ⟨w.heap.size + 1 + 1, 1, none⟩ b).setCell ⟨w.heap.size + 1 + 1, 2, none⟩ c) (w.heap.size + 1) (.int .i64 0) (.int .i64 0) (.int .i64 0) 87 ∧ Box3 (((W.setCell ⟨w.heap.size + 1 + 1, 0, none⟩ a).setCell ⟨w.heap.size + 1 + 1, 1, none⟩ b).setCell ⟨w.heap.size + 1 + 1, 2, none⟩ c) (w.heap.size + 1 + 1) a b c 87 from
      ⟨((hb.setCell (by simp only; omega) _).setCell (by simp only; omega) _).setCell (by simp only; omega) _, ((hr.other _ _ (by simp only; omega)).other _ _ (by simp only; omega)).other _ _ (by simp only; omega), ((h.set0 _).set1 _).set2 _⟩))
  have HB0 := Lib.hid hbC
  have HR0 := Lib.hid r0
  have HBB0 := Lib.hid b0
  have HA := Lib.hid hA.symm
  have HC := Lib.hid hC.symm
  have HBA := Lib.hid hbA
  have HBW := Lib.hid (fun W (h : Below wA.heap.size wA W) => (show Below w.heap.size w W from hbA.trans (h.mono hbA.size)))
  have CM := Lib.hid (fun (i : Nat) (hi : i < F.o.l.length) W (h : Below wA.heap.size wA W) => marginal_any F u s T i W (hF.on (HBW.out W h)) (hs.on (HBW.out W h)) hn hf hT hi)
  have HRW := Lib.hid (fun W (h : Below wA.heap.size wA W) => hr.on (HBW.out W h))
  have HCW := Lib.hid (fun W (h : Below wA.heap.size wA W) => hc.on (HBW.out W h))
  have HBX := Lib.hid (fun W (h : Below wA.heap.size wA W) => bx.on h)
  have HGO := Lib.hid hf.good
  have HLL := Lib.hid hL
  have HRL := Lib.hid hrl
  have HCB := Lib.hid hcb
  have HPB := Lib.hid (fun k => pickG_bound hf.good T hcb (L.take k) (-1, 0, 1) ⟨⟨by decide, by decide⟩, by decide, by decide⟩)
  have hrn : r.l.length = L.length := by rw [hrl, up_length]
  obtain ⟨n, hnn⟩ : ∃ n, n = L.length := ⟨_, rfl⟩
  have hni : (n : Int) ≤ 7 := by omega
  rw [hrn, ← hnn]
  have HNN := Lib.hid hnn
  clear hA hC hbA hbC r0 b0 bx hFA hszA hF hs hn hf hT hr hrl hL hc hcb hrn hLm hnn
  go_enter Try.func77, Try.ntmps77
  go_wp2_with fail
  rw [HA.out]
  go_wp2
  rw [HC.out]
  go_loopw [11, 12, 16] (fun _ _ kv wr => ∃ k : Nat, k ≤ n ∧ kv = .int .i64 (k : Int) ∧ Below wA.heap.size wA wr ∧ Box3 wr (w.heap.size + 1) (.int .i64 0) (.int .i64 0) (.int .i64 0) 87 ∧ Box3 wr (w.heap.size + 1 + 1) (.int .i64 (pickG F u T cs.l (L.take k)).1) (.int .i64 (pickG F u T cs.l (L.take k)).2.1) (.int .i64 (pickG F u T cs.l (L.take k)).2.2) 87) (fun _ _ kv _ => n - (intOf kv).toNat)
  case atStart => exact ⟨0, Nat.zero_le _, rfl, HB0.out, HR0.out, by rw [List.take_zero]; exact HBB0.out⟩
  case round =>
    obtain ⟨k, hk, rfl, hbr, hrr, hbb⟩ := hrel
    obtain ⟨⟨b1, b2, b3⟩, hb⟩ : ∃ b, b = pickG F u T cs.l (L.take k) := ⟨_, rfl⟩
    rw [← hb] at hbb
    simp only at hbb
    by_cases hlt : k < n
    · have hlti : (k : Int) < (n : Int) := by omega
      have hkL : k < L.length := by have := HNN.out; omega
      obtain ⟨i, hi⟩ : ∃ i, i = L[k] := ⟨_, rfl⟩
      have hio : i < F.o.l.length := by rw [hi]; exact HLL.out _ (List.getElem_mem hkL)
      have hic : i < cs.l.length := by omega
      obtain ⟨x, hx⟩ : ∃ x, x = moreT F u T i := ⟨_, rfl⟩
      obtain ⟨ci, hci⟩ : ∃ ci, ci = cs.l.getD i 0 := ⟨_, rfl⟩
      have HST : Hid (pickG F u T cs.l (L.take (k + 1)) = if x * b3 > b2 * ci then ((i : Int), x, ci) else (b1, b2, b3)) := Lib.hid (by rw [pickG_step F u T cs.l L hkL, ← hb, ← hi]; unfold pickStep; rw [← hx, ← hci])
      have hxb : 0 ≤ x ∧ x ≤ 6993 := by rw [hx]; exact moreT_bound HGO.out T i
      have hcb1 : 0 ≤ ci ∧ ci ≤ 1000 := by rw [hci]; exact HCB.out i
      have hpb := HPB.out k
      rw [show (L.take k).foldl (pickStep F u T cs.l) (-1, 0, 1) = (b1, b2, b3) from hb.symm] at hpb
      have HPB1 := Lib.hid hpb
      have HXB := Lib.hid hxb
      have HCB1 := Lib.hid hcb1
      -- the site's cell
      obtain ⟨rb, ro, hra, hrcell⟩ : ∃ rb ro, r.a = some ⟨rb, ro, none⟩ ∧ ∀ W, Below wA.heap.size wA W → W.cell? ⟨rb, ro + k, none⟩ = some (.int .i64 (i : Int)) := by
        have hl : k < r.l.length := by rw [HRL.out, up_length]; exact hkL
        have he : r.l[k] = (i : Int) := by rw [hi]; simp only [HRL.out, up, List.getElem_map]
        rcases (HRW.out wr hbr).2.2 with h3 | ⟨b, o, e1, _, _⟩
        · rw [iv_nil h3] at hl; simp at hl
        · refine ⟨b, o, e1, fun W hW => ?_⟩
          rcases (HRW.out W hW).2.2 with h3 | ⟨b', o', e1', _, h5⟩
          · rw [iv_nil h3] at hl; simp at hl
          · rw [e1] at e1'
            simp only [Option.some.injEq, Addr.mk.injEq, and_true] at e1'
            obtain ⟨rfl, rfl⟩ := e1'
            rw [h5 k _ (iv_at hl), he]
      obtain ⟨cb, co, hca, hccell⟩ : ∃ cb co, cs.a = some ⟨cb, co, none⟩ ∧ ∀ W, Below wA.heap.size wA W → W.cell? ⟨cb, co + i, none⟩ = some (.int .i64 ci) := by
        have he : cs.l[i] = ci := by rw [hci, List.getD_eq_getElem?_getD, List.getElem?_eq_getElem hic]; rfl
        rcases (HCW.out wr hbr).2.2 with h3 | ⟨b, o, e1, _, _⟩
        · rw [iv_nil h3] at hic; simp at hic
        · refine ⟨b, o, e1, fun W hW => ?_⟩
          rcases (HCW.out W hW).2.2 with h3 | ⟨b', o', e1', _, h5⟩
          · rw [iv_nil h3] at hic; simp at hic
          · rw [e1] at e1'
            simp only [Option.some.injEq, Addr.mk.injEq, and_true] at e1'
            obtain ⟨rfl, rfl⟩ := e1'
            rw [h5 i _ (iv_at hic), he]
      have CM1 := Lib.hid (fun W (h : Below wA.heap.size wA W) => by have := CM.out i hio W h; rw [← hx] at this; exact this)
      have HW := Lib.hid (fun W (h : Below wr.heap.size wr W) => (show Below wA.heap.size wA W from hbr.trans (h.mono hbr.size)))
      have HS : Hid (∀ U, Below wr.heap.size wr U → ((U.cell? ⟨w.heap.size, 0, none⟩ = some (.slice F.o.a F.o.l.length F.o.c) ∧ U.cell? ⟨w.heap.size, 1, none⟩ = some (.slice F.t.a F.t.R.length F.t.c) ∧ U.cell? ⟨w.heap.size, 2, none⟩ = some (.int .i64 u) ∧ U.cell? ⟨cb, co + i, none⟩ = some (.int .i64 ci)) ∧ Below wr.heap.size wr U)) := Lib.hid fun U hu => ⟨⟨(HBX.out _ (HW.out _ hu)).c0, (HBX.out _ (HW.out _ hu)).c1, (HBX.out _ (HW.out _ hu)).c2, hccell _ (HW.out _ hu)⟩, hu⟩
      have HAL : Hid (∀ U o, Below wr.heap.size wr U → Below wr.heap.size wr (U.alloc o)) := Lib.hid fun U o hu => hu.alloc hu.size o
      have s0 := HS.out wr.drew (Below.refl _ _).drew
      have g0 := hrcell wr hbr
      have HRR := Lib.hid hrr
      have HBB := Lib.hid hbb
      have HBR := Lib.hid hbr
      have hcap : cs.l.length ≤ cs.c := by have := (HCW.out wr hbr).1; rw [iv_length] at this; exact this
      have hici : (i : Int) < (cs.l.length : Int) := by omega
      clear hrr hbb hbr hpb hxb hcb1 hb hi hx hci hccell hrcell
      rw [hra, hca]
      clear hra hca
      go_wp2
      go_region_held3 (fun U => ((U.cell? ⟨w.heap.size, 0, none⟩ = some (.slice F.o.a F.o.l.length F.o.c) ∧ U.cell? ⟨w.heap.size, 1, none⟩ = some (.slice F.t.a F.t.R.length F.t.c) ∧ U.cell? ⟨w.heap.size, 2, none⟩ = some (.int .i64 u) ∧ U.cell? ⟨cb, co + i, none⟩ = some (.int .i64 ci)) ∧ Below wr.heap.size wr U)) (first | exact s0 | exact HS.out _ (by assumption) | exact HS.out _ (HAL.out _ _ (by assumption)) | exact HS.out _ (HAL.out _ _ (by exact And.right (by assumption))) | exact HS.out _ (HAL.out _ _ (Below.refl _ _)).drew | exact HS.out _ (((Below.setCell hB1 (p := ⟨wr.heap.size, 0, none⟩) (Nat.le_refl _) _).setCell (p := ⟨wr.heap.size, 1, none⟩) (Nat.le_refl _) _).setCell (p := ⟨wr.heap.size, 2, none⟩) (Nat.le_refl _) _)) ((go_at_call 60; refine (show Calls _ _ _ _ _ from CM1.out _ (HW.out _ (by first | assumption | exact And.right (by assumption)))).mono ?_; rintro e u1 ⟨rfl, hb1⟩; have hB1 : Below wr.heap.size wr u1 := Below.trans (show Below wr.heap.size wr _ by first | assumption | exact And.right (by assumption)) (hb1.mono (Below.size (show Below wr.heap.size wr _ by first | assumption | exact And.right (by assumption)))); first | (have nx := next_on hb1; have n0 := nx.c0; have n1 := nx.c1; have n2 := nx.c2; have m0 := nx.fr 0; have m1 := nx.fr 1; have m2 := nx.fr 2) | (have nx := next_onD hb1; have n0 := nx.c0; have n1 := nx.c1; have n2 := nx.c2; have m0 := nx.fr 0; have m1 := nx.fr 1; have m2 := nx.fr 2) | skip))
      all_goals
        first
        | refine at_fact (P := fun v => Below wr.heap.size wr v ∧ Box3 v wr.heap.size (.int .i64 (i : Int)) (.int .i64 x) (.int .i64 ci) 87) ⟨((Below.setCell hB1 (p := ⟨wr.heap.size, 0, none⟩) (Nat.le_refl _) _).setCell (p := ⟨wr.heap.size, 1, none⟩) (Nat.le_refl _) _).setCell (p := ⟨wr.heap.size, 2, none⟩) (Nat.le_refl _) _, ((nx.set0 _).set1 _).set2 _⟩ ?_
        | refine at_fact (P := fun v => Below wr.heap.size wr v ∧ Box3 v u1.heap.size (.int .i64 (i : Int)) (.int .i64 x) (.int .i64 ci) 87) ⟨HAL.out _ _ hB1, Box3.made u1 _ _ _ _⟩ ?_
        rintro W5 ⟨hb5, bx5⟩
        have best5 := HBB.out.on hb5
        have n0 := bx5.c0
        have n1 := bx5.c1
        have n2 := bx5.c2
        have p0 := best5.c0
        have p1 := best5.c1
        have p2 := best5.c2
        obtain ⟨v, hv⟩ : ∃ v, v = decide (x * b3 > b2 * ci) := ⟨_, rfl⟩
        have CB := Lib.hid (isBetter_any (i : Int) x ci b1 b2 b3 W5 HXB.out HCB1.out HPB1.out.1 HPB1.out.2)
        rw [← hv] at CB
        have HV := Lib.hid hv
        have HB5 := Lib.hid hb5
        have BX5 := Lib.hid bx5
        clear hv hb5 bx5 best5
        go_wp2_with fail
        refine (show Calls _ _ _ _ _ from CB.out).mono ?_
        rintro e W6 ⟨rfl, hb6⟩
        have HB6 := Lib.hid (HB5.out.trans (hb6.mono HB5.out.size))
        have bx6 := BX5.out.on hb6
        clear hb6 n0 n1 n2 p0 p1 p2
        have n0 := bx6.c0
        have n1 := bx6.c1
        have n2 := bx6.c2
        have best6 := HBB.out.on HB6.out
        have p0 := best6.c0
        have p1 := best6.c1
        have p2 := best6.c2
        have q0 := best6.fr 0
        have q1 := best6.fr 1
        have q2 := best6.fr 2
        have RB := Lib.hid best6
        have RR := Lib.hid (HRR.out.on HB6.out)
        have RW := Lib.hid (HW.out _ HB6.out)
        clear bx6 best6
        cases v with
        | true =>
          have HT1 : Hid (pickG F u T cs.l (L.take (k + 1)) = ((i : Int), x, ci)) := Lib.hid (by rw [HST.out, if_pos (of_decide_eq_true HV.out.symm)])
          have R := Lib.hid (HSETB.out W6 _ _ _ (.int .i64 (i : Int)) (.int .i64 x) (.int .i64 ci) RW.out RR.out RB.out)
          go_wp2
          go_roundw
          case rel => exact ⟨k + 1, by omega, by go_num, R.out.1, R.out.2.1, by rw [HT1.out]; exact R.out.2.2⟩
          case measure => simp [intOf]; omega
        | false =>
          have HT1 : Hid (pickG F u T cs.l (L.take (k + 1)) = (b1, b2, b3)) := Lib.hid (by rw [HST.out, if_neg (of_decide_eq_false HV.out.symm)])
          go_wp2
          go_roundw
          case rel => exact ⟨k + 1, by omega, by go_num, RW.out, RR.out, by rw [HT1.out]; exact RB.out⟩
          case measure => simp [intOf]; omega
    · obtain rfl : k = n := by omega
      have HE : Hid (pickG F u T cs.l L = (b1, b2, b3)) := Lib.hid (by rw [hb, HNN.out, List.take_length])
      have p0 := hbb.c0
      have p1 := hbb.c1
      have p2 := hbb.c2
      have y0 := hrr.c0
      have y1 := hrr.c1
      have y2 := hrr.c2
      have f0 := hrr.fr 0
      have f1 := hrr.fr 1
      have f2 := hrr.fr 2
      have RB := Lib.hid ((((HBW.out wr hbr).setCell (p := ⟨w.heap.size + 1, 0, none⟩) (by simp only; omega) (.int .i64 b1)).setCell (p := ⟨w.heap.size + 1, 1, none⟩) (by simp only; omega) (.int .i64 b2)).setCell (p := ⟨w.heap.size + 1, 2, none⟩) (by simp only; omega) (.int .i64 b3))
      have RR := Lib.hid (((hrr.set0 (.int .i64 b1)).set1 (.int .i64 b2)).set2 (.int .i64 b3))
      clear hb hbb hrr hbr
      go_wp2
      obtain ⟨wF, hF⟩ : ∃ wF, wF = ((wr.setCell ⟨w.heap.size + 1, 0, none⟩ (.int .i64 b1)).setCell ⟨w.heap.size + 1, 1, none⟩ (.int .i64 b2)).setCell ⟨w.heap.size + 1, 2, none⟩ (.int .i64 b3) := ⟨_, rfl⟩
      rw [← hF] at RB RR ⊢
      have r0 := RR.out.c0
      have r1 := RR.out.c1
      have r2 := RR.out.c2
      clear hF p0 p1 p2 y0 y1 y2 f0 f1 f2
      exact bodyPost_ret (v := .agg #[.int .i64 b1, .int .i64 b2, .int .i64 b3]) (by simp [results, Try.results77, go_sem, r0, r1, r2]) rfl ⟨by rw [HE.out], RB.out⟩
end Go.Proofs.Ytbochmpkjacnnaa
