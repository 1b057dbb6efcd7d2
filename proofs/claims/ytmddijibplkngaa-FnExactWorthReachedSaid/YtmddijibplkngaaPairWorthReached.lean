/- Both sides of WorthReached answer alike. Condition: the arguments read as such. -/
import Derived.Test.YtmddijibplkngaaWorthFind
namespace Go.Proofs.Ytmddijibplkngaa
open Go.RowKit Go.Shelf

/-- What WorthReached answers, where r is the least worth that reaches the part, or 1000. -/
structure Reaches (F : Fld) (s : Row) (part : Int) (r : Nat) : Prop where
  le : r ≤ 1000
  no : ∀ k, k < r → reachW F (nats s.l) part k = false
  yes : r < 1000 → reachW F (nats s.l) part r = true
theorem reachW_like {F G : Fld} (h : G.Like F) (T : List Nat) (part : Int) : reachW G T part = reachW F T part := funext fun k => by unfold reachW; rw [gainT_like h]
theorem fine_nats {F : Fld} {s : Row} (h : twoB F s = true) : Fine F s (nats s.l) := by
  obtain ⟨T, hT⟩ := fine_of h
  have e : nats s.l = T := by rw [hT.set, nats_up]
  rw [e]; exact hT

set_option maxRecDepth 16000 in
set_option maxHeartbeats 1500000 in
theorem implWorth_any (F : Fld) (s : Row) (part : Int) (w : World) (hF : F.At w) (hs : s.At w) (hsm : s.l.length ≤ 1048576) (r : Nat) (hr : Reaches F s part r) (b : Bool) (hb0 : b = ((twoB F s && (decide (0 ≤ part) && decide (part ≤ 1000))) && decide (r < 1000))) (v : Int) (hv : v = if b then (r : Int) else 0) :
    Calls Try.prog 32 #[.agg #[.slice F.o.a F.o.l.length F.o.c, .slice F.t.a F.t.R.length F.t.c], .slice s.a s.l.length s.c, .int .i64 part] w (PInt v b w) := by
  obtain ⟨wB, hB⟩ : ∃ wB, ((w.alloc (Obj.cells #[.slice F.o.a F.o.l.length F.o.c, .slice F.t.a F.t.R.length F.t.c] 29)).alloc (.cells #[.slice s.a s.l.length s.c] 22)).alloc (.cells #[.int .i64 part] 3) = wB := ⟨_, rfl⟩
  have hbB : Below w.heap.size w wB := by rw [← hB]; exact (((below_alloc w _).alloc (by rw [size_alloc]; omega) _).alloc (by rw [size_alloc, size_alloc]; omega) _)
  have bx : Box2 wB w.heap.size (.slice F.o.a F.o.l.length F.o.c) (.slice F.t.a F.t.R.length F.t.c) 29 := by
    rw [← hB]; exact ((Box2.made w _ _ _).later _).later _
  have x0 := bx.c0
  have x1 := bx.c1
  have x2 : wB.cell? ⟨w.heap.size + 1, 0, none⟩ = some (.slice s.a s.l.length s.c) := by
    rw [← hB]
    have h1 := cellNew (w.alloc (Obj.cells #[.slice F.o.a F.o.l.length F.o.c, .slice F.t.a F.t.R.length F.t.c] 29)) (.slice s.a s.l.length s.c) 22
    rw [size_alloc] at h1
    exact ((below_alloc _ (.cells #[.int .i64 part] 3)).cell (World.block_lt_of_cell? _ _ h1)).trans h1
  have x3 : wB.cell? ⟨w.heap.size + 1 + 1, 0, none⟩ = some (.int .i64 part) := by
    rw [← hB]
    have h1 := cellNew ((w.alloc (Obj.cells #[.slice F.o.a F.o.l.length F.o.c, .slice F.t.a F.t.R.length F.t.c] 29)).alloc (.cells #[.slice s.a s.l.length s.c] 22)) (.int .i64 part) 3
    rw [size_alloc, size_alloc] at h1; exact h1
  have HC : Hid (∀ W, Below wB.heap.size wB W → W.cell? ⟨w.heap.size, 0, none⟩ = some (.slice F.o.a F.o.l.length F.o.c) ∧ W.cell? ⟨w.heap.size, 1, none⟩ = some (.slice F.t.a F.t.R.length F.t.c) ∧ W.cell? ⟨w.heap.size + 1, 0, none⟩ = some (.slice s.a s.l.length s.c) ∧ W.cell? ⟨w.heap.size + 1 + 1, 0, none⟩ = some (.int .i64 part)) := Lib.hid fun W hW =>
    ⟨(hW.cell (World.block_lt_of_cell? _ _ x0)).trans x0, (hW.cell (World.block_lt_of_cell? _ _ x1)).trans x1, (hW.cell (World.block_lt_of_cell? _ _ x2)).trans x2, (hW.cell (World.block_lt_of_cell? _ _ x3)).trans x3⟩
  obtain ⟨g, hg⟩ : ∃ g, g = twoB F s := ⟨_, rfl⟩
  have hFB := hF.on hbB
  have hsB := hs.on hbB
  have CT := Lib.hid (by have := canServe_any F s wB hFB hsB; rw [← hg] at this; exact (this : Calls Try.prog 65 #[.agg #[.slice F.o.a F.o.l.length F.o.c, .slice F.t.a F.t.R.length F.t.c], .slice s.a s.l.length s.c] wB fun e w' => e = .returned (.bool g) ∧ Below wB.heap.size wB w'))
  have CS := Lib.hid (fun (h : g = true) W (hW : Below wB.heap.size wB W) => searchW_any (reachW F (nats s.l) part) r w.heap.size W hr.le hr.no hr.yes (fun j k => reachW_mono) (fun k hk U hU => by
    have hb := hW.trans (hU.mono hW.size)
    obtain ⟨c0, c1, c2, c3⟩ := HC.out U hb
    exact reach1_any F s (nats s.l) part w.heap.size k U (hFB.on hb) (hsB.on hb) (fine_nats (by rw [← hg]; exact h)) (by unfold nats; rw [List.length_map]; exact hsm) hk c0 c1 c2 c3))
  have HB0 : Hid (b = ((g && (decide (0 ≤ part) && decide (part ≤ 1000))) && decide (r < 1000))) := Lib.hid (by rw [hb0, hg])
  have HV := Lib.hid hv
  have HNO : Hid (b = false → v = 0) := Lib.hid fun h => by rw [hv, h]; rfl
  have hri : (r : Int) ≤ 1000 := by have := hr.le; omega
  have HBB := Lib.hid hbB
  have HB := Lib.hid hB
  rw [← hB] at x0 x1 x2 x3
  clear hF hs hsm hr hb0 hv hB hbB bx hFB hsB hg
  unfold PInt
  go_enter Try.func32, Try.ntmps32
  go_wp2_with fail
  rw [HB.out]
  clear x0 x1 x2 x3
  refine (show Calls _ _ _ _ _ from CT.out).mono ?_
  rintro e W1 ⟨rfl, hb1⟩
  have hw1 := HBB.out.trans (hb1.mono HBB.out.size)
  cases g with
  | false =>
    obtain rfl : b = false := HB0.out
    obtain rfl : v = 0 := HNO.out rfl
    go_wp2
    go_ret2
    exact ⟨rfl, hw1⟩
  | true =>
    have y3 := (HC.out W1 hb1).2.2.2
    by_cases h0 : 0 ≤ part
    · have h0' : ¬ part < 0 := by omega
      by_cases h1 : part ≤ 1000
      · have h1' : ¬ part > 1000 := by omega
        have HB2 : Hid (b = decide (r < 1000)) := Lib.hid (by rw [HB0.out, decide_eq_true h0, decide_eq_true h1]; simp)
        have CS1 := Lib.hid (CS.out (by first | rfl | trivial) W1 hb1)
        clear hb1
        go_wp2_with fail
        clear y3
        refine (show Calls _ _ _ _ _ from CS1.out).mono ?_
        rintro e W2 ⟨rfl, hb2⟩
        have hw2 := hw1.trans (hb2.mono hw1.size)
        clear hb2 hw1
        by_cases hr1 : r < 1000
        · obtain rfl : b = true := by rw [HB2.out]; exact decide_eq_true hr1
          have HV2 : Hid (v = (r : Int)) := Lib.hid HV.out
          have hr1' : ¬ (r : Int) > 999 := by omega
          go_wp2
          go_ret2
          exact ⟨by rw [HV2.out]; rfl, hw2⟩
        · obtain rfl : b = false := by rw [HB2.out]; exact decide_eq_false hr1
          obtain rfl : v = 0 := HNO.out rfl
          have hr1' : (r : Int) > 999 := by omega
          go_wp2
          go_ret2
          exact ⟨rfl, hw2⟩
      · have h1' : part > 1000 := by omega
        obtain rfl : b = false := by rw [HB0.out, decide_eq_false h1]; simp
        obtain rfl : v = 0 := HNO.out rfl
        go_wp2
        go_ret2
        exact ⟨rfl, hw1⟩
    · have h0' : part < 0 := by omega
      obtain rfl : b = false := by rw [HB0.out, decide_eq_false h0]; simp
      obtain rfl : v = 0 := HNO.out rfl
      go_wp2
      go_ret2
      exact ⟨rfl, hw1⟩

set_option maxRecDepth 16000 in
set_option maxHeartbeats 1500000 in
theorem specWorth_any (F : Fld) (s : Row) (part : Int) (w : World) (hF : F.At w) (hs : s.At w) (hsm : s.l.length ≤ 1048576) (r : Nat) (hr : Reaches F s part r) (b : Bool) (hb0 : b = ((twoB F s && (decide (0 ≤ part) && decide (part ≤ 1000))) && decide (r < 1000))) (v : Int) (hv : v = if b then (r : Int) else 0) :
    Calls Try.prog 31 #[.agg #[.slice F.o.a F.o.l.length F.o.c, .slice F.t.a F.t.R.length F.t.c], .slice s.a s.l.length s.c, .int .i64 part] w (PInt v b w) := by
  obtain ⟨wA, hA⟩ : ∃ u, u = w.alloc (Obj.cells #[.slice F.o.a F.o.l.length F.o.c, .slice F.t.a F.t.R.length F.t.c] 29) := ⟨_, rfl⟩
  have hbA : Below w.heap.size w wA := by rw [hA]; exact below_alloc _ _
  have bx : Box2 wA w.heap.size (.slice F.o.a F.o.l.length F.o.c) (.slice F.t.a F.t.R.length F.t.c) 29 := by rw [hA]; exact Box2.made w _ _ _
  have x0 := bx.c0
  have x1 := bx.c1
  rw [hA] at x0 x1
  obtain ⟨g, hg⟩ : ∃ g, g = twoB F s := ⟨_, rfl⟩
  obtain ⟨q, hq⟩ : ∃ q, q = (decide (0 ≤ part) && decide (part ≤ 1000)) := ⟨_, rfl⟩
  have hFA := hF.on hbA
  have hsA := hs.on hbA
  have CT := Lib.hid (by have := l2Two_any F s wA hFA hsA; rw [← hg] at this; exact (this : Calls Try.prog 64 #[.agg #[.slice F.o.a F.o.l.length F.o.c, .slice F.t.a F.t.R.length F.t.c], .slice s.a s.l.length s.c] wA fun e w' => e = .returned (.bool g) ∧ Below wA.heap.size wA w'))
  have CI := Lib.hid (fun W => by have := l1In_any part 0 1000 W; rw [← hq] at this; exact this : ∀ W : World, Calls Try.prog 45 #[.int .i64 part, .int .i64 0, .int .i64 1000] W fun e w' => e = .returned (.bool q) ∧ w' = W)
  have CG := Lib.hid (fun (h : g = true) (k : Nat) (hk : k < 1000) W (hW : Below wA.heap.size wA W) => (by
    have hf := fine_nats (F := F) (s := s) (by rw [← hg]; exact h)
    exact l8Gain_any F (k : Int) s (nats s.l) W (hFA.on hW) (hsA.on hW) ⟨worthB_iff.2 ⟨hf.good, by omega, by omega⟩, hf.set, hf.lt, by unfold nats; rw [List.length_map]; exact hsm⟩ : Calls Try.prog 39 #[.agg #[.slice F.o.a F.o.l.length F.o.c, .slice F.t.a F.t.R.length F.t.c], .int .i64 (k : Int), .slice s.a s.l.length s.c] W fun e w' => e = .returned (.int .i64 (gainT F (k : Int) (nats s.l))) ∧ Below W.heap.size W w'))
  have HB0 : Hid (b = ((g && q) && decide (r < 1000))) := Lib.hid (by rw [hb0, hg, hq])
  have HV := Lib.hid hv
  have HNO : Hid (b = false → v = 0) := Lib.hid fun h => by rw [hv, h]; rfl
  have HR := Lib.hid hr
  have HBX := Lib.hid bx
  have HBA := Lib.hid hbA
  have HA := Lib.hid hA.symm
  clear hF hs hsm hr hb0 hv hA hbA bx hFA hsA hg hq
  unfold PInt
  go_enter Try.func31, Try.ntmps31
  go_wp2_with fail
  rw [HA.out]
  clear x0 x1
  refine (show Calls _ _ _ _ _ from CT.out).mono ?_
  rintro e W1 ⟨rfl, hb1⟩
  have hw1 := HBA.out.trans (hb1.mono HBA.out.size)
  cases g with
  | false =>
    obtain rfl : b = false := HB0.out
    obtain rfl : v = 0 := HNO.out rfl
    go_wp2
    go_ret2
    exact ⟨rfl, hw1⟩
  | true =>
    go_wp2_with fail
    refine (show Calls _ _ _ _ _ from CI.out W1).mono ?_
    rintro e W2 ⟨rfl, rfl⟩
    cases q with
    | false =>
      obtain rfl : b = false := HB0.out
      obtain rfl : v = 0 := HNO.out rfl
      go_wp2
      go_ret2
      exact ⟨rfl, hw1⟩
    | true =>
      have HB2 : Hid (b = decide (r < 1000)) := Lib.hid (by rw [HB0.out]; simp)
      have HB1 := Lib.hid hb1
      clear hb1
      go_wp2
      go_loopw [8] (fun kv wr => ∃ k : Nat, k ≤ r ∧ kv = .int .i64 k ∧ Below wA.heap.size wA wr) (fun kv _ => 1001 - (intOf kv).toNat)
      case atStart => exact ⟨0, Nat.zero_le _, rfl, HB1.out⟩
      case round =>
        obtain ⟨k, hk, rfl, hnx⟩ := hrel
        have hr1000 := HR.out.le
        have HNX := Lib.hid hnx
        have hwr := Lib.hid (HBA.out.trans (hnx.mono HBA.out.size))
        by_cases hlt : k < 1000
        · have hlti : (k : Int) ≤ 999 := by omega
          have y0 := (HBX.out.on hnx).c0
          have y1 := (HBX.out.on hnx).c1
          obtain ⟨x, hx⟩ : ∃ x, x = gainT F (k : Int) (nats s.l) := ⟨_, rfl⟩
          have CG1 := Lib.hid (by have := CG.out (by first | rfl | trivial) k hlt wr hnx; rw [← hx] at this; exact this)
          have HX : Hid (reachW F (nats s.l) part k = decide (x ≥ part)) := Lib.hid (by rw [hx]; rfl)
          clear hx hnx
          go_wp2_with fail
          clear y0 y1
          refine (show Calls _ _ _ _ _ from CG1.out).mono ?_
          rintro e W3 ⟨rfl, hb3⟩
          have R2 := Lib.hid (HNX.out.trans (hb3.mono HNX.out.size))
          have R3 := Lib.hid (hwr.out.trans (hb3.mono hwr.out.size))
          clear hb3
          by_cases hge : x ≥ part
          · have hkr : k = r := by
              by_cases e : k < r
              · exfalso
                have h1 := HR.out.no k e
                rw [HX.out, decide_eq_true hge] at h1; cases h1
              · omega
            obtain rfl : b = true := by rw [HB2.out]; exact decide_eq_true (by omega)
            have HV2 : Hid (v = (k : Int)) := Lib.hid (by rw [HV.out, if_pos (by first | rfl | trivial), hkr])
            clear hkr
            go_wp2
            go_ret2
            exact ⟨by rw [HV2.out]; rfl, R3.out⟩
          · have hkr : k + 1 ≤ r := by
              by_cases e : k < r
              · omega
              · exfalso
                obtain rfl : k = r := by omega
                have h1 := HR.out.yes hlt
                rw [HX.out, decide_eq_false hge] at h1; cases h1
            go_wp2
            go_roundw
            case rel => exact ⟨k + 1, hkr, by go_num, R2.out⟩
            case measure => simp [intOf]; omega
        · have hgt : ¬ (k : Int) ≤ 999 := by omega
          obtain rfl : b = false := by rw [HB2.out]; exact decide_eq_false (by omega)
          obtain rfl : v = 0 := HNO.out rfl
          clear hnx
          go_wp2
          go_ret2
          exact ⟨rfl, hwr.out⟩

theorem worthReached_pair (F : Fld) (s : Row) (part : Int) {Q : Prop} (_ : Q) (_ : F.Small) (hs : s.l.length ≤ 1048576) : ∃ (v : Int) (b : Bool),
    (∀ (G : Fld) (t : Row) (W : World), G.At W → t.At W → G.Like F → t.l = s.l → Calls Try.prog 31 #[G.val, .slice t.a t.l.length t.c, .int .i64 part] W (PInt v b W)) ∧
    (∀ (G : Fld) (t : Row) (W : World), G.At W → t.At W → G.Like F → t.l = s.l → Calls Try.prog 32 #[G.val, .slice t.a t.l.length t.c, .int .i64 part] W (PInt v b W)) := by
  obtain ⟨r, h1, h2, h3⟩ := least_ex (reachW F (nats s.l) part) 1000
  have hr : ∀ (G : Fld) (t : Row), G.Like F → t.l = s.l → Reaches G t part r := fun G t hl ht => ⟨h1, by rw [ht, reachW_like hl]; exact h2, by rw [ht, reachW_like hl]; exact h3⟩
  exact ⟨if ((twoB F s && (decide (0 ≤ part) && decide (part ≤ 1000))) && decide (r < 1000)) then (r : Int) else 0, ((twoB F s && (decide (0 ≤ part) && decide (part ≤ 1000))) && decide (r < 1000)),
    fun G t W hG ht hl hl2 => specWorth_any G t part W hG ht (by rw [hl2]; exact hs) r (hr G t hl hl2) _ (by rw [twoB_like hl hl2]) _ rfl,
    fun G t W hG ht hl hl2 => implWorth_any G t part W hG ht (by rw [hl2]; exact hs) r (hr G t hl hl2) _ (by rw [twoB_like hl hl2]) _ rfl⟩
end Go.Proofs.Ytmddijibplkngaa
