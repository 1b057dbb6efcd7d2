/- Both sides of UnbeatenSites answer alike. Condition: the Field reads as such. -/
import Derived.Test.YtfiijfgclfoeoaaPairVotesOf
import Derived.Test.YtfiijfgclfoeoaaDelete
import Derived.Test.YtfiijfgclfoeoaaSizeSeq
namespace Go.Proofs.Ytfiijfgclfoeoaa
open Go.RowKit Go.Shelf

/-- One site beats another one. -/
def beatB (d : List (List Int)) (o i : Nat) : Bool := decide (votes d i o < votes d o i)
/-- The sites that none of the first k sites beats. -/
def unb (d : List (List Int)) (n k : Nat) : List Int := (up (List.range n)).filter fun x => (List.range k).all fun o => !beatB d o x.toNat
theorem unb_zero (d : List (List Int)) (n : Nat) : unb d n 0 = up (List.range n) := by unfold unb; simp
theorem unb_step (d : List (List Int)) (n k : Nat) : unb d n (k + 1) = keepL (fun x => beatB d k x.toNat) (unb d n k) := by
  unfold unb keepL
  rw [List.filter_filter]
  congr 1
  funext x
  rw [List.range_succ, List.all_append]
  simp [Bool.and_comm]
theorem unb_len (d : List (List Int)) (n k : Nat) : (unb d n k).length ≤ n := by
  have := List.length_filter_le (fun x : Int => (List.range k).all fun o => !beatB d o x.toNat) (up (List.range n))
  rw [up_length, List.length_range] at this
  exact this
theorem unb_mem {d : List (List Int)} {n k : Nat} {x : Int} (h : x ∈ unb d n k) : ∃ i : Nat, x = (i : Int) ∧ i < n := by
  have h1 := (List.mem_filter.1 h).1
  obtain ⟨i, hi, rfl⟩ := List.mem_map.1 h1
  exact ⟨i, rfl, List.mem_range.1 hi⟩
/-- The unbeaten ones among the first a sites. -/
def unbTo (d : List (List Int)) (n a : Nat) : List Int := (up (List.range a)).filter fun x => (List.range n).all fun o => !beatB d o x.toNat
theorem unbTo_step (d : List (List Int)) (n a : Nat) : unbTo d n (a + 1) = unbTo d n a ++ (if (List.range n).all (fun o => !beatB d o a) then [(a : Int)] else []) := by
  unfold unbTo
  rw [up_range_step, List.filter_append]
  congr 1
  by_cases h : (List.range n).all (fun o => !beatB d o a) = true
  · rw [if_pos h, List.filter_cons_of_pos (by simpa using h)]; rfl
  · rw [if_neg h, List.filter_cons_of_neg (by simpa using h)]; rfl
theorem unbTo_len (d : List (List Int)) (n a : Nat) : (unbTo d n a).length ≤ a := by
  have := List.length_filter_le (fun x : Int => (List.range n).all fun o => !beatB d o x.toNat) (up (List.range a))
  rw [up_length, List.length_range] at this
  exact this

def UnbIs (F : Fld) (l : List Int) (b : Bool) : Prop := (F.good = false ∧ l = [] ∧ b = false) ∨ (F.good = true ∧ l = unb F.t.con F.o.l.length F.o.l.length ∧ b = true)
theorem unbIs_like {F G : Fld} {l : List Int} {b : Bool} (h : UnbIs F l b) (hl : G.Like F) : UnbIs G l b := by
  unfold UnbIs at *; rw [hl.good, hl.2, hl.1]; exact h
theorem unbIs_some (F : Fld) : ∃ (l : List Int) (b : Bool), UnbIs F l b ∧ l.length ≤ 1048576 := by
  cases h : F.good with
  | false => exact ⟨[], false, .inl ⟨h, rfl, rfl⟩, by simp⟩
  | true => exact ⟨_, true, .inr ⟨h, rfl, rfl⟩, by have := unb_len F.t.con F.o.l.length F.o.l.length; have := good_sizes h; omega⟩

set_option maxRecDepth 8000 in
set_option maxHeartbeats 1000000 in
theorem unb1_any (F : Fld) (o i gf go : Nat) (w : World) (hF : F.At w) (hg : F.good = true) (ho : o < F.o.l.length) (hi : i < F.o.l.length) (bx : Box2 w gf (.slice F.o.a F.o.l.length F.o.c) (.slice F.t.a F.t.R.length F.t.c) 29) (hgo : w.cell? ⟨go, 0, none⟩ = some (.int .i64 (o : Int))) :
    Calls Try.prog 38 #[.int .i64 (i : Int), .pointer (some ⟨gf, 0, none⟩), .pointer (some ⟨go, 0, none⟩)] w fun e w' => e = .returned (.bool (beatB F.t.con o i)) ∧ Below w.heap.size w w' := by
  obtain ⟨p, hp⟩ : ∃ p, p = ((votes F.t.con o i : Nat) : Int) := ⟨_, rfl⟩
  obtain ⟨r, hr⟩ : ∃ p, p = ((votes F.t.con i o : Nat) : Int) := ⟨_, rfl⟩
  have HB : Hid (beatB F.t.con o i = decide (p > r)) := Lib.hid (by
    unfold beatB
    rw [hp, hr, Bool.eq_iff_iff, decide_eq_true_eq, decide_eq_true_eq]
    omega)
  have C1 := Lib.hid (fun u (hu : Below w.heap.size w u) => by have := votesFor_any F o i u (hF.on hu) hg ho hi; rw [← hp] at this; exact this)
  have C2 := Lib.hid (fun u (hu : Below w.heap.size w u) => by have := votesFor_any F i o u (hF.on hu) hg hi ho; rw [← hr] at this; exact this)
  have hgl := World.block_lt_of_cell? _ _ hgo
  have HS : Hid (∀ u, Below w.heap.size w u → ((u.cell? ⟨gf, 0, none⟩ = some (.slice F.o.a F.o.l.length F.o.c) ∧ u.cell? ⟨gf, 1, none⟩ = some (.slice F.t.a F.t.R.length F.t.c) ∧ u.cell? ⟨go, 0, none⟩ = some (.int .i64 (o : Int))) ∧ Below w.heap.size w u)) := Lib.hid fun u hu => ⟨⟨(bx.on hu).c0, (bx.on hu).c1, (hu.cell (p := ⟨go, 0, none⟩) hgl).trans hgo⟩, hu⟩
  have s0 := HS.out w.drew (Below.refl _ _).drew
  rw [HB.out]
  clear hF hg ho hi bx hgo hp hr hgl
  go_enter Try.func38, Try.ntmps38
  go_wp2
  go_region_held3 (fun u => ((u.cell? ⟨gf, 0, none⟩ = some (.slice F.o.a F.o.l.length F.o.c) ∧ u.cell? ⟨gf, 1, none⟩ = some (.slice F.t.a F.t.R.length F.t.c) ∧ u.cell? ⟨go, 0, none⟩ = some (.int .i64 (o : Int))) ∧ Below w.heap.size w u)) (first | exact s0 | exact keep_reg HS.out (by first | assumption | exact And.right (by assumption)) hb1) (first | (go_at_call 34; with_reducible change Calls _ _ #[_, .int .i64 (o : Int), .int .i64 (i : Int)] _ _; refine (show Calls _ _ _ _ _ from C1.out _ (by first | assumption | exact And.right (by assumption))).mono ?_; rintro e u1 ⟨rfl, hb1⟩) | (go_at_call 34; with_reducible change Calls _ _ #[_, .int .i64 (i : Int), .int .i64 (o : Int)] _ _; refine (show Calls _ _ _ _ _ from C2.out _ (by first | assumption | exact And.right (by assumption))).mono ?_; rintro e u1 ⟨rfl, hb1⟩))
  refine at_exit (W := w) (by first | assumption | exact And.right (by assumption)) ?_
  intro W8 hb8
  go_wp2
  go_ret
  exact ⟨rfl, hb8⟩

set_option maxRecDepth 16000 in
set_option maxHeartbeats 1500000 in
theorem implUnb_any (F : Fld) (w : World) (hF : F.At w) (l : List Int) (b : Bool) (hv : UnbIs F l b) :
    Calls Try.prog 14 #[.agg #[.slice F.o.a F.o.l.length F.o.c, .slice F.t.a F.t.R.length F.t.c]] w (PInts l b w) := by
  obtain ⟨wA, hA, hbA, bx, hFA, hszA⟩ := laid_fld F w 29 hF
  have HF := Lib.hid hF
  have HBX : Hid (Box2 wA w.heap.size (.slice F.o.a F.o.l.length F.o.c) (.slice F.t.a F.t.R.length F.t.c) 29) := Lib.hid bx
  have HA : Hid (wA = w.alloc (Obj.cells #[.slice F.o.a F.o.l.length F.o.c, .slice F.t.a F.t.R.length F.t.c] 29)) := Lib.hid hA
  have CT := implIsField_any F wA hFA
  have HBA := Lib.hid hbA
  have HSZA := Lib.hid hszA
  have x0 := HBX.out.c0
  have x1 := HBX.out.c1
  rw [HA.out] at x0 x1
  rcases hv with ⟨hg, rfl, rfl⟩ | ⟨hg, rfl, rfl⟩
  · rw [hg] at CT
    have CT1 := Lib.hid CT
    clear hF hA hbA bx hFA hszA CT hg
    go_enter Try.func14, Try.ntmps14
    go_wp2_with fail
    rw [← HA.out]
    refine (show Calls _ _ #[.agg #[.slice F.o.a F.o.l.length F.o.c, .slice F.t.a F.t.R.length F.t.c]] _ _ from CT1.out).mono ?_
    rintro e W1 ⟨rfl, hb1⟩
    have HBW1 := Lib.hid (HBA.out.trans (hb1.mono HBA.out.size))
    have HO1 := Lib.hid (empty_own W1)
    have hb0 := below_alloc W1 (.cells #[] 3)
    have hsz1 := HBW1.out.size
    clear hb1 x0 x1
    go_wp2
    go_ret2
    exact ints_end rfl HO1.out hsz1 (HBW1.out.trans (hb0.mono hsz1))
  · rw [hg] at CT
    have CT1 := Lib.hid CT
    have HG := Lib.hid hg
    have hsz := good_sizes hg
    obtain ⟨n, hn⟩ : ∃ n, n = F.o.l.length := ⟨_, rfl⟩
    have HN := Lib.hid hn
    have hn7 : n ≤ 7 := by omega
    have hn1 : 1 ≤ n := by omega
    have hni : (n : Int) ≤ 7 := by omega
    have CN := Lib.hid (fun u => numbers_any n u hn7)
    have HA1 : Hid (wA = w.alloc (Obj.cells #[.slice F.o.a n F.o.c, .slice F.t.a F.t.R.length F.t.c] 29)) := Lib.hid (by rw [hn]; exact HA.out)
    have x0' : (w.alloc (Obj.cells #[.slice F.o.a n F.o.c, .slice F.t.a F.t.R.length F.t.c] 29)).cell? ⟨w.heap.size, 0, none⟩ = some (.slice F.o.a n F.o.c) := by rw [← HA1.out, hn]; exact HBX.out.c0
    have x1' : (w.alloc (Obj.cells #[.slice F.o.a n F.o.c, .slice F.t.a F.t.R.length F.t.c] 29)).cell? ⟨w.heap.size, 1, none⟩ = some (.slice F.t.a F.t.R.length F.t.c) := by rw [← HA1.out]; exact HBX.out.c1
    have CT2 : Hid (Calls Try.prog 32 #[.agg #[.slice F.o.a n F.o.c, .slice F.t.a F.t.R.length F.t.c]] wA fun e w' => e = .returned (.bool true) ∧ Below wA.heap.size wA w') := Lib.hid (by rw [hn]; exact CT1.out)
    rw [← hn]
    clear hF hA hbA bx hFA hszA CT hg hsz hn x0 x1
    go_enter Try.func14, Try.ntmps14
    go_wp2_with fail
    rw [← HA1.out]
    refine (show Calls _ _ _ _ _ from CT2.out).mono ?_
    rintro e W1 ⟨rfl, hb1⟩
    have HB1 := Lib.hid hb1
    have hsz1 := hb1.size
    have HBW1 := Lib.hid (HBA.out.trans (hb1.mono HBA.out.size))
    have y0 : W1.cell? ⟨w.heap.size, 0, none⟩ = some (.slice F.o.a n F.o.c) := by rw [HN.out]; exact (HBX.out.on hb1).c0
    have y1 := (HBX.out.on hb1).c1
    have CN1 := Lib.hid (CN.out W1)
    clear hb1 x0' x1'
    go_wp2_with fail
    refine (show Calls _ _ _ _ _ from CN1.out).mono ?_
    rintro e W2 ⟨t, rfl, htl, -, hti, hb2⟩
    have HTL := Lib.hid htl
    have HTI := Lib.hid hti
    have htn : t.l.length = n := by rw [htl, up_range_len]
    have HTN := Lib.hid htn
    have hsz2 := hb2.size
    have HB2 := Lib.hid (HB1.out.trans (hb2.mono hsz1))
    have CK := Lib.hid (by have := cloneRow_any t W2 hti.at (by omega) (by omega); rw [htn] at this; exact this)
    rw [htn]
    clear htl hti hb2 htn y0 y1
    go_wp2_with fail
    refine (show Calls _ _ _ _ _ from CK.out).mono ?_
    rintro e W3 ⟨u0, rfl, hul, huo, hui, hb3⟩
    have hsz3 := hb3.size
    have HB3 := Lib.hid (HB2.out.trans (hb3.mono HB2.out.size))
    have HBW3 := Lib.hid (HBA.out.trans (HB3.out.mono HBA.out.size))
    have HUL : Hid (u0.l = unb F.t.con n 0) := Lib.hid (by rw [hul, HTL.out, unb_zero])
    have HUO := Lib.hid huo
    have HUI := Lib.hid hui
    obtain ⟨tb, to_, hta, htlo, hthi, htc⟩ : ∃ b o, t.a = some ⟨b, o, none⟩ ∧ b < W2.heap.size ∧ b < W3.heap.size ∧ ∀ j, j < n → W3.cell? ⟨b, o + j, none⟩ = some (.int .i64 (j : Int)) := by
      rcases HTI.out.2.2 with h3 | ⟨b, o, e, h4, h5, h6, h7⟩
      · have := congrArg List.length (iv_nil h3); rw [HTN.out, List.length_nil] at this; omega
      · refine ⟨b, o, e, h5, Nat.lt_of_lt_of_le h6 hsz3, fun j hj => (hb3.cell (p := ⟨b, o + j, none⟩) h6).trans ?_⟩
        rw [h7 j _ (iv_at (by rw [HTN.out]; exact hj))]
        simp [HTL.out, up]
    have HTC := Lib.hid (fun wr (ht : Touch W2.heap.size W3.heap.size W3 wr) j (hj : j < n) => (ht.cell (p := ⟨tb, to_ + j, none⟩) hthi (by simp only; omega)).trans (htc j hj))
    have hszA := HSZA.out
    rw [hta]
    clear hul huo hui hb3 hta htc
    go_wp2
    go_loopw [5, 7, 8, 21] (fun sv _ _ iv' wr => ∃ (k : Nat) (u : Row), k ≤ n ∧ iv' = .int .i64 k ∧ sv = .slice u.a u.l.length u.c ∧ Hid (u.l = unb F.t.con n k) ∧ u.Own 3 wr ∧ u.In W2.heap.size W3.heap.size wr ∧ Touch W2.heap.size W3.heap.size W3 wr) (fun _ _ _ iv' _ => n - (intOf iv').toNat)
    case atStart => exact ⟨0, u0, Nat.zero_le _, rfl, rfl, HUL, HUO.out, HUI.out, Touch.refl _ _ _⟩
    case round =>
      obtain ⟨k, u, hk, rfl, rfl, HU, huo, hui, htw⟩ := hrel
      have HUO2 := Lib.hid huo
      have HUI2 := Lib.hid hui
      have HTW := Lib.hid htw
      have hszr := htw.size
      by_cases hlt : k < n
      · have hlti : (k : Int) < (n : Int) := by omega
        have hck := HTC.out wr htw k hlt
        obtain ⟨wS, hS⟩ : ∃ z, z = wr.alloc (.cells #[.int .i64 (k : Int)] 3) := ⟨_, rfl⟩
        have hbS : Below wr.heap.size wr wS := by rw [hS]; exact below_alloc _ _
        have hgo : Boxed wS wr.heap.size 3 (.int .i64 (k : Int)) := by rw [hS]; exact Boxed.new _ _ _
        have hszS := hbS.size
        have hbox : Box2 wS w.heap.size (.slice F.o.a F.o.l.length F.o.c) (.slice F.t.a F.t.R.length F.t.c) 29 := ((HBX.out.on HB3.out).touch htw (.inl (by omega))).on hbS
        have CD := Lib.hid (deleteFunc_any u W2.heap.size W3.heap.size w.heap.size wr.heap.size (fun x => beatB F.t.con k x.toNat) wS (huo.on hbS) (hui.on hbS) (by omega) (by have := unb_len F.t.con n k; rw [HU.out]; omega) (fun x hx U hU => by
          rw [HU.out] at hx
          obtain ⟨i, rfl, hin⟩ := unb_mem hx
          have hFU : F.At U := HF.out.on ((((HBW3.out.trans (htw.below (by omega) (by omega))).trans (hbS.mono (by omega))).trans (hU.below (by omega) (by omega))))
          have := unb1_any F k i w.heap.size wr.heap.size U hFU HG.out (by rw [← HN.out]; exact hlt) (by rw [← HN.out]; exact hin) (hbox.touch hU (.inl (by omega))) ((hU.cell (p := ⟨wr.heap.size, 0, none⟩) hgo.lt (by simp only; omega)).trans hgo.cell)
          rw [Int.toNat_natCast]; exact this))
        have HS := Lib.hid hS
        have HTS := Lib.hid (htw.trans (Touch.of_below (lo := W2.heap.size) (hi := W3.heap.size) hbS))
        clear huo hui htw hS hbS hgo hbox
        go_wp2_with fail
        rw [← HS.out]
        refine (show Calls _ _ _ _ _ from CD.out).mono ?_
        rintro e W5 ⟨v, rfl, hvl, hvo, hvi, hvt⟩
        have HVL : Hid (v.l = unb F.t.con n (k + 1)) := Lib.hid (by rw [hvl, HU.out, unb_step])
        have HVO := Lib.hid hvo
        have HVI := Lib.hid hvi
        have HVT := Lib.hid (HTS.out.trans hvt)
        clear hvl hvo hvi hvt hck
        go_wp2
        go_roundw
        case rel => exact ⟨k + 1, v, by omega, by go_num, rfl, HVL, HVO.out, HVI.out, HVT.out⟩
        case measure => simp [intOf]; omega
      · obtain rfl : k = n := by omega
        have HR : Hid (PInts (unb F.t.con k k) true w (.returned (.tuple #[.slice u.a u.l.length u.c, .bool true])) wr) := Lib.hid ⟨u, rfl, HU.out, huo, hui.wide (by omega) (by omega), HBW3.out.trans (htw.below (by omega) (by omega))⟩
        clear huo hui htw
        go_wp2
        go_ret2
        exact HR.out

def allTo (d : List (List Int)) (a k : Nat) : Bool := (List.range k).all fun o => !beatB d o a
theorem allTo_step (d : List (List Int)) (a k : Nat) : allTo d a (k + 1) = (allTo d a k && !beatB d k a) := by unfold allTo; rw [List.range_succ, List.all_append]; simp

set_option maxRecDepth 16000 in
set_option maxHeartbeats 2000000 in
theorem specUnb_any (F : Fld) (w : World) (hF : F.At w) (l : List Int) (b : Bool) (hv : UnbIs F l b) :
    Calls Try.prog 13 #[.agg #[.slice F.o.a F.o.l.length F.o.c, .slice F.t.a F.t.R.length F.t.c]] w (PInts l b w) := by
  obtain ⟨i0, hi, hz0, hz1, hz2⟩ := info_parts infoInt
  obtain ⟨wA, hA, hbA, bx, hFA, hszA⟩ := laid_fld F w 29 hF
  obtain ⟨wE, hE⟩ : ∃ u, u = wA.alloc (.cells #[] 3) := ⟨_, rfl⟩
  have hbE : Below wA.heap.size wA wE := by rw [hE]; exact below_alloc _ _
  have ho0 := empty_own wA
  rw [← hE, hszA] at ho0
  have HF0 := Lib.hid hF
  have HBX : Hid (Box2 wE w.heap.size (.slice F.o.a F.o.l.length F.o.c) (.slice F.t.a F.t.R.length F.t.c) 29) := Lib.hid (bx.on hbE)
  have HE : Hid (wE = (w.alloc (Obj.cells #[.slice F.o.a F.o.l.length F.o.c, .slice F.t.a F.t.R.length F.t.c] 29)).alloc (.cells #[] 3)) := Lib.hid (by rw [hE, hA]; rfl)
  have CT := l2Good_any F wE (hFA.on hbE)
  have hbw := hbA.trans (hbE.mono hbA.size)
  have HBE := Lib.hid hbw
  have HO0 := Lib.hid ho0
  have hszE : wE.heap.size = w.heap.size + 1 + 1 := by rw [hE, size_alloc, hszA]
  have HSZE := Lib.hid hszE
  have x0 := HBX.out.c0
  have x1 := HBX.out.c1
  rw [HE.out] at x0 x1
  rcases hv with ⟨hg, rfl, rfl⟩ | ⟨hg, rfl, rfl⟩
  · rw [hg] at CT
    have CT1 := Lib.hid CT
    clear hF hA hbA bx hFA hszA CT hg hE hbE ho0 hbw hszE
    go_enter Try.func13, Try.ntmps13
    go_wp2_with fail
    rw [← HE.out]
    refine (show Calls _ _ #[.agg #[.slice F.o.a F.o.l.length F.o.c, .slice F.t.a F.t.R.length F.t.c]] _ _ from CT1.out).mono ?_
    rintro e W1 ⟨rfl, hb1⟩
    have HO1 := Lib.hid (owns_below HO0.out hb1)
    have HBW1 := Lib.hid (HBE.out.trans (hb1.mono HBE.out.size))
    clear hb1 x0 x1
    go_wp2
    go_ret2
    exact ints_end rfl HO1.out (by omega) HBW1.out
  · rw [hg] at CT
    have HG := Lib.hid hg
    have hsz := good_sizes hg
    obtain ⟨n, hn⟩ : ∃ n, n = F.o.l.length := ⟨_, rfl⟩
    have HN := Lib.hid hn
    have hni : (n : Int) ≤ 7 := by omega
    have CT2 : Hid (Calls Try.prog 28 #[.agg #[.slice F.o.a n F.o.c, .slice F.t.a F.t.R.length F.t.c]] wE fun e w' => e = .returned (.bool true) ∧ Below wE.heap.size wE w') := Lib.hid (by rw [hn]; exact CT)
    have HE1 : Hid (wE = (w.alloc (Obj.cells #[.slice F.o.a n F.o.c, .slice F.t.a F.t.R.length F.t.c] 29)).alloc (.cells #[] 3)) := Lib.hid (by rw [hn]; exact HE.out)
    have x0' : ((w.alloc (Obj.cells #[.slice F.o.a n F.o.c, .slice F.t.a F.t.R.length F.t.c] 29)).alloc (.cells #[] 3)).cell? ⟨w.heap.size, 0, none⟩ = some (.slice F.o.a n F.o.c) := by rw [← HE1.out, hn]; exact HBX.out.c0
    have x1' : ((w.alloc (Obj.cells #[.slice F.o.a n F.o.c, .slice F.t.a F.t.R.length F.t.c] 29)).alloc (.cells #[] 3)).cell? ⟨w.heap.size, 1, none⟩ = some (.slice F.t.a F.t.R.length F.t.c) := by rw [← HE1.out]; exact HBX.out.c1
    rw [← hn]
    clear hF hA hbA bx hFA hszA CT hg hE hbE ho0 hbw hszE hsz hn x0 x1
    go_enter Try.func13, Try.ntmps13
    go_wp2_with fail
    rw [← HE1.out]
    refine (show Calls _ _ _ _ _ from CT2.out).mono ?_
    rintro e W1 ⟨rfl, hb1⟩
    have HO1 := Lib.hid (owns_below HO0.out hb1)
    have HB1 := Lib.hid hb1
    have HBW1 := Lib.hid (HBE.out.trans (hb1.mono HBE.out.size))
    have hszw1 := hb1.size
    clear hb1 x0' x1'
    go_wp2
    go_loopw [4, 5, 6, 7] (fun ov av _ _ wr => ∃ a : Nat, a ≤ n ∧ av = .int .i64 a ∧ wr.ownsRow (w.heap.size + 1) 3 1 ov (unbTo F.t.con n a).length (iv (unbTo F.t.con n a)) ∧ Below (w.heap.size + 1) wE wr ∧ wE.heap.size ≤ wr.heap.size) (fun _ av _ _ _ => n - (intOf av).toNat)
    case atStart => exact ⟨0, Nat.zero_le _, rfl, HO1.out, HB1.out.mono (by have := HSZE.out; omega), hszw1⟩
    case round =>
      obtain ⟨V, rfl⟩ : ∃ V, V = wr := ⟨_, rfl⟩
      obtain ⟨a, ha, rfl, hown, hnx, hszr⟩ := hrel
      have hszE := HSZE.out
      have HOW := Lib.hid hown
      have HNX := Lib.hid hnx
      have HBX2 := Lib.hid (show Box2 V w.heap.size (.slice F.o.a F.o.l.length F.o.c) (.slice F.t.a F.t.R.length F.t.c) 29 from (hnx.block _ (by omega)).trans HBX.out)
      have HF2 := Lib.hid (show F.At V from HF0.out.on (HBE.out.trans (hnx.mono (by omega))))
      have y0 : V.cell? ⟨w.heap.size, 0, none⟩ = some (.slice F.o.a n F.o.c) := by rw [HN.out]; exact HBX2.out.c0
      by_cases hlt : a < n
      · have hlti : (a : Int) < (n : Int) := by omega
        clear hown hnx
        go_wp2
        go_loopw [6, 7] (fun bv cv wr => ∃ k : Nat, k ≤ n ∧ cv = .int .i64 k ∧ bv = .bool (!allTo F.t.con a k) ∧ Below V.heap.size V wr) (fun _ cv _ => n - (intOf cv).toNat)
        case atStart => exact ⟨0, Nat.zero_le _, rfl, rfl, Below.refl _ _⟩
        case round =>
          obtain ⟨k, hk, rfl, rfl, hn2⟩ := hrel
          clear y0
          have z0 : wr.cell? ⟨w.heap.size, 0, none⟩ = some (.slice F.o.a n F.o.c) := by rw [HN.out]; exact (HBX2.out.on hn2).c0
          have z1 := (HBX2.out.on hn2).c1
          obtain ⟨v, hv⟩ : ∃ v, v = allTo F.t.con a k := ⟨_, rfl⟩
          rw [← hv]
          have HV := Lib.hid hv
          have HN2 := Lib.hid hn2
          have hszw := hn2.size
          clear hv
          by_cases hlt2 : k < n
          · have hlti2 : (k : Int) < (n : Int) := by omega
            cases v with
            | false =>
              have HS : Hid (allTo F.t.con a (k + 1) = false) := Lib.hid (by rw [allTo_step, ← HV.out]; rfl)
              have hb0 : Below V.heap.size V wr.drew := hn2.drew
              clear hn2
              go_wp2_with fail
              refine wp_region_held_drew (S := fun u => Below V.heap.size V u) (by kernel_rfl) hb0 (fun hHeld => ?_)
              refine wpAnyH_take (i := 0) (v := ?vv0) rfl (by kernel_rfl) (by kernel_rfl) (by kernel_rfl) (fun _ _ _ h => h) (Or.inl ⟨by rfl, ?hy0⟩) (by assumption) ?rest0
              case hy0 => (intro w hSw; (try dsimp only at hSw); (try simp only [List.getElem_toArray, List.getElem_cons_zero]); go_simp <;> with_reducible rfl)
              try simp only [Act.put, List.getElem_toArray, List.getElem_cons_zero, List.setIfInBounds_toArray, List.set_cons_zero, List.set_cons_succ]
              refine wpAnyH_take (i := 1) (v := ?vv1) rfl (by kernel_rfl) (by kernel_rfl) (by kernel_rfl) (fun _ _ _ h => h) (Or.inl ⟨by rfl, ?hy1⟩) (by assumption) ?rest1
              case hy1 => (intro w hSw; (try dsimp only at hSw); (try simp only [List.getElem_toArray, List.getElem_cons_zero, List.getElem_cons_succ]); go_simp <;> with_reducible rfl)
              try simp only [Act.put, List.getElem_toArray, List.getElem_cons_zero, List.getElem_cons_succ, List.setIfInBounds_toArray, List.set_cons_zero, List.set_cons_succ]
              refine wpAnyH_take (i := 2) (v := undef) rfl (by kernel_rfl) (by kernel_rfl) (by kernel_rfl) (fun _ _ _ h => h) (Or.inr ⟨by rfl, rfl⟩) (by assumption) ?_
              try simp only [Act.put, List.getElem_toArray, List.getElem_cons_zero, List.getElem_cons_succ, List.setIfInBounds_toArray, List.set_cons_zero, List.set_cons_succ]
              refine wpAnyH_take (i := 3) (v := undef) rfl (by kernel_rfl) (by kernel_rfl) (by kernel_rfl) (fun _ _ _ h => h) (Or.inr ⟨by rfl, rfl⟩) (by assumption) ?_
              try simp only [Act.put, List.getElem_toArray, List.getElem_cons_zero, List.getElem_cons_succ, List.setIfInBounds_toArray, List.set_cons_zero, List.set_cons_succ]
              refine wpAnyH_take (i := 4) (v := undef) rfl (by kernel_rfl) (by kernel_rfl) (by kernel_rfl) (fun _ _ _ h => h) (Or.inr ⟨by rfl, rfl⟩) (by assumption) ?_
              try simp only [Act.put, List.getElem_toArray, List.getElem_cons_zero, List.getElem_cons_succ, List.setIfInBounds_toArray, List.set_cons_zero, List.set_cons_succ]
              refine wpAnyH_take (i := 5) (v := undef) rfl (by kernel_rfl) (by kernel_rfl) (by kernel_rfl) (fun _ _ _ h => h) (Or.inr ⟨by rfl, rfl⟩) (by assumption) ?_
              try simp only [Act.put, List.getElem_toArray, List.getElem_cons_zero, List.getElem_cons_succ, List.setIfInBounds_toArray, List.set_cons_zero, List.set_cons_succ]
              refine wpAnyH_take (i := 6) (v := undef) rfl (by kernel_rfl) (by kernel_rfl) (by kernel_rfl) (fun _ _ _ h => h) (Or.inr ⟨by rfl, rfl⟩) (by assumption) ?_
              try simp only [Act.put, List.getElem_toArray, List.getElem_cons_zero, List.getElem_cons_succ, List.setIfInBounds_toArray, List.set_cons_zero, List.set_cons_succ]
              refine wpAnyH_take (i := 7) (v := undef) rfl (by kernel_rfl) (by kernel_rfl) (by kernel_rfl) (fun _ _ _ h => h) (Or.inr ⟨by rfl, rfl⟩) (by assumption) ?_
              try simp only [Act.put, List.getElem_toArray, List.getElem_cons_zero, List.getElem_cons_succ, List.setIfInBounds_toArray, List.set_cons_zero, List.set_cons_succ]
              refine wpAnyH_take (i := 8) (v := undef) rfl (by kernel_rfl) (by kernel_rfl) (by kernel_rfl) (fun _ _ _ h => h) (Or.inr ⟨by rfl, rfl⟩) (by assumption) ?_
              try simp only [Act.put, List.getElem_toArray, List.getElem_cons_zero, List.getElem_cons_succ, List.setIfInBounds_toArray, List.set_cons_zero, List.set_cons_succ]
              refine wpAnyH_take (i := 9) (v := undef) rfl (by kernel_rfl) (by kernel_rfl) (by kernel_rfl) (fun _ _ _ h => h) (Or.inr ⟨by rfl, rfl⟩) (by assumption) ?_
              try simp only [Act.put, List.getElem_toArray, List.getElem_cons_zero, List.getElem_cons_succ, List.setIfInBounds_toArray, List.set_cons_zero, List.set_cons_succ]
              refine wpAnyH_take (i := 10) (v := undef) rfl (by kernel_rfl) (by kernel_rfl) (by kernel_rfl) (fun _ _ _ h => h) (Or.inr ⟨by rfl, rfl⟩) (by assumption) ?_
              try simp only [Act.put, List.getElem_toArray, List.getElem_cons_zero, List.getElem_cons_succ, List.setIfInBounds_toArray, List.set_cons_zero, List.set_cons_succ]
              refine wpAnyH_take (i := 11) (v := ?vv11) rfl (by kernel_rfl) (by kernel_rfl) (by kernel_rfl) (fun _ _ _ h => h) (Or.inl ⟨by rfl, ?hy11⟩) (by assumption) ?rest11
              case hy11 => (intro w hSw; (try dsimp only at hSw); (try simp only [List.getElem_toArray, List.getElem_cons_zero, List.getElem_cons_succ]); go_simp <;> with_reducible rfl)
              try simp only [Act.put, List.getElem_toArray, List.getElem_cons_zero, List.getElem_cons_succ, List.setIfInBounds_toArray, List.set_cons_zero, List.set_cons_succ]
              refine wpAnyH_take (i := 12) (v := ?vv12) rfl (by kernel_rfl) (by kernel_rfl) (by kernel_rfl) (fun _ _ _ h => h) (Or.inl ⟨by rfl, ?hy12⟩) (by assumption) ?rest12
              case hy12 => (intro w hSw; (try dsimp only at hSw); (try simp only [List.getElem_toArray, List.getElem_cons_zero, List.getElem_cons_succ]); go_simp <;> with_reducible rfl)
              try simp only [Act.put, List.getElem_toArray, List.getElem_cons_zero, List.getElem_cons_succ, List.setIfInBounds_toArray, List.set_cons_zero, List.set_cons_succ]
              refine wpAnyH_done (by kernel_rfl) ?_ _
              refine at_exit (W := V) hb0 ?_
              intro W8 hb8
              clear z0 z1 hb0
              go_wp2
              go_roundw
              case rel => exact ⟨k + 1, by omega, by go_num, by rw [HS.out]; rfl, hb8⟩
              case measure => simp [intOf]; omega
            | true =>
              obtain ⟨p, hp⟩ : ∃ p, p = ((votes F.t.con k a : Nat) : Int) := ⟨_, rfl⟩
              obtain ⟨r, hr⟩ : ∃ p, p = ((votes F.t.con a k : Nat) : Int) := ⟨_, rfl⟩
              have HS : Hid ((!allTo F.t.con a (k + 1)) = decide (p > r)) := Lib.hid (by
                rw [allTo_step, ← HV.out]
                unfold beatB
                rw [hp, hr, Bool.true_and, Bool.not_not, Bool.eq_iff_iff, decide_eq_true_eq, decide_eq_true_eq]
                omega)
              have C1 := Lib.hid (fun u (hu : Below V.heap.size V u) => by have := l9Votes_any F k a u (HF2.out.on hu) HG.out (by rw [← HN.out]; exact hlt2) (by rw [← HN.out]; exact hlt); rw [← hp, ← HN.out] at this; exact this)
              have C2 := Lib.hid (fun u (hu : Below V.heap.size V u) => by have := l9Votes_any F a k u (HF2.out.on hu) HG.out (by rw [← HN.out]; exact hlt) (by rw [← HN.out]; exact hlt2); rw [← hr, ← HN.out] at this; exact this)
              have HSS : Hid (∀ u, Below V.heap.size V u → ((u.cell? ⟨w.heap.size, 0, none⟩ = some (.slice F.o.a n F.o.c) ∧ u.cell? ⟨w.heap.size, 1, none⟩ = some (.slice F.t.a F.t.R.length F.t.c)) ∧ Below V.heap.size V u)) := Lib.hid fun u hu => ⟨⟨by rw [HN.out]; exact (HBX2.out.on hu).c0, (HBX2.out.on hu).c1⟩, hu⟩
              have s0 := HSS.out wr.drew hn2.drew
              have hb0 : Below V.heap.size V wr.drew := hn2.drew
              clear hp hr hn2
              go_wp2
              go_region_held3 (fun u => ((u.cell? ⟨w.heap.size, 0, none⟩ = some (.slice F.o.a n F.o.c) ∧ u.cell? ⟨w.heap.size, 1, none⟩ = some (.slice F.t.a F.t.R.length F.t.c)) ∧ Below V.heap.size V u)) (first | exact s0 | exact keep_reg HSS.out (by first | assumption | exact And.right (by assumption)) hb1) (first | (go_at_call 30; with_reducible change Calls _ _ #[_, .int .i64 (k : Int), .int .i64 (a : Int)] _ _; refine (show Calls _ _ _ _ _ from C1.out _ (by first | assumption | exact And.right (by assumption))).mono ?_; rintro e u1 ⟨rfl, hb1⟩) | (go_at_call 30; with_reducible change Calls _ _ #[_, .int .i64 (a : Int), .int .i64 (k : Int)] _ _; refine (show Calls _ _ _ _ _ from C2.out _ (by first | assumption | exact And.right (by assumption))).mono ?_; rintro e u1 ⟨rfl, hb1⟩))
              refine at_exit (W := V) (by first | assumption | exact And.right (by assumption)) ?_
              intro W8 hb8
              clear s0 hb0 z0 z1
              go_wp2
              go_roundw
              case rel => exact ⟨k + 1, by omega, by go_num, by rw [HS.out], hb8⟩
              case measure => simp [intOf]; omega
          · obtain rfl : k = n := by omega
            have HU := Lib.hid (unbTo_step F.t.con k a)
            have hown := owns_below HOW.out hn2
            have hnx2 : Below (w.heap.size + 1) wE wr := HNX.out.trans (hn2.mono (by omega))
            have hul := unbTo_len F.t.con k a
            clear hn2 z1
            cases v with
            | true =>
              have HE2 : Hid (unbTo F.t.con k (a + 1) = unbTo F.t.con k a ++ [(a : Int)]) := Lib.hid (by rw [HU.out, if_pos (show (List.range k).all (fun o => !beatB F.t.con o a) = true from HV.out.symm)])
              have HX2 := Lib.hid hnx2
              clear hnx2
              simp only [Bool.not_true]
              go_wp2_with (at_builtin; refine wpList_append_own _ rfl _ _ 22 rfl (w.heap.size + 1) 3 i0 (.int .i64 0) 1 8 Try.underlying22 hi hz0 hz1 hz2 rfl (by decide) _ _ _ rfl (hown.alloc _) ⟨wr.heap.size, 0, none⟩ 1 1 [.int .i64 (a : Int)] rfl rfl (one_cell _ _ _) (by simp [Value.oneCell']) (by unfold maxLen; omega) (by omega) (by simp; omega) ?_; intro v' w1 hown' hgrow _)
              have R1 : w1.ownsRow (w.heap.size + 1) 3 1 v' (unbTo F.t.con k (a + 1)).length (iv (unbTo F.t.con k (a + 1))) := by rw [HE2.out]; exact own_snoc rfl hown'
              have R2 : Below (w.heap.size + 1) wE w1 := (HX2.out.alloc (by omega) _).grown hgrow (by simp; omega) (fun j hj => (hown.lt j hj).1)
              have R3 : wE.heap.size ≤ w1.heap.size := by have := hgrow.size; rw [size_alloc] at this; omega
              clear hown' hgrow hown z0
              go_wp2
              go_roundw
              case rel => exact ⟨a + 1, by omega, by go_num, R1, R2, R3⟩
              case measure => simp [intOf]; omega
            | false =>
              have HE2 : Hid (unbTo F.t.con k (a + 1) = unbTo F.t.con k a) := Lib.hid (by rw [HU.out, if_neg (by rw [show (List.range k).all (fun o => !beatB F.t.con o a) = false from HV.out.symm]; simp), List.append_nil])
              have HOW2 := Lib.hid hown
              clear hown
              simp only [Bool.not_false]
              go_wp2
              go_roundw
              case rel => exact ⟨a + 1, by omega, by go_num, by rw [HE2.out]; exact HOW2.out, hnx2, by omega⟩
              case measure => simp [intOf]; omega
      · obtain rfl : a = n := by omega
        have HR := Lib.hid (row_of_own hown)
        have HBW2 := Lib.hid (HBE.out.trans (hnx.mono (by omega)))
        clear hown hnx
        go_wp2
        go_ret2
        obtain ⟨y, hy, hyl, hyo, hyi⟩ := HR.out
        exact ⟨y, congrArg (fun v => Ending.returned (.tuple #[v, .bool true])) hy, hyl, hyo, hyi.wide (by omega) (Nat.le_refl _), HBW2.out⟩

theorem unbeaten_pair (F : Fld) (_ : F.Small) : ∃ (l : List Int) (b : Bool) (_ : l.length ≤ 1048576),
    (∀ (G : Fld) (W : World), G.At W → G.Like F → Calls Try.prog 13 #[G.val] W (PInts l b W)) ∧
    (∀ (G : Fld) (W : World), G.At W → G.Like F → Calls Try.prog 14 #[G.val] W (PInts l b W)) := by
  obtain ⟨l, b, h, hl⟩ := unbIs_some F
  exact ⟨l, b, hl, fun G W hG hk => specUnb_any G W hG l b (unbIs_like h hk), fun G W hG hk => implUnb_any G W hG l b (unbIs_like h hk)⟩
end Go.Proofs.Ytfiijfgclfoeoaa
