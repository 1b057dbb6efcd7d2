/- Both sides of IsMetric answer alike. Condition: the Field reads as such. -/
import Derived.Test.YtokalloiikbppaaNeeded
namespace Go.Proofs.Ytokalloiikbppaa
open Go.RowKit

/-- The length from a client to a site. -/
def Fld.len (F : Fld) (i a : Nat) : Int := (F.t.con.getD i []).getD a 0
theorem len_at (F : Fld) {i : Nat} (h : i < F.t.R.length) (a : Nat) : F.len i a = F.t.R[i].l.getD a 0 := by
  unfold Fld.len
  rw [List.getD_eq_getElem?_getD (l := F.t.con), List.getElem?_eq_getElem (by rw [con_length]; exact h), Option.getD_some, con_at F.t h]
theorem len_like {F G : Fld} (h : F.Like G) (i a : Nat) : F.len i a = G.len i a := by unfold Fld.len; rw [h.2]
theorem len_bound {F : Fld} (hg : F.good = true) {i : Nat} (h : i < F.t.R.length) (a : Nat) : 0 ≤ F.len i a ∧ F.len i a ≤ 99 := by
  rw [len_at F h]; exact getD_bound (good_row hg (List.getElem_mem h)).2 a
/-- The way by another site and another client is no shorter. -/
def Fld.far (F : Fld) (i j a b : Nat) : Prop := F.len i a ≤ F.len i b + F.len j b + F.len j a
def Fld.Met (F : Fld) : Prop := ∀ i, i < F.t.R.length → ∀ j, j < F.t.R.length → ∀ a, a < F.o.l.length → ∀ b, b < F.o.l.length → F.far i j a b
theorem met_like {F G : Fld} (h : F.Like G) : F.Met ↔ G.Met := by
  have h1 : F.t.R.length = G.t.R.length := by have := congrArg List.length h.2; rw [con_length, con_length] at this; exact this
  unfold Fld.Met Fld.far
  rw [h.1, h1]
  simp only [len_like h]

/-- What the cells of a table's row hold. -/
theorem row_cells {F : Fld} {wA wr : World} (hF : F.At wA) (hg : F.good = true) (hd : DrewTo wA wr) {i : Nat} (hi : i < F.t.R.length) :
    ∃ b o b' o' c, F.t.a = some ⟨b, o, none⟩ ∧ wr.cell? ⟨b, o + i, none⟩ = some (.slice (some ⟨b', o', none⟩) F.o.l.length c) ∧ ∀ m, m < F.o.l.length → wr.cell? ⟨b', o' + m, none⟩ = some (.int .i64 (F.len i m)) := by
  obtain ⟨b, o, b', o', h1, h2, h3, h4, h5⟩ := (cells_of (g := 0) hF hg hd).t i hi
  exact ⟨b, o, b', o', _, h1, by rw [← h4]; exact h3, fun m hm => by rw [len_at F hi]; exact h5 m hm⟩

set_option maxHeartbeats 2000000 in
theorem l2Metric_any (F : Fld) (w : World) (hF : F.At w) (hg : F.good = true) (v : Bool) (hv : v = true ↔ F.Met) :
    Calls Try.prog 104 #[F.val] w fun e w' => e = .returned (.bool v) ∧ Below w.heap.size w w' := by
  obtain ⟨wA, hA, hbA, bx, hFA, _⟩ := laid_fld F w 29 hF
  have hsz := good_sizes hg
  have HC := Lib.hid fun wr (hd : DrewTo wA wr) i (hi : i < F.t.R.length) => row_cells hFA hg hd hi
  have HLB := Lib.hid fun i (hi : i < F.t.R.length) a => len_bound hg hi a
  have HX0 := Lib.hid (fun wr (hd : DrewTo wA wr) => by rw [hd.cell]; exact bx.c0 : ∀ wr, DrewTo wA wr → wr.cell? ⟨w.heap.size, 0, none⟩ = some (.slice F.o.a F.o.l.length F.o.c))
  have HX1 := Lib.hid (fun wr (hd : DrewTo wA wr) => by rw [hd.cell]; exact bx.c1 : ∀ wr, DrewTo wA wr → wr.cell? ⟨w.heap.size, 1, none⟩ = some (.slice F.t.a F.t.R.length F.t.c))
  have HV := Lib.hid hv
  have HA := Lib.hid hA
  obtain ⟨n, hn⟩ : ∃ n, n = F.o.l.length := ⟨_, rfl⟩
  obtain ⟨m, hm⟩ : ∃ m, m = F.t.R.length := ⟨_, rfl⟩
  have HMet : Hid (F.Met ↔ ∀ i, i < m → ∀ j, j < m → ∀ a, a < n → ∀ b, b < n → F.far i j a b) := Lib.hid (by rw [hn, hm]; exact Iff.rfl)
  have hni : (n : Int) ≤ 7 := by omega
  have hmi : (m : Int) ≤ 7 := by omega
  rw [← hn, ← hm] at HC
  rw [← hm] at HLB HX1
  rw [← hn] at HX0
  clear hF hA bx hFA hv hg hsz
  show Calls _ _ #[.agg #[.slice F.o.a F.o.l.length F.o.c, .slice F.t.a F.t.R.length F.t.c]] w _
  rw [← hn, ← hm]
  have HA1 : Hid (w.alloc (Obj.cells #[.slice F.o.a n F.o.c, .slice F.t.a m F.t.c] 29) = wA) := Lib.hid (by rw [HA.out, hn, hm]; rfl)
  clear hn hm
  go_enter Try.func104, Try.ntmps104
  go_wp2
  go_loopw [3, 4, 5, 6] (fun iv _ _ _ wr => ∃ i : Nat, i ≤ m ∧ iv = .int .i64 i ∧ DrewTo wA wr ∧ ∀ i', i' < i → ∀ j, j < m → ∀ a, a < n → ∀ b, b < n → F.far i' j a b) (fun iv _ _ _ _ => m - (intOf iv).toNat)
  case atStart => exact ⟨0, Nat.zero_le _, rfl, by rw [HA1.out]; exact DrewTo.refl _, fun i' h => by omega⟩
  case round =>
    obtain ⟨i, hi, rfl, hdw, h1⟩ := hrel
    have H1 := Lib.hid h1
    clear h1
    have y1 := HX1.out wr hdw
    by_cases hlt : i < m
    · have hlti : (i : Int) < (m : Int) := by omega
      have HD := Lib.hid hdw
      clear hdw
      go_wp2
      go_loopw [4, 5, 6] (fun jv _ _ wr => ∃ j : Nat, j ≤ m ∧ jv = .int .i64 j ∧ DrewTo wA wr ∧ ∀ j', j' < j → ∀ a, a < n → ∀ b, b < n → F.far i j' a b) (fun jv _ _ _ => m - (intOf jv).toNat)
      case atStart => exact ⟨0, Nat.zero_le _, rfl, HD.out, fun i' h => by omega⟩
      case round =>
        obtain ⟨j, hj, rfl, hdw, h2⟩ := hrel
        have H2 := Lib.hid h2
        clear h2 y1 HD
        have y1 := HX1.out wr hdw
        by_cases hltj : j < m
        · have hltji : (j : Int) < (m : Int) := by omega
          have HD := Lib.hid hdw
          clear hdw
          go_wp2
          go_loopw [5, 6] (fun av _ wr => ∃ a : Nat, a ≤ n ∧ av = .int .i64 a ∧ DrewTo wA wr ∧ ∀ a', a' < a → ∀ b, b < n → F.far i j a' b) (fun av _ _ => n - (intOf av).toNat)
          case atStart => exact ⟨0, Nat.zero_le _, rfl, HD.out, fun i' h => by omega⟩
          case round =>
            obtain ⟨a, ha, rfl, hdw, h3⟩ := hrel
            have H3 := Lib.hid h3
            clear h3 y1 HD
            have y0 := HX0.out wr hdw
            by_cases hlta : a < n
            · have hltai : (a : Int) < (n : Int) := by omega
              have HD := Lib.hid hdw
              clear hdw
              go_wp2
              go_loopw [6] (fun bv wr => ∃ b : Nat, b ≤ n ∧ bv = .int .i64 b ∧ DrewTo wA wr ∧ ∀ b', b' < b → F.far i j a b') (fun bv _ => n - (intOf bv).toNat)
              case atStart => exact ⟨0, Nat.zero_le _, rfl, HD.out, fun i' h => by omega⟩
              case round =>
                obtain ⟨b, hb, rfl, hdw, h4⟩ := hrel
                have H4 := Lib.hid h4
                clear h4 y0 HD
                have y0 := HX0.out wr hdw
                have y1 := HX1.out wr hdw
                by_cases hltb : b < n
                · have hltbi : (b : Int) < (n : Int) := by omega
                  obtain ⟨bt, ot, bi, oi, ci, hta, hci, hri⟩ := HC.out wr hdw i hlt
                  obtain ⟨bt', ot', bj, oj, cj, hta', hcj, hrj⟩ := HC.out wr hdw j hltj
                  rw [hta] at hta' y1
                  simp only [Option.some.injEq, Addr.mk.injEq] at hta'
                  obtain ⟨rfl, rfl, _⟩ := hta'
                  obtain ⟨p, hp⟩ : ∃ p, p = F.len i a := ⟨_, rfl⟩
                  obtain ⟨q, hq⟩ : ∃ p, p = F.len i b := ⟨_, rfl⟩
                  obtain ⟨r, hr⟩ : ∃ p, p = F.len j b := ⟨_, rfl⟩
                  obtain ⟨s, hs⟩ : ∃ p, p = F.len j a := ⟨_, rfl⟩
                  have cp := hri a hlta
                  have cq := hri b hltb
                  have cr := hrj b hltb
                  have cs := hrj a hlta
                  have bp := HLB.out i hlt a
                  have bq := HLB.out i hlt b
                  have br := HLB.out j hltj b
                  have bs := HLB.out j hltj a
                  rw [← hp] at cp bp
                  rw [← hq] at cq bq
                  rw [← hr] at cr br
                  rw [← hs] at cs bs
                  have HFAR : Hid (F.far i j a b ↔ p ≤ q + r + s) := Lib.hid (by unfold Fld.far; rw [hp, hq, hr, hs])
                  rw [hta]
                  clear hp hq hr hs hri hrj hta
                  by_cases hle : q + r + s < p
                  · have HVF : Hid (v = false) := Lib.hid (by
                      rw [Bool.eq_false_iff]; intro h
                      have := HFAR.out.1 (HMet.out.1 (HV.out.1 h) i hlt j hltj a hlta b hltb); omega)
                    go_wp2
                    go_quiet (fail)
                    go_wp2
                    go_ret
                    exact ⟨by rw [HVF.out]; rfl, hbA.trans ((hdw.more _).below.mono hbA.size)⟩
                  · have HS : Hid (∀ b', b' < b + 1 → F.far i j a b') := Lib.hid fun b' hb' => by
                      by_cases e : b' = b
                      · subst e; exact HFAR.out.2 (by omega)
                      · exact H4.out b' (by omega)
                    go_wp2
                    go_quiet (fail)
                    go_wp2
                    go_roundw
                    case rel => exact ⟨b + 1, by omega, by go_num, hdw.more _, HS.out⟩
                    case measure => simp [intOf]; omega
                · obtain rfl : b = n := by omega
                  have HS : Hid (∀ a', a' < a + 1 → ∀ b', b' < b → F.far i j a' b') := Lib.hid fun a' ha' => by
                    by_cases e : a' = a
                    · subst e; exact H4.out
                    · exact H3.out a' (by omega)
                  go_wp2
                  go_roundw
                  case rel => exact ⟨a + 1, by omega, by go_num, hdw, HS.out⟩
                  case measure => simp [intOf]; omega
            · obtain rfl : a = n := by omega
              have HS : Hid (∀ j', j' < j + 1 → ∀ a', a' < a → ∀ b, b < a → F.far i j' a' b) := Lib.hid fun j' hj' => by
                by_cases e : j' = j
                · subst e; exact H3.out
                · exact H2.out j' (by omega)
              go_wp2
              go_roundw
              case rel => exact ⟨j + 1, by omega, by go_num, hdw, HS.out⟩
              case measure => simp [intOf]; omega
        · obtain rfl : j = m := by omega
          have HS : Hid (∀ i', i' < i + 1 → ∀ j', j' < j → ∀ a, a < n → ∀ b, b < n → F.far i' j' a b) := Lib.hid fun i' hi' => by
            by_cases e : i' = i
            · subst e; exact H2.out
            · exact H1.out i' (by omega)
          go_wp2
          go_roundw
          case rel => exact ⟨i + 1, by omega, by go_num, hdw, HS.out⟩
          case measure => simp [intOf]; omega
    · obtain rfl : i = m := by omega
      have HVT : Hid (v = true) := Lib.hid (HV.out.2 (HMet.out.2 H1.out))
      go_wp2
      go_ret
      exact ⟨by rw [HVT.out]; rfl, hbA.trans (hdw.below.mono hbA.size)⟩
/-- The way by another site and another client. -/
def Fld.way (F : Fld) (i j a b : Nat) : Int := F.len i b + F.len j b + F.len j a
/-- s is the least of the length and of the ways told so far. -/
structure Best (F : Fld) (i a n m j b : Nat) (s : Int) : Prop where
  le : s ≤ F.len i a
  all : ∀ j', j' < j → ∀ b', b' < n → s ≤ F.way i j' a b'
  some : ∀ b', b' < b → s ≤ F.way i j a b'
  is : s = F.len i a ∨ ∃ j' b', j' < m ∧ b' < n ∧ s = F.way i j' a b'
theorem best_start (F : Fld) (i a n m : Nat) : Best F i a n m 0 0 (F.len i a) := ⟨Int.le_refl _, fun _ h => by omega, fun _ h => by omega, .inl rfl⟩
theorem best_next {F : Fld} {i a n m j : Nat} {s : Int} (h : Best F i a n m j n s) : Best F i a n m (j + 1) 0 s :=
  ⟨h.le, fun j' hj' b' hb' => by
    by_cases e : j' = j
    · subst e; exact h.some b' hb'
    · exact h.all j' (by omega) b' hb', fun _ h => by omega, h.is⟩
theorem best_step {F : Fld} {i a n m j b : Nat} {s z : Int} (h : Best F i a n m j b s) (hj : j < m) (hb : b < n) (hz : z = F.way i j a b) : Best F i a n m j (b + 1) (min s z) := by
  refine ⟨by have := h.le; omega, fun j' hj' b' hb' => by have := h.all j' hj' b' hb'; omega, fun b' hb' => ?_, ?_⟩
  · by_cases e : b' = b
    · subst e; rw [← hz]; omega
    · have := h.some b' (by omega); omega
  · by_cases e : s ≤ z
    · rw [show min s z = s by omega]; exact h.is
    · rw [show min s z = z by omega]; exact .inr ⟨j, b, hj, hb, hz⟩

set_option maxHeartbeats 2000000 in
theorem shortcut_any (F : Fld) (i a : Nat) (w : World) (hF : F.At w) (hg : F.good = true) (hi : i < F.t.R.length) (ha : a < F.o.l.length) :
    Calls Try.prog 108 #[.slice F.t.a F.t.R.length F.t.c, .int .i64 i, .int .i64 a] w fun e w' => (∃ s : Int, e = .returned (.int .i64 s) ∧ Best F i a F.o.l.length F.t.R.length F.t.R.length 0 s) ∧ Below w.heap.size w w' := by
  have hsz := good_sizes hg
  have HC := Lib.hid fun wr (hd : DrewTo w wr) i (hi : i < F.t.R.length) => row_cells hF hg hd hi
  have HLB := Lib.hid fun i (hi : i < F.t.R.length) a => len_bound hg hi a
  obtain ⟨bt, ot, bi, oi, ci, hta, hci, hri⟩ := HC.out w (DrewTo.refl _) i hi
  rw [hta]
  have HTA := Lib.hid hta
  obtain ⟨n, hn⟩ : ∃ n, n = F.o.l.length := ⟨_, rfl⟩
  obtain ⟨m, hm⟩ : ∃ m, m = F.t.R.length := ⟨_, rfl⟩
  have hni : (n : Int) ≤ 7 := by omega
  have hmi : (m : Int) ≤ 7 := by omega
  rw [← hn, ← hm] at HC
  rw [← hm] at HLB hi
  rw [← hn] at ha hri hci
  rw [← hn, ← hm]
  have hai : (a : Int) < (n : Int) := by omega
  have hii : (i : Int) < (m : Int) := by omega
  obtain ⟨x, hx⟩ : ∃ x, x = F.len i a := ⟨_, rfl⟩
  have cx := hri a ha
  rw [← hx] at cx
  have HX := Lib.hid hx
  have HCI := Lib.hid hci
  have HRI := Lib.hid hri
  clear hF hg hsz hn hm hta hri hx
  go_enter Try.func108, Try.ntmps108
  go_wp2
  go_loopw [7, 9, 10, 11, 21, 27] (fun sv _ _ _ jv _ wr => ∃ (j : Nat) (s : Int), j ≤ m ∧ jv = .int .i64 j ∧ sv = .int .i64 s ∧ Best F i a n m j 0 s ∧ DrewTo w wr) (fun _ _ _ _ jv _ _ => m - (intOf jv).toNat)
  case atStart => exact ⟨0, x, Nat.zero_le _, rfl, rfl, by rw [HX.out]; exact best_start _ _ _ _ _, DrewTo.refl _⟩
  case round =>
    obtain ⟨j, s, hj, rfl, rfl, hbs, hdw⟩ := hrel
    clear cx hci
    have HBS := Lib.hid hbs
    clear hbs
    by_cases hltj : j < m
    · have hltji : (j : Int) < (m : Int) := by omega
      obtain ⟨bt', ot', bj, oj, cj, hta', hcj0, hrj⟩ := HC.out w (DrewTo.refl _) j hltj
      rw [HTA.out] at hta'
      simp only [Option.some.injEq, Addr.mk.injEq] at hta'
      obtain ⟨rfl, rfl, -⟩ := hta'
      have hcj : wr.cell? ⟨bt, ot + j, none⟩ = some (.slice (some ⟨bj, oj, none⟩) n cj) := by rw [hdw.cell]; exact hcj0
      have HRJ := Lib.hid hrj
      have HD := Lib.hid hdw
      clear hdw hrj hcj0
      go_wp2
      go_loopw [7, 10, 11, 27] (fun sv _ _ bv wr => ∃ (b : Nat) (s : Int), b ≤ n ∧ bv = .int .i64 b ∧ sv = .int .i64 s ∧ Best F i a n m j b s ∧ DrewTo w wr) (fun _ _ _ bv _ => n - (intOf bv).toNat)
      case atStart => exact ⟨0, s, Nat.zero_le _, rfl, rfl, HBS.out, HD.out⟩
      case round =>
        obtain ⟨b, s, hb, rfl, rfl, hbs, hdw⟩ := hrel
        clear HBS HD hcj
        have HBS := Lib.hid hbs
        clear hbs
        by_cases hltb : b < n
        · have hltbi : (b : Int) < (n : Int) := by omega
          obtain ⟨q, hq⟩ : ∃ p, p = F.len i b := ⟨_, rfl⟩
          obtain ⟨r, hr⟩ : ∃ p, p = F.len j b := ⟨_, rfl⟩
          obtain ⟨t, ht⟩ : ∃ p, p = F.len j a := ⟨_, rfl⟩
          have c1 : wr.cell? ⟨bt, ot + i, none⟩ = some (.slice (some ⟨bi, oi, none⟩) n ci) := by rw [hdw.cell]; exact HCI.out
          have c2 : wr.cell? ⟨bi, oi + b, none⟩ = some (.int .i64 q) := by rw [hdw.cell, hq]; exact HRI.out b hltb
          have c3 : wr.cell? ⟨bj, oj + b, none⟩ = some (.int .i64 r) := by rw [hdw.cell, hr]; exact HRJ.out b hltb
          have c4 : wr.cell? ⟨bj, oj + a, none⟩ = some (.int .i64 t) := by rw [hdw.cell, ht]; exact HRJ.out a ha
          have bq := HLB.out i hi b
          have br := HLB.out j hltj b
          have bs := HLB.out j hltj a
          rw [← hq] at bq
          rw [← hr] at br
          rw [← ht] at bs
          have HST := Lib.hid (best_step HBS.out hltj hltb (z := q + r + t) (by unfold Fld.way; rw [hq, hr, ht]))
          clear hq hr ht
          by_cases hmin : s ≤ q + r + t
          · have HM : Hid (min s (q + r + t) = s) := Lib.hid (by omega)
            go_wp2
            go_quiet (fail)
            go_wp2
            go_roundw
            case rel => exact ⟨b + 1, min s (q + r + t), by omega, by go_num, by first | rfl | (congr 1; omega), HST.out, hdw.more _⟩
            case measure => simp [intOf]; omega
          · go_wp2
            go_quiet (fail)
            go_wp2
            go_roundw
            case rel => exact ⟨b + 1, min s (q + r + t), by omega, by go_num, by first | rfl | (congr 1; omega), HST.out, hdw.more _⟩
            case measure => simp [intOf]; omega
        · obtain rfl : b = n := by omega
          have HNX := Lib.hid (best_next HBS.out)
          go_wp2
          go_roundw
          case rel => exact ⟨j + 1, s, by omega, by go_num, rfl, HNX.out, hdw⟩
          case measure => simp [intOf]; omega
    · obtain rfl : j = m := by omega
      go_wp2
      go_ret
      exact ⟨⟨s, rfl, HBS.out⟩, hdw.below⟩

end Go.Proofs.Ytokalloiikbppaa
