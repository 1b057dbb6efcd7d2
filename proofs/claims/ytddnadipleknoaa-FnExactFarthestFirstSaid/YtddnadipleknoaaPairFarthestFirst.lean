/- FarthestFirst on both sides, as its law wants it. No condition. -/
import Derived.Test.YtddnadipleknoaaFarFirstI
import Derived.Test.YtddnadipleknoaaPairBestDispersion
namespace Go.Proofs.Ytddnadipleknoaa
open Go.RowKit Go.Shelf

theorem own_two (w : World) (x y : Value) (B : Nat) (hB : B ≤ w.heap.size) : (w.alloc (.cells #[x, y] 3)).ownsRow B 3 1 (.slice (some ⟨w.heap.size, 0, none⟩) 2 2) 2 [x, y] :=
  ⟨rfl, .inr ⟨w.heap.size, 2, #[x, y], rfl, hB, heap_alloc_new w _, Nat.le_refl _, by decide, rfl, by simp⟩⟩

set_option maxRecDepth 16000 in
set_option maxHeartbeats 1500000 in
theorem l11Nearest_any (T : Tab) (r : Row) (L : List Nat) (x : Nat) (w : World) (hT : T.At w) (hg : Grd T.con) (hr : r.At w) (hl : r.l = up L) (hL : ∀ m ∈ L, m < T.R.length) (hx : x < T.R.length) (h0 : 0 < L.length) :
    Calls Try.prog 34 #[.slice T.a T.R.length T.c, .slice r.a r.l.length r.c, .int .i64 x] w fun e w' => e = .returned (.int .i64 (gapF T.con x 198 L)) ∧ w' = w := by
  have hlim := row_lim0 hr
  have hlen : r.l.length = L.length := by rw [hl, up_length]
  rw [hlen] at hlim ⊢
  obtain ⟨n, hn⟩ : ∃ n, n = T.R.length := ⟨_, rfl⟩
  have hn7 : (n : Int) ≤ 7 := by have := hg.few; rw [con_length] at this; omega
  obtain ⟨b, o, ha, hrow⟩ := grd_cells hT hg (by omega)
  obtain ⟨b1, o1, ha1, hc1⟩ := up_row hr hl (by omega)
  rw [← hn] at hrow hx
  have HROW := Lib.hid (fun i (hi : i < n) => (let ⟨b', o', c, h⟩ := hrow i hi; ⟨b', o', c, h w (Below.refl _ _)⟩ : ∃ b' o' c, w.cell? ⟨b, o + i, none⟩ = some (.slice (some ⟨b', o', none⟩) n c) ∧ ∀ m, m < n → w.cell? ⟨b', o' + m, none⟩ = some (.int .i64 (cel T.con i m))))
  have HC := Lib.hid (hc1 w (Below.refl _ _))
  have HLT := Lib.hid (fun k (hk : k < L.length) => (by rw [getD_nat hk, hn]; exact hL _ (List.getElem_mem hk) : L.getD k 0 < n))
  have HSYM := Lib.hid (fun i (hi : i < n) => hg.sym (i := i) (j := x) (by rw [con_length, ← hn]; exact hi) (by rw [con_length, ← hn]; exact hx))
  have HBD := Lib.hid (fun i j => hg.bound i j)
  have HST : Hid (∀ k (h : k < L.length), gapF T.con x 198 (L.take (k + 1)) = min (gapF T.con x 198 (L.take k)) (cel T.con x (L.getD k 0))) := Lib.hid fun k h => by rw [gapF_step h, getD_nat h]
  have hxi : (x : Int) < (n : Int) := by omega
  have HX := Lib.hid hx
  obtain ⟨m0, hm0⟩ : ∃ m, m = L.getD 0 0 := ⟨_, rfl⟩
  have q0 := HC.out 0 h0
  have l0 := HLT.out 0 h0
  rw [← hm0] at q0 l0
  rw [Nat.add_zero] at q0
  obtain ⟨bq, oq, cq, hq1, hq2⟩ := HROW.out m0 l0
  have q3 := hq2 x hx
  obtain ⟨s0, hs0⟩ : ∃ s, s = cel T.con m0 x := ⟨_, rfl⟩
  rw [← hs0] at q3
  have H1 : Hid (s0 = gapF T.con x 198 (L.take 1)) := Lib.hid (by
    have e := HST.out 0 h0
    have e1 : gapF T.con x 198 (L.take 0) = 198 := by simp [gapF]
    have hb := (HBD.out m0 x).2
    rw [e1, ← hm0, ← HSYM.out m0 l0, ← hs0] at e
    rw [← hs0] at hb
    rw [e]; omega)
  have l0i : (m0 : Int) < (n : Int) := by omega
  have h0i : (0 : Int) < (L.length : Int) := by omega
  rw [ha, ha1, ← hn]
  clear hT hg hr hl hL hn hlen ha ha1 hrow hc1 hm0 l0 hq2 hs0 hx
  go_enter Try.func34, Try.ntmps34
  go_wp2
  clear q0 q3 hq1 l0i
  go_loopw [7, 8] (fun sv i wr => ∃ k : Nat, 1 ≤ k ∧ k ≤ L.length ∧ i = .int .i64 k ∧ sv = .int .i64 (gapF T.con x 198 (L.take k)) ∧ wr = w) (fun _ i _ => L.length - (intOf i).toNat)
  case atStart => exact ⟨1, Nat.le_refl _, by omega, rfl, by rw [H1.out], rfl⟩
  case round =>
    obtain ⟨k, hk1, hk, rfl, rfl, hVr⟩ := hrel
    subst hVr
    by_cases hlt : k < L.length
    · have hlti : (k : Int) < (L.length : Int) := by omega
      obtain ⟨m, hm⟩ : ∃ m, m = L.getD k 0 := ⟨_, rfl⟩
      have hcl := HC.out k hlt
      have hmn := HLT.out k hlt
      have hst := HST.out k hlt
      rw [← hm] at hcl hmn hst
      obtain ⟨bm, om, cm, hm1, hm2⟩ := HROW.out m hmn
      obtain ⟨y, hy⟩ : ∃ y, y = cel T.con m x := ⟨_, rfl⟩
      have hm3 := hm2 x HX.out
      rw [← hy] at hm3
      rw [← HSYM.out m hmn, ← hy] at hst
      obtain ⟨s, hs⟩ : ∃ s, s = gapF T.con x 198 (L.take k) := ⟨_, rfl⟩
      rw [← hs] at hst ⊢
      have HS := Lib.hid hst
      have CL := Lib.hid (fun W => least_any s y W)
      have hmi : (m : Int) < (n : Int) := by omega
      clear hm hy hs hst hmn hm2
      go_wp2_with fail
      refine (show Calls _ _ _ _ _ from CL.out _).mono ?_
      rintro e W ⟨rfl, rfl⟩
      go_wp2
      go_roundw
      case rel => exact ⟨k + 1, by omega, by omega, by go_num, by rw [HS.out], by first | rfl | trivial⟩
      case measure => simp [intOf]; omega
    · obtain rfl : k = L.length := by omega
      have HE : Hid (L.take L.length = L) := Lib.hid (List.take_length ..)
      go_wp2
      go_ret
      exact ⟨by rw [HE.out]; rfl, rfl⟩

/-- The better one of a pair and another one. -/
theorem step_pair {d : List (List Int)} (h : Grd d) {a b i j : Nat} (ha : a < d.length) (hb : b < d.length) (hi : i < d.length) (hj : j < d.length) : stepB (negD d) [a, b] [i, j] = if cel d i j > cel d a b then [i, j] else [a, b] := by
  unfold stepB negD
  rw [disp_pair h ha hb, disp_pair h hi hj]
  by_cases e : cel d i j > cel d a b
  · rw [if_pos e, if_pos (.inr (by omega))]
  · rw [if_neg e, if_neg (fun hc => hc.elim (by simp) (fun hc => e (by omega)))]

/-- What the model has in hand: places in a list of its own. -/
structure Own2 (B : Nat) (w wr : World) (t : Row) (L : List Nat) : Prop where
  l : t.l = up L
  own : wr.ownsRow B 3 1 (.slice t.a t.l.length t.c) t.l.length (iv t.l)
  rd : t.At wr
  bl : Below w.heap.size w wr
theorem Own2.draw {B : Nat} {w wr u : World} {t : Row} {L : List Nat} (h : Own2 B w wr t L) (hd : DrewTo wr u) : Own2 B w u t L := ⟨h.l, owns_below h.own hd.below, h.rd.on hd.below, h.bl.trans (hd.below.mono h.bl.size)⟩

set_option maxRecDepth 32000 in
set_option maxHeartbeats 3000000 in
theorem specFF_any (T : Tab) (kk : Int) (w : World) (hT : T.At w) (l : List Int) (b : Bool) (hv : FFIs T.con kk l b) :
    Calls Try.prog 16 #[.slice T.a T.R.length T.c, .int .i64 kk] w (PInts l b w) := by
  obtain ⟨i0, hi, hz0, hz1, hz2⟩ := info_parts infoInt
  have CT := Lib.hid (l11K_any T kk w hT)
  have HT := Lib.hid hT
  have hCL := con_length T
  rcases hv with ⟨h2, rfl, rfl⟩ | ⟨h2, rfl, rfl⟩
  · rw [h2] at CT
    clear h2 hT hCL
    go_enter Try.func16, Try.ntmps16
    go_wp2_with fail
    refine (show Calls _ _ _ _ _ from CT.out).mono ?_
    rintro e W1 ⟨rfl, hd⟩
    have HB := Lib.hid hd.below
    clear hd
    go_wp2
    go_ret2
    obtain ⟨t, ht, htl, hto, hti⟩ := row_of_own (empty_own W1)
    exact ⟨t, congrArg (fun v => Ending.returned (.tuple #[v, .bool false])) ht, htl, hto, hti.wide HB.out.size (Nat.le_refl _), HB.out.trans ((below_alloc W1 _).mono HB.out.size)⟩
  · rw [h2] at CT
    obtain ⟨hg, k, rfl, h2k, hk⟩ := spread_nat h2
    have h7 := hg.few
    obtain ⟨n, hn⟩ : ∃ n, n = T.R.length := ⟨_, rfl⟩
    rw [hCL, ← hn] at hk h7
    obtain ⟨φ, hφ⟩ : ∃ φ, φ = negD T.con := ⟨_, rfl⟩
    obtain ⟨L0, hL0⟩ : ∃ L, L = bestK (negD T.con) T.con.length 2 := ⟨_, rfl⟩
    have h0 := bestD_ok hg (Nat.le_refl 2) (by rw [hCL, ← hn]; omega)
    rw [← hL0, hCL, ← hn] at h0
    have HTOP : Hid (topP φ n [0, 1] n = L0) := Lib.hid (by rw [top_first φ h7 (by omega), hL0, hCL, hn, hφ])
    have HSP : Hid (∀ a b i j, a < n → b < n → i < n → j < n → stepB φ [a, b] [i, j] = if cel T.con i j > cel T.con a b then [i, j] else [a, b]) := Lib.hid fun a b i j q1 q2 q3 q4 => by rw [hφ]; exact step_pair hg (by rw [hCL, ← hn]; exact q1) (by rw [hCL, ← hn]; exact q2) (by rw [hCL, ← hn]; exact q3) (by rw [hCL, ← hn]; exact q4)
    have HG := Lib.hid hg
    have HRES2 : Hid (up (farP T.con n L0 (k - 2)) = up (farP T.con T.con.length (bestK (negD T.con) T.con.length 2) (k - 2))) := Lib.hid (by rw [← hL0, hCL, hn])
    have HLEN := Lib.hid (fun j => farP_len T.con n L0 j)
    have HLT := Lib.hid (fun j (hj : j ≤ n - 2) => farP_lt (d := T.con) h0.2 j (by omega))
    have H0 := Lib.hid h0
    have HN := Lib.hid hn
    have CT1 := Lib.hid (by have := CT.out; rw [← hn] at this; exact this)
    have hni : (n : Int) ≤ 7 := by omega
    obtain ⟨bT, oT, hTa, hrow⟩ := grd_cells hT hg (by omega)
    rw [← hn] at hrow
    have HROW := Lib.hid hrow
    have HTA := Lib.hid hTa
    have CT2 := Lib.hid (by have := CT1.out; rw [hTa] at this; exact this)
    rw [← hn, hTa]
    clear h2 hT hCL hg h7 hn hφ hL0 h0 CT CT1 hTa hrow
    go_enter Try.func16, Try.ntmps16
    go_wp2_with fail
    refine (show Calls _ _ _ _ _ from CT2.out).mono ?_
    rintro e V ⟨rfl, hd⟩
    obtain ⟨B, hBB⟩ : ∃ B, B = w.heap.size := ⟨_, rfl⟩
    have hVs : B ≤ V.heap.size := by rw [hBB]; exact hd.below.size
    have HBE := Lib.hid hBB
    have HTWO : Hid (∀ (u : World) (p q : Nat), Below w.heap.size w u → ∃ t : Row, (Value.slice (some ⟨u.heap.size, 0, none⟩) 2 2) = .slice t.a t.l.length t.c ∧ Own2 B w (u.alloc (.cells #[.int .i64 p, .int .i64 q] 3)) t [p, q]) := Lib.hid fun u p q hu => by
      have ho := own_two u (.int .i64 p) (.int .i64 q) B (by rw [hBB]; exact hu.size)
      obtain ⟨t, ht, htl, -, hti⟩ := row_of_own (l := up [p, q]) (by simpa [iv, up] using ho)
      refine ⟨t, ht, htl, ?_, hti.at, hu.trans ((below_alloc u _).mono hu.size)⟩
      rw [← ht, htl]
      simpa [iv, up] using ho
    have HS0 := Lib.hid (HTWO.out V 0 1 hd.below)
    clear hd hBB
    go_wp2_with fail
    go_loopw [6, 7, 8] (fun tv iv' _ wr => ∃ (i p q : Nat) (t : Row), i ≤ n ∧ iv' = .int .i64 i ∧ tv = .slice t.a t.l.length t.c ∧ p < n ∧ q < n ∧ Hid ([p, q] = topP φ n [0, 1] i) ∧ Hid (Own2 B w wr t [p, q])) (fun _ iv' _ _ => n - (intOf iv').toNat)
    case atStart =>
      obtain ⟨t, ht, hO⟩ := HS0.out
      exact ⟨0, 0, 1, t, Nat.zero_le _, rfl, ht, by omega, by omega, Lib.hid rfl, Lib.hid (by simpa using hO)⟩
    case round =>
      obtain ⟨i, p, q, t, hi', rfl, rfl, hp, hq, HTP, HO⟩ := hrel
      by_cases hlt : i < n
      · have hlti : (i : Int) < (n : Int) := by omega
        obtain ⟨L1, hL1⟩ : ∃ L, L = topP φ n [0, 1] i := ⟨_, rfl⟩
        have HL1 : Hid (topP φ n [0, 1] (i + 1) = rowP φ i L1 (n - (i + 1))) := Lib.hid (by rw [topP_step, hL1])
        have HR0 : Hid ([p, q] = rowP φ i L1 0) := Lib.hid (by rw [HTP.out, ← hL1]; rfl)
        clear hL1
        go_wp2
        go_loopw [6, 8] (fun tv jv wr => ∃ (j p q : Nat) (t : Row), j ≤ n - (i + 1) ∧ jv = .int .i64 ((i + 1 + j : Nat) : Int) ∧ tv = .slice t.a t.l.length t.c ∧ p < n ∧ q < n ∧ Hid ([p, q] = rowP φ i L1 j) ∧ Hid (Own2 B w wr t [p, q])) (fun _ jv _ => n - (intOf jv).toNat)
        case atStart => exact ⟨0, p, q, t, Nat.zero_le _, by go_num, rfl, hp, hq, HR0, HO⟩
        case round =>
          obtain ⟨j, p, q, t, hj, rfl, rfl, hp, hq, HR, HO⟩ := hrel
          by_cases hltj : i + 1 + j < n
          · obtain ⟨jj, hjj⟩ : ∃ jj, jj = i + 1 + j := ⟨_, rfl⟩
            rw [← hjj]
            have hjn : jj < n := by omega
            have hji : (jj : Int) < (n : Int) := by omega
            have hpi : (p : Int) < (n : Int) := by omega
            have hqi : (q : Int) < (n : Int) := by omega
            have hlen : t.l.length = 2 := by rw [HO.out.l]; rfl
            obtain ⟨bt, ot, hta, htc⟩ := up_row HO.out.rd HO.out.l (by simp)
            have t0 := htc wr (Below.refl _ _) 0 (by simp)
            have t1 := htc wr (Below.refl _ _) 1 (by simp)
            rw [Nat.add_zero, show [p, q].getD 0 0 = p from rfl] at t0
            rw [show [p, q].getD 1 0 = q from rfl] at t1
            obtain ⟨bi, oi, ci, hri⟩ := HROW.out i hlt
            obtain ⟨bp, op, cp, hrp⟩ := HROW.out p hp
            have d1 := (hri wr HO.out.bl).1
            obtain ⟨x, hx⟩ : ∃ x, x = cel T.con i jj := ⟨_, rfl⟩
            have d2 := (hri wr HO.out.bl).2 jj hjn
            rw [← hx] at d2
            have d3 := (hrp wr HO.out.bl).1
            obtain ⟨z, hz⟩ : ∃ x, x = cel T.con p q := ⟨_, rfl⟩
            have d4 := (hrp wr HO.out.bl).2 q hq
            rw [← hz] at d4
            have HSTP : Hid (rowP φ i L1 (j + 1) = if x > z then [i, jj] else [p, q]) := Lib.hid (by rw [rowP_step, ← HR.out, ← hjj, HSP.out p q i jj hp hq hlt hjn, ← hx, ← hz])
            have HTA3 := Lib.hid hta
            have HLE := Lib.hid hlen
            have t2 : t.a = some ⟨bt, ot, none⟩ := hta
            have HWRITE := Lib.hid (fun (u : World) (hu : DrewTo wr u) => HTWO.out u i jj (HO.out.draw hu).bl)
            rw [hlen, hta]
            have hJJ := Lib.hid hjj
            clear hx hz hri hrp htc hta hlen t2 hjj
            by_cases hxz : x > z
            · have HS : Hid (rowP φ i L1 (j + 1) = [i, jj]) := Lib.hid (by rw [HSTP.out, if_pos hxz])
              go_wp2
              go_quiet (fail)
              go_wp2
              clear d1 d2 d3 d4 t0 t1
              obtain ⟨t', ht', hO'⟩ := HWRITE.out _ ⟨_, rfl⟩
              have HO' := Lib.hid hO'
              have HT' := Lib.hid ht'
              clear hO' ht'
              go_roundw
              case rel => exact ⟨j + 1, i, jj, t', by omega, by first | (rw [hJJ.out]; go_num) | (have := hJJ.out; congr 1; omega) | (have := hJJ.out; go_num), HT'.out, hlt, hjn, Lib.hid HS.out.symm, HO'⟩
              case measure => simp [intOf]; omega
            · have HS : Hid (rowP φ i L1 (j + 1) = [p, q]) := Lib.hid (by rw [HSTP.out, if_neg hxz])
              go_wp2
              go_quiet (fail)
              go_wp2
              clear d1 d2 d3 d4 t0 t1
              go_roundw
              case rel => exact ⟨j + 1, p, q, t, by omega, by first | (rw [hJJ.out]; go_num) | (have := hJJ.out; congr 1; omega) | (have := hJJ.out; go_num), by rw [HLE.out, HTA3.out], hp, hq, Lib.hid HS.out.symm, Lib.hid (HO.out.draw ⟨_, rfl⟩)⟩
              case measure => simp [intOf]; omega
          · have hje : j = n - (i + 1) := by omega
            have hng : ¬ ((i + 1 + j : Nat) : Int) < (n : Int) := by omega
            have HS : Hid ([p, q] = topP φ n [0, 1] (i + 1)) := Lib.hid (by rw [HL1.out, ← hje]; exact HR.out)
            clear hje
            go_wp2
            go_roundw
            case rel => exact ⟨i + 1, p, q, t, by omega, by go_num, rfl, hp, hq, HS, HO⟩
            case measure => simp [intOf]; omega
      · obtain rfl : i = n := by omega
        have HO0 : Hid (Own2 B w wr t (farP T.con i L0 0)) := Lib.hid (by have := HO.out; rw [HTP.out, HTOP.out] at this; exact this)
        obtain ⟨V2, rfl⟩ : ∃ V, V = wr := ⟨_, rfl⟩
        clear HS0 HTP hp hq
        go_wp2
        go_loopw [6, 9, 10] (fun tv _ _ wr => ∃ (j : Nat) (t : Row), j + 2 ≤ k ∧ tv = .slice t.a t.l.length t.c ∧ Hid (Own2 B w wr t (farP T.con i L0 j))) (fun tv _ _ _ => k - (match tv with | .slice _ m _ => m | _ => 0))
        case atStart => exact ⟨0, t, by omega, rfl, HO0⟩
        case round =>
          obtain ⟨j, t', hj, rfl, HO⟩ := hrel
          have hlen : t'.l.length = j + 2 := by rw [HO.out.l, up_length, HLEN.out, H0.out.1]; omega
          by_cases hlt : j + 2 < k
          · have hltk : (t'.l.length : Int) < (k : Int) := by omega
            obtain ⟨L, hL⟩ : ∃ L, L = farP T.con i L0 j := ⟨_, rfl⟩
            have hLn : L.length = j + 2 := by rw [hL, HLEN.out, H0.out.1]; omega
            have hLlt : ∀ m ∈ L, m < T.R.length := by rw [hL, ← HN.out]; exact HLT.out j (by omega)
            have HTW := Lib.hid (HT.out.on HO.out.bl)
            have CN := Lib.hid (fun x (hx : x < i) => (by
              have := l11Nearest_any T t' L x wr HTW.out HG.out HO.out.rd (by rw [hL]; exact HO.out.l) hLlt (by rw [← HN.out]; exact hx) (by omega)
              rw [← HN.out, HTA.out] at this; exact this : Calls Try.prog 34 #[.slice (some ⟨bT, oT, none⟩) i T.c, .slice t'.a t'.l.length t'.c, .int .i64 (x : Int)] wr fun e w' => e = .returned (.int .i64 (gapF T.con x 198 L)) ∧ w' = wr))
            have CH := Lib.hid (fun (x : Nat) => (by have := l1Has_any t' (x : Int) wr HO.out.rd; rw [HO.out.l, ← hL, has_up, hL, ← HO.out.l] at this; rw [hL]; exact this : Calls Try.prog 33 #[.slice t'.a t'.l.length t'.c, .int .i64 (x : Int)] wr fun e w' => e = .returned (.bool (decide (x ∈ L))) ∧ w' = wr))
            have HST := Lib.hid (pickF_step T.con L)
            have HSO := Lib.hid (pickF_some T.con L)
            obtain ⟨m, hm, hmn, -⟩ := pickF_next (d := T.con) (L := L) (n := i) (by omega)
            have HME := Lib.hid hm
            have HLE := Lib.hid hL
            have HLEN2 := Lib.hid hlen
            clear hLlt hm hmn hL hlen
            go_wp2
            go_loopw [9, 10] (fun bv xv wr2 => ∃ x : Nat, x ≤ i ∧ xv = .int .i64 x ∧ bv = .int .i64 (pickF T.con L x) ∧ wr2 = wr) (fun _ xv _ => i - (intOf xv).toNat)
            case atStart => exact ⟨0, Nat.zero_le _, rfl, by rw [pickF_zero], rfl⟩
            case round =>
              obtain ⟨x, hx, rfl, rfl, hVr⟩ := hrel
              subst hVr
              by_cases hltx : x < i
              · have hltxi : (x : Int) < (i : Int) := by omega
                obtain ⟨v, hv⟩ : ∃ v, v = decide (x ∈ L) := ⟨_, rfl⟩
                have CH1 := Lib.hid (by have := CH.out x; rw [← hv] at this; exact this)
                have hst := HST.out x
                obtain ⟨bb, hbb⟩ : ∃ b, b = pickF T.con L x := ⟨_, rfl⟩
                rw [← hbb] at hst ⊢
                cases v with
                | true =>
                  have HS : Hid (pickF T.con L (x + 1) = bb) := Lib.hid (by rw [hst]; unfold pickS; rw [if_pos (of_decide_eq_true hv.symm)])
                  clear hst hbb hv
                  go_wp2_with fail
                  refine (show Calls _ _ _ _ _ from CH1.out).mono ?_
                  rintro e W ⟨rfl, rfl⟩
                  go_wp2
                  go_roundw
                  case rel => exact ⟨x + 1, by omega, by go_num, by rw [HS.out], by first | rfl | trivial⟩
                  case measure => simp [intOf]; omega
                | false =>
                  by_cases hb0 : bb < 0
                  · have HS : Hid (pickF T.con L (x + 1) = (x : Int)) := Lib.hid (by rw [hst]; unfold pickS; rw [if_neg (of_decide_eq_false hv.symm), if_pos (.inl hb0)])
                    clear hst hbb hv
                    go_wp2_with fail
                    refine (show Calls _ _ _ _ _ from CH1.out).mono ?_
                    rintro e W ⟨rfl, rfl⟩
                    go_wp2
                    go_roundw
                    case rel => exact ⟨x + 1, by omega, by go_num, by rw [HS.out], by first | rfl | trivial⟩
                    case measure => simp [intOf]; omega
                  · obtain ⟨bn, hbn, hbi⟩ : ∃ bn : Nat, bb = bn ∧ bn < i := by
                      rcases HSO.out x with ⟨h1, _⟩ | ⟨q, h1, h2, _⟩
                      · rw [← hbb] at h1; omega
                      · exact ⟨q, hbb.trans h1, by omega⟩
                    obtain ⟨y, hy⟩ : ∃ y, y = gapF T.con x 198 L := ⟨_, rfl⟩
                    obtain ⟨z, hz⟩ : ∃ y, y = gapF T.con bn 198 L := ⟨_, rfl⟩
                    have CN1 := Lib.hid (by have := CN.out x hltx; rw [← hy] at this; exact this)
                    have CN2 := Lib.hid (by have := CN.out bn hbi; rw [← hz] at this; exact this)
                    have HS : Hid (pickF T.con L (x + 1) = if y > z then (x : Int) else bb) := Lib.hid (by
                      rw [hst]; unfold pickS
                      rw [if_neg (of_decide_eq_false hv.symm), hbn, Int.toNat_natCast, ← hy, ← hz]
                      by_cases e : y > z
                      · rw [if_pos e, if_pos (.inr e)]
                      · rw [if_neg e, if_neg (fun hc => hc.elim (fun h => by omega) e)])
                    subst hbn
                    clear hst hbb hv hy hz hbi
                    by_cases hyz : y > z
                    · have HS2 : Hid (pickF T.con L (x + 1) = (x : Int)) := Lib.hid (by rw [HS.out, if_pos hyz])
                      go_wp2_with fail
                      refine (show Calls _ _ _ _ _ from CH1.out).mono ?_
                      rintro e W ⟨rfl, rfl⟩
                      go_wp2_with fail
                      refine (show Calls _ _ _ _ _ from CN1.out).mono ?_
                      rintro e W ⟨rfl, rfl⟩
                      go_wp2_with fail
                      refine (show Calls _ _ _ _ _ from CN2.out).mono ?_
                      rintro e W ⟨rfl, rfl⟩
                      go_wp2
                      go_roundw
                      case rel => exact ⟨x + 1, by omega, by go_num, by rw [HS2.out], by first | rfl | trivial⟩
                      case measure => simp [intOf]; omega
                    · have HS2 : Hid (pickF T.con L (x + 1) = (bn : Int)) := Lib.hid (by rw [HS.out, if_neg hyz])
                      go_wp2_with fail
                      refine (show Calls _ _ _ _ _ from CH1.out).mono ?_
                      rintro e W ⟨rfl, rfl⟩
                      go_wp2_with fail
                      refine (show Calls _ _ _ _ _ from CN1.out).mono ?_
                      rintro e W ⟨rfl, rfl⟩
                      go_wp2_with fail
                      refine (show Calls _ _ _ _ _ from CN2.out).mono ?_
                      rintro e W ⟨rfl, rfl⟩
                      go_wp2
                      go_roundw
                      case rel => exact ⟨x + 1, by omega, by go_num, by rw [HS2.out], by first | rfl | trivial⟩
                      case measure => simp [intOf]; omega
              · obtain rfl : x = i := by omega
                rw [HME.out]
                have HS : Hid (t'.l ++ [(m : Int)] = up (farP T.con x L0 (j + 1))) := Lib.hid (by rw [farP, ← HLE.out, HME.out, HO.out.l, ← HLE.out]; unfold up; rw [List.map_append]; simp)
                have hown := HO.out.own
                have hBs : B ≤ wr.heap.size := by rw [HBE.out]; exact HO.out.bl.size
                have ht7 : t'.l.length ≤ 7 := by rw [HLEN2.out]; omega
                go_wp2_with (at_builtin; refine wpList_append_own _ rfl _ _ 24 rfl B 3 i0 (.int .i64 0) 1 8 Try.underlying24 hi hz0 hz1 hz2 rfl (by decide) _ _ _ rfl (hown.alloc _) ⟨wr.heap.size, 0, none⟩ 1 1 [.int .i64 (m : Int)] rfl rfl (one_cell _ _ _) (by simp [Value.oneCell']) (by unfold maxLen; omega) (by omega) (by simp; omega) ?_; intro v' w1 hown' hgrow _)
                obtain ⟨t2, rfl, htl2, -, hti2⟩ := row_of_own (w := w1) (B := B) (e := 3) (v := v') (l := t'.l ++ [(m : Int)]) (by rw [List.length_append]; simpa [iv] using hown')
                have HO2 : Hid (Own2 B w w1 t2 (farP T.con x L0 (j + 1))) := Lib.hid ⟨htl2.trans HS.out, by rw [htl2, List.length_append]; rw [htl2, List.length_append] at hown'; simpa [iv] using hown', hti2.at, (HO.out.bl.alloc (by rw [← HBE.out]; exact hBs) _).grown hgrow (by simp; rw [← HBE.out]; omega) (fun j hj => by rw [← HBE.out]; exact (hown.lt j hj).1)⟩
                have hlen2 : t2.l.length = j + 3 := by rw [htl2, List.length_append, HLEN2.out]; rfl
                clear hown' hgrow hown hti2 htl2
                go_wp2
                go_roundw
                case rel => exact ⟨j + 1, t2, by omega, rfl, HO2⟩
                case measure => simp; have := HLEN2.out; omega
          · have hjk : j = k - 2 := by omega
            have hng : ¬ (t'.l.length : Int) < (k : Int) := by omega
            have HLR : Hid (t'.l = up (farP T.con i L0 (k - 2))) := Lib.hid (by rw [← hjk]; exact HO.out.l)
            clear hlen
            go_wp2
            go_ret2
            obtain ⟨t3, ht3, htl3, hto3, hti3⟩ := row_of_own HO.out.own
            exact ⟨t3, congrArg (fun v => Ending.returned (.tuple #[v, .bool true])) ht3, htl3.trans (HLR.out.trans HRES2.out), hto3, hti3.wide (by rw [HBE.out]; exact Nat.le_refl _) (Nat.le_refl _), HO.out.bl⟩

theorem farthestFirst_pair {X : Prop} (T : Tab) (k : Int) (_ : X) (_ : T.Small) : ∃ (l : List Int) (b : Bool) (_ : l.length ≤ 1048576),
    (∀ (Q : Tab) (W : World), Q.At W → Q.con = T.con → Calls Try.prog 16 #[.slice Q.a Q.R.length Q.c, .int .i64 k] W (PInts l b W)) ∧
    (∀ (Q : Tab) (W : World), Q.At W → Q.con = T.con → Calls Try.prog 17 #[.slice Q.a Q.R.length Q.c, .int .i64 k] W (PInts l b W)) := by
  obtain ⟨l, b, h, hl⟩ := ff_some T.con k
  exact ⟨l, b, hl, fun Q W hQ hq => specFF_any Q k W hQ l b (by rw [hq]; exact h), fun Q W hQ hq => implFF_any Q k W hQ l b (by rw [hq]; exact h)⟩
end Go.Proofs.Ytddnadipleknoaa
