/- IsSubmodular: both sides answer alike. Condition: the arguments read as such. -/
import Derived.Test.YtmddijibplkngaaPairs
namespace Go.Proofs.Ytmddijibplkngaa
open Go.RowKit Go.Shelf

set_option maxRecDepth 16000 in
set_option maxHeartbeats 1500000 in
theorem holdsS_any (n : Int) (r : Row) (g : Nat) (w : World) (hr : r.At w) (hbx : w.cell? ⟨g, 0, none⟩ = some (.slice r.a r.l.length r.c)) (B : Bool) (hB : B = tabB n r.l) (V : Bool) (hV : V = (B && pairsB r.l.length (sub1 r.l))) :
    Calls Try.prog 54 #[.int .i64 n, .slice r.a r.l.length r.c, .func (.func 56) #[] #[.pointer (some ⟨g, 0, none⟩)]] w fun e w' => e = .returned (.tuple #[.bool V, .bool B]) ∧ DrewTo w w' := by
  have CT := Lib.hid (by have := isTable_any n r w hr; rw [← hB] at this; exact this)
  have hli := rowLim hr
  cases B with
  | false =>
    obtain rfl : V = false := by rw [hV]; rfl
    clear hV hB
    go_enter Try.func54, Try.ntmps54
    go_wp2_with fail
    refine (show Calls _ _ _ _ _ from CT.out).mono ?_
    rintro e W1 ⟨rfl, rfl⟩
    go_wp2
    go_ret2
    exact ⟨rfl, DrewTo.refl _⟩
  | true =>
    obtain ⟨m, rfl, hm, hlen, hbd⟩ := tabB_nat hB.symm
    obtain ⟨hp1, hp2⟩ := pow7 hm
    obtain ⟨q, hq⟩ : ∃ q, q = 2 ^ m := ⟨_, rfl⟩
    rw [← hq] at hlen hp1 hp2
    obtain ⟨b, o, ha, _, hc⟩ := rowCells hr (by omega)
    rw [ha, hlen] at hbx
    have HH : Hid (∀ u, DrewTo w u → Held1 u g r b o q) := Lib.hid fun u hu => ⟨by rw [hu.cell]; exact hbx, fun k hk => by rw [hu.cell]; exact hc k (by omega)⟩
    have HBD : Hid (∀ k, -1000000 ≤ r.l.getD k 0 ∧ r.l.getD k 0 ≤ 1000000) := Lib.hid fun k => by
      by_cases hk : k < r.l.length
      · rw [getD_at hk]; exact hbd _ (List.getElem_mem hk)
      · rw [List.getD_eq_getElem?_getD, List.getElem?_eq_none (by omega)]; simp
    have HV : Hid (V = pairsB q (sub1 r.l)) := Lib.hid (by rw [hV, hlen]; rfl)
    have HQ := Lib.hid hq
    have hqi : (q : Int) ≤ 128 := by omega
    rw [ha, hlen] at CT ⊢
    clear hV hB hr hbx hq ha hlen hc hbd
    go_enter Try.func54, Try.ntmps54
    go_wp2_with fail
    refine (show Calls _ _ _ _ _ from CT.out).mono ?_
    rintro e W1 ⟨rfl, rfl⟩
    go_wp2
    go_loopw [8, 9, 16, 21] (fun _ _ av _ wr => ∃ x : Nat, x ≤ q ∧ av = .int .i64 x ∧ DrewTo W1 wr ∧ Hid (∀ x', x' < x → ∀ y, y < q → sub1 r.l x' y = true)) (fun _ _ av _ _ => q - (intOf av).toNat)
    case atStart => exact ⟨0, Nat.zero_le _, rfl, DrewTo.refl _, Lib.hid fun i' h => by omega⟩
    case round =>
      obtain ⟨x, hx, rfl, hdw, HS⟩ := hrel
      obtain ⟨V1, rfl⟩ : ∃ V1, V1 = wr := ⟨_, rfl⟩
      by_cases hlt : x < q
      · have hlti : (x : Int) < (q : Int) := by omega
        have HD := Lib.hid hdw
        clear hdw
        go_wp2
        go_loopw [9, 21] (fun _ bv wr => ∃ y : Nat, y ≤ q ∧ bv = .int .i64 y ∧ DrewTo W1 wr ∧ Hid (∀ y', y' < y → sub1 r.l x y' = true)) (fun _ bv _ => q - (intOf bv).toNat)
        case atStart => exact ⟨0, Nat.zero_le _, rfl, HD.out, Lib.hid fun i' h => by omega⟩
        case round =>
          obtain ⟨y, hy, rfl, hdw, HT⟩ := hrel
          by_cases hlt2 : y < q
          · have hlti2 : (y : Int) < (q : Int) := by omega
            obtain ⟨v, hv⟩ : ∃ v, v = sub1 r.l x y := ⟨_, rfl⟩
            have cn := sub1_any r g b o m q x y wr (HH.out _ hdw) HQ.out hm hlt hlt2 HBD.out
            rw [← hv] at cn
            have CN := Lib.hid cn
            have HVV := Lib.hid hv
            have HDW := Lib.hid hdw
            clear hv cn hdw
            go_wp2_with fail
            refine (show Calls _ _ _ _ _ from CN.out).mono ?_
            rintro e W2 ⟨rfl, hd2⟩
            cases v with
            | false =>
              have HE : Hid (V = false) := Lib.hid (by rw [HV.out]; exact pairs_out hlt hlt2 HVV.out.symm)
              have HDD := Lib.hid hd2
              clear hd2
              go_wp2
              go_ret2
              exact ⟨by rw [HE.out]; rfl, drewTrans HDW.out HDD.out⟩
            | true =>
              have HT2 : Hid (∀ y', y' < y + 1 → sub1 r.l x y' = true) := Lib.hid fun y' h' => by
                by_cases e : y' = y
                · rw [e]; exact HVV.out.symm
                · exact HT.out y' (by omega)
              have HDD := Lib.hid (drewTrans HDW.out hd2)
              clear hd2
              go_wp2
              go_roundw
              case rel => exact ⟨y + 1, by omega, by go_num, HDD.out, HT2⟩
              case measure => simp [intOf]; omega
          · obtain rfl : y = q := by omega
            have HS2 : Hid (∀ x', x' < x + 1 → ∀ y', y' < y → sub1 r.l x' y' = true) := Lib.hid fun x' h' y' hy' => by
              by_cases e : x' = x
              · rw [e]; exact HT.out y' hy'
              · exact HS.out x' (by omega) y' hy'
            go_wp2
            go_roundw
            case rel => exact ⟨x + 1, by omega, by go_num, hdw, HS2⟩
            case measure => simp [intOf]; omega
      · obtain rfl : x = q := by omega
        have HE : Hid (V = true) := Lib.hid (by rw [HV.out]; exact pairs_in HS.out)
        have HD := Lib.hid hdw
        clear hdw
        go_wp2
        go_ret2
        exact ⟨by rw [HE.out]; rfl, HD.out⟩

set_option maxRecDepth 16000 in
set_option maxHeartbeats 1500000 in
theorem implIsSubmodular_any (n : Int) (r : Row) (w : World) (hr : r.At w) (B : Bool) (hB : B = tabB n r.l) (V : Bool) (hV : V = (B && pairsB r.l.length (sub1 r.l))) :
    Calls Try.prog 28 #[.int .i64 n, .slice r.a r.l.length r.c] w (PBool2 V B w) := by
  obtain ⟨wA, hA⟩ : ∃ u, u = w.alloc (.cells #[.slice r.a r.l.length r.c] 22) := ⟨_, rfl⟩
  have hb : Below w.heap.size w wA := by rw [hA]; exact below_alloc _ _
  have c0 : wA.cell? ⟨w.heap.size, 0, none⟩ = some (.slice r.a r.l.length r.c) := by
    rw [hA]; exact cellNew _ _ _
  have CH := Lib.hid (holdsS_any n r w.heap.size wA (hr.on hb) c0 B hB V hV)
  have HA := Lib.hid hA
  rw [hA] at c0
  clear hr hA hB hV
  unfold PBool2
  go_enter Try.func28, Try.ntmps28
  go_wp2_with fail
  rw [← HA.out]
  refine (show Calls _ _ _ _ _ from CH.out).mono ?_
  rintro e W1 ⟨rfl, hd⟩
  go_wp2
  go_ret2
  exact ⟨rfl, hb.trans (hd.below.mono hb.size)⟩

set_option maxRecDepth 16000 in
set_option maxHeartbeats 1500000 in
theorem specIsSubmodular_any (n : Int) (r : Row) (w : World) (hr : r.At w) (B : Bool) (hB : B = tabB n r.l) (V : Bool) (hV : V = (B && pairsB r.l.length (sub1 r.l))) :
    Calls Try.prog 27 #[.int .i64 n, .slice r.a r.l.length r.c] w (PBool2 V B w) := by
  have CT := Lib.hid (by have := l8Table_any n r w hr; rw [← hB] at this; exact this)
  have hli := rowLim hr
  unfold PBool2
  cases B with
  | false =>
    obtain rfl : V = false := by rw [hV]; rfl
    clear hV hB
    go_enter Try.func27, Try.ntmps27
    go_wp2_with fail
    refine (show Calls _ _ _ _ _ from CT.out).mono ?_
    rintro e W1 ⟨rfl, rfl⟩
    go_wp2
    go_ret2
    exact ⟨rfl, Below.refl _ _⟩
  | true =>
    obtain ⟨m, rfl, hm, hlen, hbd⟩ := tabB_nat hB.symm
    obtain ⟨hp1, hp2⟩ := pow7 hm
    obtain ⟨q, hq⟩ : ∃ q, q = 2 ^ m := ⟨_, rfl⟩
    rw [← hq] at hlen hp1 hp2
    obtain ⟨b, o, ha, _, hc⟩ := rowCells hr (by omega)
    have HC : Hid (∀ u, DrewTo w u → ∀ k, k < q → u.cell? ⟨b, o + k, none⟩ = some (.int .i64 (r.l.getD k 0))) := Lib.hid fun u hu k hk => by rw [hu.cell]; exact hc k (by omega)
    have HBD : Hid (∀ k, -1000000 ≤ r.l.getD k 0 ∧ r.l.getD k 0 ≤ 1000000) := Lib.hid fun k => by
      by_cases hk : k < r.l.length
      · rw [getD_at hk]; exact hbd _ (List.getElem_mem hk)
      · rw [List.getD_eq_getElem?_getD, List.getElem?_eq_none (by omega)]; simp
    have HV : Hid (V = pairsB q (sub1 r.l)) := Lib.hid (by rw [hV, hlen]; rfl)
    have HQ := Lib.hid hq
    have hqi : (q : Int) ≤ 128 := by omega
    rw [ha, hlen] at CT ⊢
    clear hV hB hr hq ha hlen hc hbd
    go_enter Try.func27, Try.ntmps27
    go_wp2_with fail
    refine (show Calls _ _ _ _ _ from CT.out).mono ?_
    rintro e W1 ⟨rfl, rfl⟩
    go_wp2
    go_loopw [6, 7] (fun av _ wr => ∃ x : Nat, x ≤ q ∧ av = .int .i64 x ∧ DrewTo W1 wr ∧ Hid (∀ x', x' < x → ∀ y, y < q → sub1 r.l x' y = true)) (fun av _ _ => q - (intOf av).toNat)
    case atStart => exact ⟨0, Nat.zero_le _, rfl, DrewTo.refl _, Lib.hid fun i' h => by omega⟩
    case round =>
      obtain ⟨x, hx, rfl, hdw, HS⟩ := hrel
      obtain ⟨V1, rfl⟩ : ∃ V1, V1 = wr := ⟨_, rfl⟩
      by_cases hlt : x < q
      · have hlti : (x : Int) < (q : Int) := by omega
        have HD := Lib.hid hdw
        clear hdw
        go_wp2
        go_loopw [7] (fun bv wr => ∃ y : Nat, y ≤ q ∧ bv = .int .i64 y ∧ DrewTo W1 wr ∧ Hid (∀ y', y' < y → sub1 r.l x y' = true)) (fun bv _ => q - (intOf bv).toNat)
        case atStart => exact ⟨0, Nat.zero_le _, rfl, HD.out, Lib.hid fun i' h => by omega⟩
        case round =>
          obtain ⟨y, hy, rfl, hdw, HT⟩ := hrel
          by_cases hlt2 : y < q
          · have hlti2 : (y : Int) < (q : Int) := by omega
            have HDW := Lib.hid hdw
            have HGO : Hid (sub1 r.l x y = true → ∀ y', y' < y + 1 → sub1 r.l x y' = true) := Lib.hid fun h y' h' => by
              by_cases e : y' = y
              · rw [e]; exact h
              · exact HT.out y' (by omega)
            have HNO : Hid (sub1 r.l x y = false → V = false) := Lib.hid fun h => by rw [HV.out]; exact pairs_out hlt hlt2 h
            obtain ⟨d, hd⟩ : ∃ d, d = x &&& y := ⟨_, rfl⟩
            obtain ⟨f, hf⟩ : ∃ f, f = x ||| y := ⟨_, rfl⟩
            have hdq : d < q := by rw [hd, HQ.out]; exact and_in (by rw [← HQ.out]; exact hlt)
            have hfq : f < q := by rw [hf, HQ.out]; exact or_in (by rw [← HQ.out]; exact hlt) (by rw [← HQ.out]; exact hlt2)
            have hand : bits BinOp.and IntKind.i64 (x : Int) (y : Int) = (d : Int) := by rw [hd]; exact and_place (by omega) (by omega)
            have hor : bits BinOp.or IntKind.i64 (x : Int) (y : Int) = (f : Int) := by rw [hf]; exact or_place (by omega) (by omega)
            have hc1 := HC.out wr hdw x hlt
            have hc2 := HC.out wr hdw y hlt2
            have hc3 := HC.out wr hdw d hdq
            have hc4 := HC.out wr hdw f hfq
            have b1 := HBD.out x
            have b2 := HBD.out y
            have b3 := HBD.out d
            have b4 := HBD.out f
            obtain ⟨p, hp⟩ : ∃ p, p = r.l.getD x 0 := ⟨_, rfl⟩
            obtain ⟨s, hs⟩ : ∃ s, s = r.l.getD y 0 := ⟨_, rfl⟩
            obtain ⟨t, ht⟩ : ∃ t, t = r.l.getD d 0 := ⟨_, rfl⟩
            obtain ⟨z, hz⟩ : ∃ z, z = r.l.getD f 0 := ⟨_, rfl⟩
            have HM : Hid (sub1 r.l x y = decide (p + s ≥ t + z)) := Lib.hid (by rw [hp, hs, ht, hz, hd, hf]; rfl)
            rw [← hp] at hc1 b1
            rw [← hs] at hc2 b2
            rw [← ht] at hc3 b3
            rw [← hz] at hc4 b4
            have w1 : IntKind.i64.wrap (p + s) = p + s := IntWalk.i64_in _ (by omega)
            have w2 : IntKind.i64.wrap (t + z) = t + z := IntWalk.i64_in _ (by omega)
            have i1 : (d : Int) < (q : Int) := by omega
            have i2 : (f : Int) < (q : Int) := by omega
            clear hd hf hp hs ht hz hdw b1 b2 b3 b4
            by_cases hps : p + s < t + z
            · have HE : Hid (V = false) := Lib.hid (HNO.out (by rw [HM.out]; exact decide_eq_false (by omega)))
              go_wp2
              go_quiet (fail)
              go_wp2
              go_ret2
              exact ⟨by rw [HE.out]; rfl, (HDW.out.more _).below⟩
            · have HG := Lib.hid (HGO.out (by rw [HM.out]; exact decide_eq_true (by omega)))
              go_wp2
              go_quiet (fail)
              go_wp2
              go_roundw
              case rel => exact ⟨y + 1, by omega, by go_num, HDW.out.more _, HG⟩
              case measure => simp [intOf]; omega
          · obtain rfl : y = q := by omega
            have HS2 : Hid (∀ x', x' < x + 1 → ∀ y', y' < y → sub1 r.l x' y' = true) := Lib.hid fun x' h' y' hy' => by
              by_cases e : x' = x
              · rw [e]; exact HT.out y' hy'
              · exact HS.out x' (by omega) y' hy'
            go_wp2
            go_roundw
            case rel => exact ⟨x + 1, by omega, by go_num, hdw, HS2⟩
            case measure => simp [intOf]; omega
      · obtain rfl : x = q := by omega
        have HE : Hid (V = true) := Lib.hid (by rw [HV.out]; exact pairs_in HS.out)
        have HD := Lib.hid hdw
        clear hdw
        go_wp2
        go_ret2
        exact ⟨by rw [HE.out]; rfl, HD.out.below⟩

theorem isSubmodular_pair (n : Int) (r : Row) {Q : Prop} (_ : Q) (_ : r.l.length ≤ 1048576) : ∃ (v b : Bool),
    (∀ (t : Row) (W : World), t.At W → t.l = r.l → Calls Try.prog 27 #[.int .i64 n, .slice t.a t.l.length t.c] W (PBool2 v b W)) ∧
    (∀ (t : Row) (W : World), t.At W → t.l = r.l → Calls Try.prog 28 #[.int .i64 n, .slice t.a t.l.length t.c] W (PBool2 v b W)) := by
  refine ⟨tabB n r.l && pairsB r.l.length (sub1 r.l), tabB n r.l, fun t W ht hl => specIsSubmodular_any n t W ht _ (by rw [hl]) _ (by rw [hl]), fun t W ht hl => implIsSubmodular_any n t W ht _ (by rw [hl]) _ (by rw [hl])⟩
end Go.Proofs.Ytmddijibplkngaa
