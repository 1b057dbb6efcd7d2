/- The contracts of ParseInt, of the program and of the model, and of the model's l1Read: the number of a text and true, or 0 and false. Condition: the text has at most 1048576 bytes; the library's variables read as its text lays them. -/
import Derived.Test.YtfjnfgeielgihaaDoorRows
import Derived.Test.YtfjnfgeielgihaaDoorPlainRead
import Derived.Test.YtfjnfgeielgihaaDoorFmt
import Derived.Test.YtfjnfgeielgihaaDoorPlainFirst
import Derived.Test.YtfjnfgeielgihaaDoorStands
namespace Go.Proofs.YtfjnfgeielgihaaDoor
open Go.RowKit

theorem read_exit {s : ByteArray} (h : readF s = (0, false)) : Ending.returned (.tuple #[.int .i64 0, .bool false]) = .returned (.tuple #[.int .i64 (readF s).1, .bool (readF s).2]) := by rw [h]
theorem read_found {s : ByteArray} {n : Int} (h : readF s = (n, true)) : Ending.returned (.tuple #[.int .i64 n, .bool true]) = .returned (.tuple #[.int .i64 (readF s).1, .bool (readF s).2]) := by rw [h]

/-- The end of the reading: the text of the number, against the text that came in. -/
theorem num_back (n : Int) (s : ByteArray) (h1 : -9999999 ≤ n) (h2 : n ≤ 9999999) (he : numI n = s) (W : World) : Calls Tryd.prog 25 #[.int .i64 n] W fun e w' => e = .returned (.string s) ∧ ∃ k, w' = W.drewN k := by
  have := l1Num_any n W h1 h2; rw [he] at this; exact this

set_option maxHeartbeats 1000000 in
/-- Where the text begins with a minus and has more than one byte. -/
theorem l1Read_neg (s : ByteArray) (w : World) (hs : s.size ≤ 1048576) (h1 : 1 < s.size) (h45 : s[0] = 45) :
    Calls Tryd.prog 29 #[.string s] w fun e w' => e = .returned (.tuple #[.int .i64 (readF s).1, .bool (readF s).2]) ∧ ∃ k, w' = w.drewN k := by
  have HG : Hid (∀ n, Good s n → n < 0) := Lib.hid fun n hn => by
    by_cases hneg : n < 0
    · exact hneg
    · have := (good_pos hn (by omega)).2.2.1 0 (by omega)
      rw [h45] at this; unfold Dig at this; have e : (45 : UInt8).toNat = 45 := rfl; omega
  have HP : Hid (∀ n, Good s n → 1 ≤ (s.extract 1 s.size).size ∧ (s.extract 1 s.size).size ≤ 6 ∧ (∀ k (h : k < (s.extract 1 s.size).size), Dig (s.extract 1 s.size)[k]) ∧ (natVal (s.extract 1 s.size).data.toList : Int) = -n) := Lib.hid fun n hn => (good_neg hn (HG.out n hn)).2.2
  obtain ⟨t, ht⟩ : ∃ t, t = s.extract 1 s.size := ⟨_, rfl⟩
  have hts : t.size = s.size - 1 := by rw [ht, ByteArray.size_extract]; omega
  have hsl : ∀ W : World, (Instr.slice 9 (.string s) (some (.int .i64 1)) none none).run Tryd.prog W = .ok (.string t) W := by
    intro W
    subst ht
    have hle : (1 : Int) ≤ s.size := by omega
    go_simp
  rw [← ht] at HP
  have hc := byte_eq h45
  have hc' : ((s[0].toNat : Int) == 45) = true := hc
  have h1i : (1 : Int) < s.size := by omega
  have htl : (t.size : Int) < s.size := by omega
  have hti : (t.size : Int) ≤ 1048576 := by omega
  clear ht h45 hc HG hts
  by_cases hlen : 1 ≤ t.size ∧ t.size ≤ 6
  · obtain ⟨hl1, hl2⟩ := hlen
    go_enter Tryd.func29, Tryd.ntmps29
    go_wp2_with (go_at_call 24; refine (l1In_yes _ _ _ _ (by omega) (by omega)).mono ?_; rintro e w' ⟨rfl, rfl⟩)
    go_loop [5, 6] (fun n i => ∃ k v : Nat, k ≤ t.size ∧ i = .int .i64 k ∧ n = .int .i64 v ∧ v ≤ 999999 ∧ (v = natVal (t.data.toList.take k) ∧ ∀ c ∈ t.data.toList.take k, Dig c)) (fun _ i => t.size - (intOf i).toNat)
    case atStart => exact ⟨0, 0, Nat.zero_le _, rfl, rfl, by omega, rfl, by simp⟩
    case round =>
      obtain ⟨k, v, hk, rfl, rfl, hv, hval⟩ := hrel
      have HV := Lib.hid hval
      clear hval
      by_cases hlt : k < t.size
      · by_cases hlow : t[k].toNat < 48
        · have a1 : (t[k].toNat : Int) < 48 := by omega
          have HB : Hid (readF s = (0, false)) := Lib.hid (readF_bad fun n hn => by have := (HP.out n hn).2.2.1 k hlt; unfold Dig at this; omega)
          clear hlow
          go_wp2
          go_ret2
          exact ⟨read_exit HB.out, 0, rfl⟩
        · by_cases hhi : 57 < t[k].toNat
          · have a1 : ¬ (t[k].toNat : Int) < 48 := by omega
            have a2 : (57 : Int) < (t[k].toNat : Int) := by omega
            have HB : Hid (readF s = (0, false)) := Lib.hid (readF_bad fun n hn => by have := (HP.out n hn).2.2.1 k hlt; unfold Dig at this; omega)
            clear hlow hhi
            go_wp2
            go_ret2
            exact ⟨read_exit HB.out, 0, rfl⟩
          · have a1 : ¬ (t[k].toNat : Int) < 48 := by omega
            have a2 : ¬ (57 : Int) < (t[k].toNat : Int) := by omega
            have HD : Hid (∀ c ∈ t.data.toList.take (k + 1), Dig c) := Lib.hid (digs_snoc hlt HV.out.2 ⟨by omega, by omega⟩)
            have HS : Hid (10 * v + (t[k].toNat - 48) = natVal (t.data.toList.take (k + 1))) := Lib.hid (by rw [val_step t k hlt, HV.out.1])
            have HB : Hid (natVal (t.data.toList.take (k + 1)) ≤ 999999) := Lib.hid (val_bd (by omega) HD.out)
            clear hlow hhi
            go_wp2
            go_round
            case rel => exact ⟨k + 1, 10 * v + (t[k].toNat - 48), by omega, by go_num, by go_num, by have := HS.out; have := HB.out; omega, HS.out, HD.out⟩
            case measure => simp [intOf]; omega
      · obtain rfl : k = t.size := by omega
        have HF : Hid (v = natVal t.data.toList) := Lib.hid (by rw [HV.out.1, val_all])
        by_cases he : numI (-(v : Int)) = s
        · have HB : Hid (readF s = (-(v : Int), true)) := Lib.hid (readF_good ⟨by omega, by omega, he⟩)
          have cn := num_back (-(v : Int)) s (by omega) (by omega) he
          clear he
          go_wp2_with (go_at_call 25; refine (cn _).mono ?_; rintro e w' ⟨rfl, j, rfl⟩)
          go_ret2
          exact ⟨read_found HB.out, _, rfl⟩
        · have hne := str_ne he
          have HB : Hid (readF s = (0, false)) := Lib.hid (readF_bad fun n hn => he (by have := (HP.out n hn).2.2.2; rw [← HF.out] at this; rw [show -(v : Int) = n by omega]; exact hn.2.2))
          have cn := fun W => l1Num_any (-(v : Int)) W (by omega) (by omega)
          clear he
          go_wp2_with (go_at_call 25; refine (cn _).mono ?_; rintro e w' ⟨rfl, j, rfl⟩)
          go_ret2
          exact ⟨read_exit HB.out, _, rfl⟩
  · have HB : Hid (readF s = (0, false)) := Lib.hid (readF_bad fun n hn => hlen ⟨(HP.out n hn).1, (HP.out n hn).2.1⟩)
    have hl' : (t.size : Int) < 1 ∨ (6 : Int) < t.size := by omega
    have HL := Lib.hid hl'
    clear hlen hl'
    go_enter Tryd.func29, Tryd.ntmps29
    go_wp2_with (go_at_call 24; refine (l1In_no _ _ _ _ HL.out).mono ?_; rintro e w' ⟨rfl, rfl⟩)
    go_ret2
    exact ⟨read_exit HB.out, 0, rfl⟩

set_option maxHeartbeats 1000000 in
/-- Where the text has at most one byte, or does not begin with a minus. -/
theorem l1Read_pos (s : ByteArray) (w : World) (hs : s.size ≤ 1048576) (hcase : ¬ 1 < s.size ∨ ∃ _ : 1 < s.size, s[0] ≠ 45) :
    Calls Tryd.prog 29 #[.string s] w fun e w' => e = .returned (.tuple #[.int .i64 (readF s).1, .bool (readF s).2]) ∧ ∃ k, w' = w.drewN k := by
  have HG : Hid (∀ n, Good s n → 0 ≤ n) := Lib.hid fun n hn => by
    by_cases hneg : n < 0
    · obtain ⟨h1, h2, _⟩ := good_neg hn hneg
      rcases hcase with h | ⟨_, h⟩
      · exact absurd h1 h
      · exact absurd h2 h
    · omega
  have HP : Hid (∀ n, Good s n → 1 ≤ s.size ∧ s.size ≤ 6 ∧ (∀ k (h : k < s.size), Dig s[k]) ∧ (natVal s.data.toList : Int) = n) := Lib.hid fun n hn => good_pos hn (HG.out n hn)
  have hti : (s.size : Int) ≤ 1048576 := by omega
  clear HG
  by_cases hlen : 1 ≤ s.size ∧ s.size ≤ 6
  · obtain ⟨hl1, hl2⟩ := hlen
    rcases hcase with h | ⟨h, h45⟩
    · have h1i : ¬ (1 : Int) < s.size := by omega
      clear h
      go_enter Tryd.func29, Tryd.ntmps29
      go_wp2_with (go_at_call 24; refine (l1In_yes _ _ _ _ (by omega) (by omega)).mono ?_; rintro e w' ⟨rfl, rfl⟩)
      go_loop [5, 6] (fun n i => ∃ k v : Nat, k ≤ s.size ∧ i = .int .i64 k ∧ n = .int .i64 v ∧ v ≤ 999999 ∧ (v = natVal (s.data.toList.take k) ∧ ∀ c ∈ s.data.toList.take k, Dig c)) (fun _ i => s.size - (intOf i).toNat)
      case atStart => exact ⟨0, 0, Nat.zero_le _, rfl, rfl, by omega, rfl, by simp⟩
      case round =>
        obtain ⟨k, v, hk, rfl, rfl, hv, hval⟩ := hrel
        have HV := Lib.hid hval
        clear hval
        by_cases hlt : k < s.size
        · by_cases hlow : s[k].toNat < 48
          · have a1 : (s[k].toNat : Int) < 48 := by omega
            have HB : Hid (readF s = (0, false)) := Lib.hid (readF_bad fun n hn => by have := (HP.out n hn).2.2.1 k hlt; unfold Dig at this; omega)
            clear hlow
            go_wp2
            go_ret2
            exact ⟨read_exit HB.out, 0, rfl⟩
          · by_cases hhi : 57 < s[k].toNat
            · have a1 : ¬ (s[k].toNat : Int) < 48 := by omega
              have a2 : (57 : Int) < (s[k].toNat : Int) := by omega
              have HB : Hid (readF s = (0, false)) := Lib.hid (readF_bad fun n hn => by have := (HP.out n hn).2.2.1 k hlt; unfold Dig at this; omega)
              clear hlow hhi
              go_wp2
              go_ret2
              exact ⟨read_exit HB.out, 0, rfl⟩
            · have a1 : ¬ (s[k].toNat : Int) < 48 := by omega
              have a2 : ¬ (57 : Int) < (s[k].toNat : Int) := by omega
              have HD : Hid (∀ c ∈ s.data.toList.take (k + 1), Dig c) := Lib.hid (digs_snoc hlt HV.out.2 ⟨by omega, by omega⟩)
              have HS : Hid (10 * v + (s[k].toNat - 48) = natVal (s.data.toList.take (k + 1))) := Lib.hid (by rw [val_step s k hlt, HV.out.1])
              have HB : Hid (natVal (s.data.toList.take (k + 1)) ≤ 999999) := Lib.hid (val_bd (by omega) HD.out)
              clear hlow hhi
              go_wp2
              go_round
              case rel => exact ⟨k + 1, 10 * v + (s[k].toNat - 48), by omega, by go_num, by go_num, by have := HS.out; have := HB.out; omega, HS.out, HD.out⟩
              case measure => simp [intOf]; omega
        · obtain rfl : k = s.size := by omega
          have HF : Hid (v = natVal s.data.toList) := Lib.hid (by rw [HV.out.1, val_all])
          by_cases he : numI (v : Int) = s
          · have HB : Hid (readF s = ((v : Int), true)) := Lib.hid (readF_good ⟨by omega, by omega, he⟩)
            have cn := num_back (v : Int) s (by omega) (by omega) he
            clear he
            go_wp2_with (go_at_call 25; refine (cn _).mono ?_; rintro e w' ⟨rfl, j, rfl⟩)
            go_ret2
            exact ⟨read_found HB.out, _, rfl⟩
          · have hne := str_ne he
            have HB : Hid (readF s = (0, false)) := Lib.hid (readF_bad fun n hn => he (by have := (HP.out n hn).2.2.2; rw [← HF.out] at this; rw [show (v : Int) = n by omega]; exact hn.2.2))
            have cn := fun W => l1Num_any (v : Int) W (by omega) (by omega)
            clear he
            go_wp2_with (go_at_call 25; refine (cn _).mono ?_; rintro e w' ⟨rfl, j, rfl⟩)
            go_ret2
            exact ⟨read_exit HB.out, _, rfl⟩
    · have h1i : (1 : Int) < s.size := by omega
      have hc' : ((s[0].toNat : Int) == 45) = false := byte_ne h45
      clear h45
      go_enter Tryd.func29, Tryd.ntmps29
      go_wp2_with (go_at_call 24; refine (l1In_yes _ _ _ _ (by omega) (by omega)).mono ?_; rintro e w' ⟨rfl, rfl⟩)
      go_loop [5, 6] (fun n i => ∃ k v : Nat, k ≤ s.size ∧ i = .int .i64 k ∧ n = .int .i64 v ∧ v ≤ 999999 ∧ (v = natVal (s.data.toList.take k) ∧ ∀ c ∈ s.data.toList.take k, Dig c)) (fun _ i => s.size - (intOf i).toNat)
      case atStart => exact ⟨0, 0, Nat.zero_le _, rfl, rfl, by omega, rfl, by simp⟩
      case round =>
        obtain ⟨k, v, hk, rfl, rfl, hv, hval⟩ := hrel
        have HV := Lib.hid hval
        clear hval
        by_cases hlt : k < s.size
        · by_cases hlow : s[k].toNat < 48
          · have a1 : (s[k].toNat : Int) < 48 := by omega
            have HB : Hid (readF s = (0, false)) := Lib.hid (readF_bad fun n hn => by have := (HP.out n hn).2.2.1 k hlt; unfold Dig at this; omega)
            clear hlow
            go_wp2
            go_ret2
            exact ⟨read_exit HB.out, 0, rfl⟩
          · by_cases hhi : 57 < s[k].toNat
            · have a1 : ¬ (s[k].toNat : Int) < 48 := by omega
              have a2 : (57 : Int) < (s[k].toNat : Int) := by omega
              have HB : Hid (readF s = (0, false)) := Lib.hid (readF_bad fun n hn => by have := (HP.out n hn).2.2.1 k hlt; unfold Dig at this; omega)
              clear hlow hhi
              go_wp2
              go_ret2
              exact ⟨read_exit HB.out, 0, rfl⟩
            · have a1 : ¬ (s[k].toNat : Int) < 48 := by omega
              have a2 : ¬ (57 : Int) < (s[k].toNat : Int) := by omega
              have HD : Hid (∀ c ∈ s.data.toList.take (k + 1), Dig c) := Lib.hid (digs_snoc hlt HV.out.2 ⟨by omega, by omega⟩)
              have HS : Hid (10 * v + (s[k].toNat - 48) = natVal (s.data.toList.take (k + 1))) := Lib.hid (by rw [val_step s k hlt, HV.out.1])
              have HB : Hid (natVal (s.data.toList.take (k + 1)) ≤ 999999) := Lib.hid (val_bd (by omega) HD.out)
              clear hlow hhi
              go_wp2
              go_round
              case rel => exact ⟨k + 1, 10 * v + (s[k].toNat - 48), by omega, by go_num, by go_num, by have := HS.out; have := HB.out; omega, HS.out, HD.out⟩
              case measure => simp [intOf]; omega
        · obtain rfl : k = s.size := by omega
          have HF : Hid (v = natVal s.data.toList) := Lib.hid (by rw [HV.out.1, val_all])
          by_cases he : numI (v : Int) = s
          · have HB : Hid (readF s = ((v : Int), true)) := Lib.hid (readF_good ⟨by omega, by omega, he⟩)
            have cn := num_back (v : Int) s (by omega) (by omega) he
            clear he
            go_wp2_with (go_at_call 25; refine (cn _).mono ?_; rintro e w' ⟨rfl, j, rfl⟩)
            go_ret2
            exact ⟨read_found HB.out, _, rfl⟩
          · have hne := str_ne he
            have HB : Hid (readF s = (0, false)) := Lib.hid (readF_bad fun n hn => he (by have := (HP.out n hn).2.2.2; rw [← HF.out] at this; rw [show (v : Int) = n by omega]; exact hn.2.2))
            have cn := fun W => l1Num_any (v : Int) W (by omega) (by omega)
            clear he
            go_wp2_with (go_at_call 25; refine (cn _).mono ?_; rintro e w' ⟨rfl, j, rfl⟩)
            go_ret2
            exact ⟨read_exit HB.out, _, rfl⟩
  · have HB : Hid (readF s = (0, false)) := Lib.hid (readF_bad fun n hn => hlen ⟨(HP.out n hn).1, (HP.out n hn).2.1⟩)
    have hl' : (s.size : Int) < 1 ∨ (6 : Int) < s.size := by omega
    have HL := Lib.hid hl'
    clear hlen hl'
    rcases hcase with h | ⟨h, h45⟩
    · have h1i : ¬ (1 : Int) < s.size := by omega
      clear h
      go_enter Tryd.func29, Tryd.ntmps29
      go_wp2_with (go_at_call 24; refine (l1In_no _ _ _ _ HL.out).mono ?_; rintro e w' ⟨rfl, rfl⟩)
      go_ret2
      exact ⟨read_exit HB.out, 0, rfl⟩
    · have h1i : (1 : Int) < s.size := by omega
      have hc' : ((s[0].toNat : Int) == 45) = false := byte_ne h45
      clear h45
      go_enter Tryd.func29, Tryd.ntmps29
      go_wp2_with (go_at_call 24; refine (l1In_no _ _ _ _ HL.out).mono ?_; rintro e w' ⟨rfl, rfl⟩)
      go_ret2
      exact ⟨read_exit HB.out, 0, rfl⟩

theorem l1Read_any (s : ByteArray) (w : World) (hs : s.size ≤ 1048576) :
    Calls Tryd.prog 29 #[.string s] w fun e w' => e = .returned (.tuple #[.int .i64 (readF s).1, .bool (readF s).2]) ∧ ∃ k, w' = w.drewN k := by
  by_cases h1 : 1 < s.size
  · by_cases h2 : s[0] = 45
    · exact l1Read_neg s w hs h1 h2
    · exact l1Read_pos s w hs (.inr ⟨h1, h2⟩)
  · exact l1Read_pos s w hs (.inl h1)

theorem specParse_any (s : ByteArray) (w : World) (hs : s.size ≤ 1048576) :
    Calls Tryd.prog 14 #[.string s] w fun e w' => e = .returned (.tuple #[.int .i64 (readF s).1, .bool (readF s).2]) ∧ Below w.heap.size w w' := by
  have c := fun W => l1Read_any s W hs
  go_enter Tryd.func14, Tryd.ntmps14
  go_wp2_with (go_at_call 29; refine (c _).mono ?_; rintro e w' ⟨rfl, k, rfl⟩)
  go_ret2
  exact ⟨rfl, below_drewN _ _⟩

/-- The two sentinels of strconv hold errors, whatever lies behind the blocks of w. -/
def Sentinels (w : World) : Prop := ∃ t1 p1 t2 p2, ∀ w', Below w.heap.size w w' → w'.var? Tryd.prog "strconv.ErrSyntax" = some #[.iface t1 p1] ∧ w'.var? Tryd.prog "strconv.ErrRange" = some #[.iface t2 p2]
theorem Sentinels.on {w w' : World} (h : Sentinels w) (hb : Below w.heap.size w w') : Sentinels w' := by
  obtain ⟨t1, p1, t2, p2, h⟩ := h
  exact ⟨t1, p1, t2, p2, fun W' h' => h W' (hb.trans (h'.mono hb.size))⟩

theorem below_bytes (w : World) (t : ByteArray) : Below w.heap.size w (Lib.bytesWorld w 5 t) := Lib.bytesWorld_below _ _ _

/-- Atoi where it fails: an error that is not nil. -/
theorem atoi_fails (s : ByteArray) (w : World) (hs : s.size ≤ 1048576) (hS : Sentinels w) (h : ∀ v, Lib.atoiAll s.data.toList ≠ .ok v) :
    Calls Tryd.prog 28 #[.string s] w fun e w' => ∃ (n : Int) (t : TypeId) (p : Value), e = .returned (.tuple #[.int .i64 n, .iface t p]) ∧ Below w.heap.size w w' := by
  obtain ⟨t1, p1, t2, p2, hv⟩ := hS
  obtain ⟨hv1, hv2⟩ := hv w (Below.refl _ _)
  cases ha : Lib.atoiAll s.data.toList with
  | ok v => exact absurd ha (h v)
  | «syntax» => exact (Tryd.strconv_Atoi_syntax_var s (by omega) ha _ _ w hv1).mono fun e w' ⟨N, he, _, _, hb⟩ => ⟨_, _, _, he, hb⟩
  | range => exact (Tryd.strconv_Atoi_range_var s (by omega) ha _ _ w hv2).mono fun e w' ⟨N, he, _, _, hb⟩ => ⟨_, _, _, he, hb⟩
theorem atoi_gives (s : ByteArray) (w : World) (hs : s.size ≤ 1048576) (v : Int) (h : Lib.atoiAll s.data.toList = .ok v) :
    Calls Tryd.prog 28 #[.string s] w fun e w' => e = .returned (.tuple #[.int .i64 v, .nilIface]) ∧ Below w.heap.size w w' :=
  (Tryd.strconv_Atoi_ok s (by omega) v h w).mono fun e w' ⟨he, hw⟩ => ⟨he, by
    rcases hw with rfl | ⟨t, rfl⟩
    · exact Below.refl _ _
    · exact below_bytes _ _⟩

theorem implParse_any (s : ByteArray) (w : World) (hs : s.size ≤ 1048576) (hT : Pow10 w) (hS : Sentinels w) :
    Calls Tryd.prog 13 #[.string s] w fun e w' => e = .returned (.tuple #[.int .i64 (readF s).1, .bool (readF s).2]) ∧ Below w.heap.size w w' := by
  by_cases hok : ∃ v, Lib.atoiAll s.data.toList = .ok v
  · obtain ⟨v, hv⟩ := hok
    have ca := fun W => atoi_gives s W hs v hv
    have HV := Lib.hid hv
    clear hv
    by_cases hb : -999999 ≤ v ∧ v ≤ 999999
    · by_cases he : numI v = s
      · have HB : Hid (readF s = (v, true)) := Lib.hid (readF_good ⟨hb.1, hb.2, he⟩)
        have cf : ∀ W, Pow10 W → Calls Tryd.prog 10 #[.int .i64 v] W fun e w' => e = .returned (.tuple #[.string s, .bool true]) ∧ Below W.heap.size W w' := fun W h => by have := implFormatInt_ok v W hb.1 hb.2 h; rw [he] at this; exact this
        clear he hb hS
        go_enter Tryd.func13, Tryd.ntmps13
        go_wp2_with (first | (go_at_call 28; refine (ca _).mono ?_; rintro e w' ⟨rfl, hb⟩; have hT2 := hT.on hb) | (go_at_call 10; refine (cf _ hT2).mono ?_; rintro e w' ⟨rfl, hb2⟩))
        go_ret2
        exact ⟨read_found HB.out, hb.trans (hb2.mono hb.size)⟩
      · have HB : Hid (readF s = (0, false)) := Lib.hid (readF_bad fun n hn => by
          have e := (good_atoi hn).symm.trans HV.out
          injection e with e
          exact he (e ▸ hn.2.2))
        have hne := str_ne he
        have cf := fun W h => implFormatInt_ok v W hb.1 hb.2 h
        clear he hb hS
        go_enter Tryd.func13, Tryd.ntmps13
        go_wp2_with (first | (go_at_call 28; refine (ca _).mono ?_; rintro e w' ⟨rfl, hb⟩; have hT2 := hT.on hb) | (go_at_call 10; refine (cf _ hT2).mono ?_; rintro e w' ⟨rfl, hb2⟩))
        go_ret2
        exact ⟨read_exit HB.out, hb.trans (hb2.mono hb.size)⟩
    · have HB : Hid (readF s = (0, false)) := Lib.hid (readF_bad fun n hn => by
        have e := (good_atoi hn).symm.trans HV.out
        injection e with e
        exact hb (e ▸ ⟨hn.1, hn.2.1⟩))
      have cf := fun W => implFormatInt_no v W (by omega)
      clear hb hS
      go_enter Tryd.func13, Tryd.ntmps13
      go_wp2_with (first | (go_at_call 28; refine (ca _).mono ?_; rintro e w' ⟨rfl, hb⟩) | (go_at_call 10; refine (cf _).mono ?_; rintro e w' ⟨rfl, rfl⟩))
      go_ret2
      exact ⟨read_exit HB.out, hb⟩
  · have HB : Hid (readF s = (0, false)) := Lib.hid (readF_bad fun n hn => hok ⟨n, good_atoi hn⟩)
    have ca := fun W hS => atoi_fails s W hs hS fun v hv => hok ⟨v, hv⟩
    clear hok hT
    go_enter Tryd.func13, Tryd.ntmps13
    go_wp2_with (go_at_call 28; refine (ca _ hS).mono ?_; rintro e w' ⟨n, t, p, rfl, hb⟩)
    go_ret2
    exact ⟨read_exit HB.out, hb⟩

end Go.Proofs.YtfjnfgeielgihaaDoor
