/- Proved here: called with any slice of bytes, the law FnStrings returns true and the slice reads afterwards as it read before: at the arguments that are drawn, FormatInt and ParseInt are inverse, AppendChecksum and VerifyChecksum are inverse, and VerifyChecksum refuses a sealed text of which one byte has been changed.
   Conditions: the statement's own; its card ties the library's tables and sentinels to the program's text. That nothing else writes them is the translator's report, over the pruned copy of the project. -/
import Derived.Test.YtfjnfgeielgihaaDoorRows
import Derived.Test.YtfjnfgeielgihaaDoorCards
import Derived.Test.YtfjnfgeielgihaaDoorTie
import Derived.WalkKit
import Derived.ProofKit
import Derived.OpenShut
import Derived.ShutString
import Derived.Below
import Derived.ChangeOld
import Derived.LaidMore
import Derived.Stop.Joined
import Derived.Deep.DeepHandedRow
import Derived.SevenTiedAt
import Derived.Test.YtfjnfgeielgihaaDoorTamper
import Derived.Test.YtfjnfgeielgihaaDoorRead
import Derived.Test.YtfjnfgeielgihaaDoorVerify
import Derived.Test.YtfjnfgeielgihaaDoorDrawFmt
import Derived.Test.YtfjnfgeielgihaaDoorVAt
import Derived.StillTailTactics
import Derived.Lib.LaidTab
import Derived.Stop.LaidErr
import Derived.MakeChecks
import Derived.WalkSmall
namespace Go.Proofs.YtfjnfgeielgihaaDoor.fnStrings
open Go.ChangeShapes Go.WideShapes Go.ChangeAt Go.RowKit
open Go.ChangeMaps (open_string shut_string)
set_option linter.unusedVariables false

theorem own : ownKnob Tryd.prog.godebug = none := by kernel_rfl
theorem laidOut : laidOutB Tryd.prog = true := by kernel_rfl
def Facts (W : World) : Prop := Pow10 W ∧ Sentinels W ∧ SomeMax W
theorem star : "*" ++ "errors.errorString" = "*errors.errorString" := by decide
theorem rowErr (u : TypeId) (h : Tryd.prog.typeName? 3 u = some "*errors.errorString") : u = 86 :=
  typeName_ptr_named (nm := "errors.errorString") (by rw [star]; kernel_rfl) (by kernel_rfl) (by decide) u (by rw [star]; exact h)
theorem var_on {W : World} {n : String} {g : Nat} {cs : Array Value} (hg : Tryd.prog.globalNamed n = some g) (h : W.var? Tryd.prog n = some cs) : ∀ w', Below W.heap.size W w' → w'.var? Tryd.prog n = some cs := fun w' hb => by
  refine var?_below hb hg ?_ h
  unfold World.var? at h
  rw [hg] at h
  simp only [Option.bind_some] at h
  rcases Nat.lt_or_ge g W.heap.size with h' | h'
  · exact h'
  · simp [Array.getElem?_eq_none h'] at h
/-- What the row's list gives the walk. -/
theorem facts {W : World} (h : laidMetH Tryd.prog Rows.fnStringsRow.laid W) (hs : W.ShapedOpen Tryd.prog) : Facts W := by
  rw [MakeChecks.laidMetH_plain _ _ _ (by kernel_rfl)] at h
  have h2 := h.tail.tail
  have h3 := h2.tail
  obtain ⟨a1, s1, v1, _⟩ := laid_sentinel (g := 1) h3 (by kernel_rfl) (by kernel_rfl) Tryd.underlying46 rowErr Tryd.underlying86 Tryd.underlying88 rfl rfl Tryd.underlying9 (by kernel_rfl) (by kernel_rfl)
  obtain ⟨a0, s0, v0, _⟩ := laid_sentinel (g := 0) h3.tail (by kernel_rfl) (by kernel_rfl) Tryd.underlying46 rowErr Tryd.underlying86 Tryd.underlying88 rfl rfl Tryd.underlying9 (by kernel_rfl) (by kernel_rfl)
  obtain ⟨m, hm⟩ : ∃ m, W.cell? ⟨2, 0, none⟩ = some (.int .i64 m) := Tryd.laysM145.s1_3 W hs
  refine ⟨Lib.tabBelow_of_tabIs (Lib.tabIs_of_head (g := 3) (by kernel_rfl) (by kernel_rfl) Tryd.underlying80 Tryd.underlying35 (by kernel_rfl) (by kernel_rfl) h2), ⟨_, _, _, _, fun w' hb => ⟨var_on (g := 0) (by kernel_rfl) v0 w' hb, var_on (g := 1) (by kernel_rfl) v1 w' hb⟩⟩, fun w' hb => ⟨m, (hb.cell (World.block_lt_of_cell? W _ hm)).trans hm⟩⟩

/- The walk of the law's body. -/
set_option maxRecDepth 100000 in
set_option maxHeartbeats 4000000 in
theorem walk (W : World) (a0 : Option Addr) (n0 c0 : Nat) (w0 : CodeAt W W.heap.size a0 n0) (m0 : n0 ≤ maxLen)  (hF : Facts W) :
    Calls Tryd.prog 3 #[.slice a0 n0 c0] W fun e w' => e = .returned (.bool true) ∧ Below W.heap.size W w' := by
  obtain ⟨hT, hS, hM⟩ : Pow10 W ∧ Sentinels W ∧ SomeMax W := hF
  have W0 := Lib.hid w0
  clear w0
  by_cases hbig : 65536 < n0
  · have cb := fun W' => vBig_any a0 n0 c0 W' true m0 (decide_eq_true (by omega))
    clear hT hS hM
    go_enter Tryd.func3, Tryd.ntmps3
    go_wp2_with fail
    refine (cb _).mono ?_
    rintro e w' ⟨rfl, rfl⟩
    go_wp2_with fail
    go_ret
    exact ⟨rfl, Below.refl _ _⟩
  have hn : n0 ≤ 65536 := by omega
  have cb := fun W' => vBig_any a0 n0 c0 W' false m0 (decide_eq_false (by omega))
  clear hbig m0
  have HT := Lib.hid hT
  have HS := Lib.hid hS
  have HM := Lib.hid hM
  clear hT hS hM
  -- one contract for both sides, function by function
  have HFmt : Hid (∀ z : Int, ∃ (S : ByteArray) (ok : Bool), S.size ≤ 100 ∧ (ok = true → readF S = (z, true)) ∧
      (∀ W, Pow10 W → Calls Tryd.prog 10 #[.int .i64 z] W fun e w' => e = .returned (.tuple #[.string S, .bool ok]) ∧ Below W.heap.size W w') ∧
      (∀ W, Calls Tryd.prog 11 #[.int .i64 z] W fun e w' => e = .returned (.tuple #[.string S, .bool ok]) ∧ Below W.heap.size W w')) := Lib.hid fun z => by
    by_cases h : -999999 ≤ z ∧ z ≤ 999999
    · exact ⟨numI z, true, by have := numI_small z (by omega) (by omega); omega, fun _ => readF_good ⟨h.1, h.2, rfl⟩, fun W hW => implFormatInt_ok z W h.1 h.2 hW, fun W => specFormatInt_ok z W h.1 h.2⟩
    · exact ⟨{ data := #[] }, false, by decide, (fun h => by cases h), fun W _ => (implFormatInt_no z W (by omega)).mono fun e w' ⟨h1, h2⟩ => ⟨h1, by subst h2; exact Below.refl _ _⟩, fun W => (specFormatInt_no z W (by omega)).mono fun e w' ⟨h1, h2⟩ => ⟨h1, by subst h2; exact Below.refl _ _⟩⟩
  have HApp : Hid (∀ x : ByteArray, x.size ≤ 4000 → ∃ (Y : ByteArray) (sb : Bool), ((sb = false ∧ Y = { data := #[] }) ∨ (sb = true ∧ Y = sealB x ∧ hasB x 35 = false ∧ (sealB x).size ≤ 4000)) ∧
      (∀ W, Pow10 W → Calls Tryd.prog 16 #[.string x] W fun e w' => e = .returned (.tuple #[.string Y, .bool sb]) ∧ Below W.heap.size W w') ∧
      (∀ W, Calls Tryd.prog 17 #[.string x] W fun e w' => e = .returned (.tuple #[.string Y, .bool sb]) ∧ Below W.heap.size W w')) := Lib.hid fun x hx => by
    by_cases h1 : hasB x 35 = true
    · exact ⟨_, false, .inl ⟨rfl, rfl⟩, fun W _ => implAppend_mark x W hx h1, fun W => specAppend_mark x W hx h1⟩
    have h1' : hasB x 35 = false := by simpa using h1
    by_cases h2 : 4000 < (sealB x).size
    · exact ⟨_, false, .inl ⟨rfl, rfl⟩, fun W hW => implAppend_full x W hx h1' h2 hW, fun W => specAppend_full x W hx h1' h2⟩
    · exact ⟨_, true, .inr ⟨rfl, rfl, h1', by omega⟩, fun W hW => implAppend_ok x W hx h1' (by omega) hW, fun W => specAppend_ok x W hx h1' (by omega)⟩
  go_enter Tryd.func3, Tryd.ntmps3
  go_wp2_with fail
  refine (cb _).mono ?_
  rintro e W ⟨rfl, rfl⟩
  clear cb
  go_wp2_with fail
  refine (drawFmt_any _ _ _ _ W0.out hn).mono ?_
  rintro e w1 ⟨z, hz1, hz2, rfl, hb1⟩
  have HB1 := Lib.hid hb1
  clear hb1
  obtain ⟨S, ok, hS100, hok, cfi, cfs⟩ := HFmt.out z
  have HOK := Lib.hid hok
  clear hok HFmt
  go_wp2_with fail
  refine (cfi _ (HT.out.on HB1.out)).mono ?_
  rintro e w2 ⟨rfl, hb2⟩
  have HB2 := Lib.hid (HB1.out.trans (hb2.mono HB1.out.size))
  clear hb2 HB1 cfi
  go_wp2_with fail
  refine (cfs _).mono ?_
  rintro e w3 ⟨rfl, hb3⟩
  have HB3 := Lib.hid (HB2.out.trans (hb3.mono HB2.out.size))
  clear hb3 HB2 cfs
  have HC3 := Lib.hid ((W0.out.on HB3.out).up HB3.out.size)
  go_wp2_with fail
  refine (drawParse_any _ _ _ _ HC3.out hn).mono ?_
  rintro e w4 ⟨t, ht, rfl, hb4⟩
  have HB4 := Lib.hid (HB3.out.trans (hb4.mono HB3.out.size))
  clear hb4 HB3 HC3
  obtain ⟨⟨v, vb⟩, hv⟩ : ∃ r, r = readF t := ⟨_, rfl⟩
  have cpi := fun W h h' => implParse_any t W (by omega) h h'
  have cps := fun W => specParse_any t W (by omega)
  rw [← hv] at cpi cps
  simp only [] at cpi cps
  clear hv
  go_wp2_with fail
  refine (cpi _ (HT.out.on HB4.out) (HS.out.on HB4.out)).mono ?_
  rintro e w5 ⟨rfl, hb5⟩
  have HB5 := Lib.hid (HB4.out.trans (hb5.mono HB4.out.size))
  clear hb5 HB4 cpi
  go_wp2_with fail
  refine (cps _).mono ?_
  rintro e w6 ⟨rfl, hb6⟩
  have HB6 := Lib.hid (HB5.out.trans (hb6.mono HB5.out.size))
  clear hb6 HB5 cps
  have HC6 := Lib.hid ((W0.out.on HB6.out).up HB6.out.size)
  go_wp2_with fail
  refine (drawAppend_any _ _ _ _ HC6.out hn).mono ?_
  rintro e w7 ⟨x, hx, rfl, hb7⟩
  have HB7 := Lib.hid (HB6.out.trans (hb7.mono HB6.out.size))
  clear hb7 HB6 HC6
  obtain ⟨Y, sb, hsb, cai, cas⟩ := HApp.out x hx
  have HSB := Lib.hid hsb
  clear hsb HApp
  go_wp2_with fail
  refine (cai _ (HT.out.on HB7.out)).mono ?_
  rintro e w8 ⟨rfl, hb8⟩
  have HB8 := Lib.hid (HB7.out.trans (hb8.mono HB7.out.size))
  clear hb8 HB7 cai
  go_wp2_with fail
  refine (cas _).mono ?_
  rintro e w9 ⟨rfl, hb9⟩
  have HB9 := Lib.hid (HB8.out.trans (hb9.mono HB8.out.size))
  clear hb9 HB8 cas
  -- ParseInt of the text of the number
  obtain ⟨⟨u, ub⟩, hu⟩ : ∃ r, r = readF S := ⟨_, rfl⟩
  have HU : Hid (ok = true → u = z ∧ ub = true) := Lib.hid fun h => by have := HOK.out h; rw [← hu] at this; simpa using this
  have cpi := fun W h h' => implParse_any S W (by omega) h h'
  rw [← hu] at cpi
  simp only [] at cpi
  clear hu HOK
  go_wp2_with fail
  refine (cpi _ (HT.out.on HB9.out) (HS.out.on HB9.out)).mono ?_
  rintro e w10 ⟨rfl, hb10⟩
  have HB10 := Lib.hid (HB9.out.trans (hb10.mono HB9.out.size))
  clear hb10 HB9 cpi
  have HOKZ : Hid (ok = false ∨ (ok = true ∧ u = z ∧ ub = true)) := Lib.hid (by cases ok; exact .inl rfl; exact .inr ⟨rfl, HU.out rfl⟩)
  clear HU
  rcases HSB.out with ⟨rfl, rfl⟩ | ⟨rfl, rfl, hx35, hx4⟩
  · rcases HOKZ.out with rfl | ⟨rfl, rfl, rfl⟩
    · go_wp2_with fail
      go_ret
      exact ⟨rfl, HB10.out⟩
    · go_wp2_with fail
      go_ret
      exact ⟨rfl, HB10.out⟩
  · have hfs := first_seal x hx35
    have cv := fun W h h' => implVerify_ok (sealB x) W hx4 h h' (by rw [hfs])
    rw [hfs] at cv
    have hY1 : 1 ≤ (sealB x).size := by rw [sealB_size]; omega
    obtain ⟨Y, hY⟩ : ∃ Y, Y = sealB x := ⟨_, rfl⟩
    have hYi1 : (1 : Int) ≤ (Y.size : Int) := by rw [hY]; omega
    have hYi4 : (Y.size : Int) ≤ 4000 := by rw [hY]; omega
    rw [← hY] at cv ⊢
    have HY := Lib.hid hY
    have HX := Lib.hid hx35
    clear hY hx35 hx4 hY1 hfs
    rcases HOKZ.out with rfl | ⟨rfl, rfl, rfl⟩
    · go_wp2_with fail
      refine (cv _ (HT.out.on HB10.out) (HM.out.on HB10.out)).mono ?_
      rintro e w11 ⟨rfl, hb11⟩
      have HB11 := Lib.hid (HB10.out.trans (hb11.mono HB10.out.size))
      clear hb11 HB10 cv
      obtain ⟨wb, cap, hcvt, hbc, hbf, hbb, hbs⟩ := bytes_made w11 Y
      have HB12 := Lib.hid (HB11.out.trans (hbb.mono HB11.out.size))
      have HBC := Lib.hid hbc
      have HBF := Lib.hid hbf
      clear hbb hbs hbc hbf
      obtain ⟨gb, hgb⟩ : ∃ gb, gb = w11.heap.size := ⟨_, rfl⟩
      rw [← hgb] at hcvt HBC HBF
      have HGB := Lib.hid hgb
      clear hgb
      have hat := fun i hi => vAt_any a0 n0 c0 i _ wb (W0.out.on HB12.out) hn hi
      go_wp2_with fail
      refine (hat 9 (by omega)).mono ?_
      rintro e wc ⟨⟨r, hr, rfl⟩, rfl⟩
      have hri : (r : Int) ≤ 255 := by omega
      obtain ⟨q, hq, hq2⟩ : ∃ q : Nat, (r : Int) % (Y.size : Int) = (q : Int) ∧ q < Y.size := ⟨r % Y.size, by rw [Int.natCast_emod], Nat.mod_lt _ (by omega)⟩
      have hqi : (q : Int) < (Y.size : Int) := by omega
      have hcl := HBC.out q hq2
      have hfz := HBF.out q hq2
      obtain ⟨cB, hcB⟩ : ∃ cB : UInt8, cB = Y[q] := ⟨_, rfl⟩
      rw [← hcB] at hcl
      have HCB := Lib.hid hcB
      clear hcB hat
      obtain ⟨r2, hr2, hat2⟩ := vAt_val a0 n0 c0 10 _ wc.drew ((W0.out.on HB12.out).on (Below.refl _ _).drew) hn (by omega)
      have hr2i : (r2 : Int) ≤ 255 := by omega
      have hcl2 : wc.drew.cell? ⟨gb, q, none⟩ = some (.int .u8 (cB.toNat : Int)) := hcl
      have hfz2 : wc.drew.frozen? ⟨gb, q, none⟩ = false := hfz
      obtain ⟨m, hm1, hm2, hmi⟩ : ∃ m : Nat, 0 < m ∧ m < 256 ∧ 1 + (r2 : Int) % 255 = (m : Int) := ⟨1 + r2 % 255, by omega, by omega, by omega⟩
      have hxl : cB.toNat ^^^ m < 256 := Nat.xor_lt_two_pow (n := 8) (by have := cB.toNat_lt; omega) (by omega)
      have hxor : bits .xor .u8 (cB.toNat : Int) (1 + (r2 : Int) % 255) = ((cB.toNat ^^^ m : Nat) : Int) := by rw [hmi]; exact bits_xor_byte _ _ cB.toNat_lt hm2
      have hch := bytes_changed wc gb q cap (cB.toNat ^^^ m) Y hxl hq2 HBC.out
      rw [← hxor] at hch
      have HNE : Hid (sealB (firstB ⟨(Y.data.toList.take q ++ UInt8.ofNat (cB.toNat ^^^ m) :: Y.data.toList.drop (q + 1)).toArray⟩ 35) ≠ ⟨(Y.data.toList.take q ++ UInt8.ofNat (cB.toNat ^^^ m) :: Y.data.toList.drop (q + 1)).toArray⟩) := Lib.hid (by
        refine tampered_text x _ _ cB _ HX.out ?_ (byte_ofNat_ne cB m hm1 hm2)
        rw [← HY.out, HCB.out]; exact list_at Y q hq2)
      obtain ⟨Z, hZ⟩ : ∃ Z : ByteArray, Z = ⟨(Y.data.toList.take q ++ UInt8.ofNat (cB.toNat ^^^ m) :: Y.data.toList.drop (q + 1)).toArray⟩ := ⟨_, rfl⟩
      have hZs : Z.size ≤ 1048576 := by
        rw [hZ]
        show (Y.data.toList.take q ++ UInt8.ofNat (cB.toNat ^^^ m) :: Y.data.toList.drop (q + 1)).toArray.size ≤ _
        simp only [List.size_toArray, List.length_append, List.length_take, List.length_cons, List.length_drop, Array.length_toList]
        have : Y.data.size = Y.size := rfl
        omega
      rw [← hZ] at hch HNE
      have HB13 : Hid (Below W.heap.size W (wc.setCell ⟨gb, q, none⟩ (.int .u8 (bits .xor .u8 (cB.toNat : Int) (1 + (r2 : Int) % 255)))).drew) := Lib.hid ((HB12.out.setCell (p := ⟨gb, q, none⟩) (by show W.heap.size ≤ gb; rw [HGB.out]; exact HB11.out.size) _).drew)
      have HCV := Lib.hid (fun W h h' => implVerify_no Z W hZs h h' (.inr HNE.out))
      clear hZ hxor hmi hm1 hm2 hxl hcl hfz HNE
      go_wp2_with fail
      go_still_tail 13, (by kernel_rfl)
      still_call hat2
      repeat still_step
      refine wpStill_nil ?_
      clear hat2
      go_wp2_with fail
      refine (HCV.out _ (HT.out.on HB13.out) (HM.out.on HB13.out)).mono ?_
      rintro e w14 ⟨rfl, hb14⟩
      have HB14 := Lib.hid (HB13.out.trans (hb14.mono HB13.out.size))
      clear hb14 HB13 HCV hch
      go_wp2_with fail
      go_ret
      exact ⟨rfl, HB14.out⟩
    · go_wp2_with fail
      refine (cv _ (HT.out.on HB10.out) (HM.out.on HB10.out)).mono ?_
      rintro e w11 ⟨rfl, hb11⟩
      have HB11 := Lib.hid (HB10.out.trans (hb11.mono HB10.out.size))
      clear hb11 HB10 cv
      obtain ⟨wb, cap, hcvt, hbc, hbf, hbb, hbs⟩ := bytes_made w11 Y
      have HB12 := Lib.hid (HB11.out.trans (hbb.mono HB11.out.size))
      have HBC := Lib.hid hbc
      have HBF := Lib.hid hbf
      clear hbb hbs hbc hbf
      obtain ⟨gb, hgb⟩ : ∃ gb, gb = w11.heap.size := ⟨_, rfl⟩
      rw [← hgb] at hcvt HBC HBF
      have HGB := Lib.hid hgb
      clear hgb
      have hat := fun i hi => vAt_any a0 n0 c0 i _ wb (W0.out.on HB12.out) hn hi
      go_wp2_with fail
      refine (hat 9 (by omega)).mono ?_
      rintro e wc ⟨⟨r, hr, rfl⟩, rfl⟩
      have hri : (r : Int) ≤ 255 := by omega
      obtain ⟨q, hq, hq2⟩ : ∃ q : Nat, (r : Int) % (Y.size : Int) = (q : Int) ∧ q < Y.size := ⟨r % Y.size, by rw [Int.natCast_emod], Nat.mod_lt _ (by omega)⟩
      have hqi : (q : Int) < (Y.size : Int) := by omega
      have hcl := HBC.out q hq2
      have hfz := HBF.out q hq2
      obtain ⟨cB, hcB⟩ : ∃ cB : UInt8, cB = Y[q] := ⟨_, rfl⟩
      rw [← hcB] at hcl
      have HCB := Lib.hid hcB
      clear hcB hat
      obtain ⟨r2, hr2, hat2⟩ := vAt_val a0 n0 c0 10 _ wc.drew ((W0.out.on HB12.out).on (Below.refl _ _).drew) hn (by omega)
      have hr2i : (r2 : Int) ≤ 255 := by omega
      have hcl2 : wc.drew.cell? ⟨gb, q, none⟩ = some (.int .u8 (cB.toNat : Int)) := hcl
      have hfz2 : wc.drew.frozen? ⟨gb, q, none⟩ = false := hfz
      obtain ⟨m, hm1, hm2, hmi⟩ : ∃ m : Nat, 0 < m ∧ m < 256 ∧ 1 + (r2 : Int) % 255 = (m : Int) := ⟨1 + r2 % 255, by omega, by omega, by omega⟩
      have hxl : cB.toNat ^^^ m < 256 := Nat.xor_lt_two_pow (n := 8) (by have := cB.toNat_lt; omega) (by omega)
      have hxor : bits .xor .u8 (cB.toNat : Int) (1 + (r2 : Int) % 255) = ((cB.toNat ^^^ m : Nat) : Int) := by rw [hmi]; exact bits_xor_byte _ _ cB.toNat_lt hm2
      have hch := bytes_changed wc gb q cap (cB.toNat ^^^ m) Y hxl hq2 HBC.out
      rw [← hxor] at hch
      have HNE : Hid (sealB (firstB ⟨(Y.data.toList.take q ++ UInt8.ofNat (cB.toNat ^^^ m) :: Y.data.toList.drop (q + 1)).toArray⟩ 35) ≠ ⟨(Y.data.toList.take q ++ UInt8.ofNat (cB.toNat ^^^ m) :: Y.data.toList.drop (q + 1)).toArray⟩) := Lib.hid (by
        refine tampered_text x _ _ cB _ HX.out ?_ (byte_ofNat_ne cB m hm1 hm2)
        rw [← HY.out, HCB.out]; exact list_at Y q hq2)
      obtain ⟨Z, hZ⟩ : ∃ Z : ByteArray, Z = ⟨(Y.data.toList.take q ++ UInt8.ofNat (cB.toNat ^^^ m) :: Y.data.toList.drop (q + 1)).toArray⟩ := ⟨_, rfl⟩
      have hZs : Z.size ≤ 1048576 := by
        rw [hZ]
        show (Y.data.toList.take q ++ UInt8.ofNat (cB.toNat ^^^ m) :: Y.data.toList.drop (q + 1)).toArray.size ≤ _
        simp only [List.size_toArray, List.length_append, List.length_take, List.length_cons, List.length_drop, Array.length_toList]
        have : Y.data.size = Y.size := rfl
        omega
      rw [← hZ] at hch HNE
      have HB13 : Hid (Below W.heap.size W (wc.setCell ⟨gb, q, none⟩ (.int .u8 (bits .xor .u8 (cB.toNat : Int) (1 + (r2 : Int) % 255)))).drew) := Lib.hid ((HB12.out.setCell (p := ⟨gb, q, none⟩) (by show W.heap.size ≤ gb; rw [HGB.out]; exact HB11.out.size) _).drew)
      have HCV := Lib.hid (fun W h h' => implVerify_no Z W hZs h h' (.inr HNE.out))
      clear hZ hxor hmi hm1 hm2 hxl hcl hfz HNE
      go_wp2_with fail
      go_still_tail 13, (by kernel_rfl)
      still_call hat2
      repeat still_step
      refine wpStill_nil ?_
      clear hat2
      go_wp2_with fail
      refine (HCV.out _ (HT.out.on HB13.out) (HM.out.on HB13.out)).mono ?_
      rintro e w14 ⟨rfl, hb14⟩
      have HB14 := Lib.hid (HB13.out.trans (hb14.mono HB13.out.size))
      clear hb14 HB13 HCV hch
      go_wp2_with fail
      go_ret
      exact ⟨rfl, HB14.out⟩

/-- The heap that the variables' door leaves meets the row's list. -/
theorem door_met (os : Os) (args : Array Value) : laidMetH Tryd.prog Rows.fnStringsRow.laid ((World.doorLaid Tryd.prog 62 os).forCall (fun _ _ => 0) ⟨#[], args, []⟩).memory :=
  laidMetH_of_parts3 (fuel := 8) (laidMet_of_run' 8 (by kernel_rfl) (by kernel_rfl)) (by kernel_rfl) (by kernel_rfl)

/- The row's step. -/
set_option maxRecDepth 100000 in
theorem lifted (os : Os) (started : os.Started) (H : Type) (enc : TypeId × Value → H) (F : Stop.Interp) :
    ReturnsInHanded {} Tryd.checked os 3 .any ((OpenSpec.ofChange Rows.fnStringsSpec).preRow enc Tryd.prog Tryd.f3 Rows.fnStringsRow.domain false Rows.fnStringsRow.laid) (((OpenSpec.ofChange Rows.fnStringsSpec).at F).post enc Tryd.prog Tryd.f3 false true false false) := by
  refine returnsInHanded_of_row (C := Tryd.checked) (s := OpenSpec.ofChange Rows.fnStringsSpec) own started (by kernel_rfl) Tryd.func3
    (ChangeSpec.witness_shaped (enc := enc) (C := Tryd.checked) (os := os) (X := fun w _ => laidMetH Tryd.prog Rows.fnStringsRow.laid w) false (World.doorLaid Tryd.prog 62 os) #[.slice none 0 0] 8 rfl (World.shaped_of_RefB (by kernel_rfl) (by kernel_rfl)) (by kernel_rfl) (by kernel_rfl) (by kernel_rfl) (door_met os _)) ?_
  intro W base args ds gs before hval0 hW _ _ hsz0 hL hShape _
  have hval : ∀ (j : Nat) t v, Tryd.f3.params[j]? = some t → args[j]? = some v → Value.okWide Tryd.prog W .any base t v := hval0
  have hW' := hW
  obtain ⟨p, q, hA0, hV, rfl, hfz, hnd⟩ := hW
  have hA : DataW.TrodAll enc Tryd.prog W 0 (fun _ => true) true Tryd.f3.params.toList args.toList ds p := hA0
  rw [Tryd.params3] at hA hval
  obtain ⟨v0, vs0, d0, ds0, p0, q0, hargs, rfl, rfl, h0, r0⟩ := trodAll_cons hA
  obtain ⟨rfl, rfl, rfl⟩ := trodAll_nil r0
  obtain rfl : args = #[v0] := by cases args; simp_all
  obtain ⟨rfl, rfl⟩ := trodVars_none hV
  obtain ⟨a0, n0, c0, rfl⟩ := okWide_slice Tryd.underlying22 (hval 0 22 v0 rfl rfl)
  have k0 := h0
  have lt0 : ∀ x ∈ p0, x.block < W.heap.size := by obtain ⟨m, hm⟩ := k0; exact DataW.trod_lt m _ _ _ hm
  obtain ⟨w0, m0⟩ : CodeAt W W.heap.size a0 n0 ∧ n0 ≤ maxLen := by
    obtain ⟨fuel, hf⟩ := h0
    rcases open_ints Tryd.underlying22 Tryd.underlying5 (by kernel_rfl) hf with ⟨hcs, _⟩ | ⟨x, len', cap', zs, hcs, _, hl, hm, hz, _, hcell, hwz⟩
    · simp [Value.cells] at hcs
      obtain ⟨rfl, rfl, rfl⟩ := hcs
      exact ⟨⟨[], rfl, by simp, .inl rfl⟩, by decide⟩
    · simp [Value.cells] at hcs
      obtain ⟨rfl, rfl, rfl⟩ := hcs
      have hle : n0 ≤ zs.length := by split at hz <;> omega
      refine ⟨⟨zs.take n0, by rw [List.length_take]; omega, fun y hy => by have := bounds_u8 (hwz y (List.mem_of_mem_take hy)); omega, ?_⟩, by omega⟩
      by_cases h0 : n0 = 0
      · exact .inl h0
      · obtain ⟨b, off, spot⟩ := x
        have hc0 := hcell 0 (by omega)
        have hspot : spot = none := by simpa [Addr.add] using World.cell?_spot hc0
        subst hspot
        refine .inr ⟨b, off, rfl, by simpa [Addr.add] using World.block_lt_of_cell? W _ hc0, fun j y hj => ?_⟩
        obtain ⟨hj1, hj2⟩ := List.getElem?_eq_some_iff.1 hj
        rw [List.length_take] at hj1
        have := hcell j (by omega)
        rw [← hj2]
        rw [Addr.add_lit] at this
        simpa [List.getD_eq_getElem?_getD, show j < zs.length by omega] using this
  clear hA0 hval0
  refine (walk W a0 n0 c0 w0 m0  (facts hL hShape)).mono fun e W' ⟨he, bel⟩ => ?_
  subst he
  exact ⟨_, rfl, _, _, _, [], _, [], hW', trodAll_mk1 (shut_bool Tryd.underlying4 _), (trodAll_cons_mk (Below.trod laidOut (by kernel_rfl) (of_decide_eq_true (by kernel_rfl)) k0 bel lt0) trodAll_mk0), rfl, bel.frame _, fun h => by cases h⟩

theorem over : Rows.fnStringsRow.holds Tryd.pinned (OpenSpec.ofChange Rows.fnStringsSpec) :=
  OpenClaim.holds_of_cond 3 Tryd.f3 rfl rfl rfl rfl rfl rfl rfl ⟨rfl, rfl, rfl, rfl, rfl⟩ rfl rfl rfl rfl rfl (by kernel_rfl) Tryd.func3 (by kernel_rfl)
    (of_decide_eq_true (by kernel_rfl)) (by unfold Func.isWrapper; first | (rw [if_pos (by decide +kernel)]; kernel_rfl) | (rw [if_neg (by decide +kernel)]; exact ⟨rfl, rfl⟩))
    (fun os started H enc _ F => by rw [OpenClaim.pre_eq_preRow]; exact lifted os started H enc F)

/-- No parameter wants a stand-in. -/
theorem plain (f : FuncId) (fn : Func) (hf : Tryd.pinned.checked.prog.funcNamed "loop.example/g01110/laws.FnStrings" = some f) (hfn : Tryd.pinned.checked.prog.funcs[f]? = some fn) :
    true = Tryd.pinned.checked.prog.looks [] ∧ ∀ (j : Nat) t, fn.params[j]? = some t → Tryd.pinned.checked.prog.wantsStandIn t = false := by
  obtain rfl : f = 3 := Option.some.inj ((show Tryd.prog.funcNamed "loop.example/g01110/laws.FnStrings" = some 3 by kernel_rfl).symm.trans hf) |>.symm
  obtain rfl : fn = Tryd.f3 := (Option.some.inj (Tryd.func3.symm.trans hfn)).symm
  refine ⟨by kernel_rfl, fun j t ht => ?_⟩
  rw [Tryd.params3] at ht
  have hm : t ∈ [22] := by simpa using Array.mem_of_getElem? ht
  have hall : ([22].all fun u => !Tryd.prog.wantsStandIn u) = true := by kernel_rfl
  exact (show Tryd.prog.wantsStandIn t = false by simpa using List.all_eq_true.1 hall t hm)

/-- The statement. -/
theorem proved : Rows.FnStringsCardSaid :=
  Claim7.holds_tied_plain_at .later [] _ _ _ _ over (fun _ h => by cases h) (by kernel_rfl) (fun _ h => by cases h) fnStrings_row_tie rfl ⟨rfl, rfl⟩ (by kernel_rfl) rfl plain (by kernel_rfl)
#print axioms proved
end Go.Proofs.YtfjnfgeielgihaaDoor.fnStrings
