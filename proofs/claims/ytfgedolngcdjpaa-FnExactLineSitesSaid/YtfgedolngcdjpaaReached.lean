/- Whether a client has a taken site within a radius, the model's reading. Condition: the Field and the list read as such. -/
import Derived.Test.YtfgedolngcdjpaaLineSitesImpl
import Derived.Test.YtfgedolngcdjpaaPairLineField
import Derived.BigQuiet
namespace Go.Proofs.Ytfgedolngcdjpaa
open Go.RowKit
theorem row_line {T : Tab} {u : World} (hT : T.At u) {j : Nat} (hj : j < T.R.length) : ∃ b o, ∃ r : Row, T.a = some ⟨b, o, none⟩ ∧ u.cell? ⟨b, o + j, none⟩ = some (.slice r.a r.l.length r.c) ∧ r.At u ∧ r.l = T.con.getD j [] := by
  obtain ⟨⟨_, _, r3⟩, hR⟩ := hT
  rcases r3 with r3 | ⟨b, o, ha, hb, hc⟩
  · have r3' := congrArg List.length r3; rw [tv_length, List.length_nil] at r3'; omega
  · refine ⟨b, o, T.R[j], ha, hc j _ (tv_at hj), hR _ (List.getElem_mem hj), ?_⟩
    rw [List.getD_eq_getElem?_getD, List.getElem?_eq_getElem (by rw [con_length]; exact hj), Option.getD_some, con_at T hj]
theorem anyL_step {P : Int → Bool} {l : List Int} {k : Nat} (hk : k < l.length) : (l.take (k + 1)).any P = ((l.take k).any P || P (l.getD k 0)) := by
  rw [List.take_succ_eq_append_getElem hk, List.any_append, List.getD_eq_getElem?_getD, List.getElem?_eq_getElem hk]; simp

set_option maxRecDepth 16000 in
set_option maxHeartbeats 2000000 in
theorem l5Reached_any (F : Fld) (j : Nat) (t : Row) (z : Int) (w : World) (hF : F.At w) (ht : t.At w) (htm : t.l.length ≤ 1048576) (hj : j < F.t.R.length) (hlt : ∀ y ∈ t.l, ∃ i : Nat, y = (i : Int) ∧ i < (F.t.con.getD j []).length) :
    Calls Try.prog 32 #[.agg #[.slice F.o.a F.o.l.length F.o.c, .slice F.t.a F.t.R.length F.t.c], .int .i64 j, .slice t.a t.l.length t.c, .int .i64 z] w fun e w' => e = .returned (.bool (t.l.any fun y => decide ((F.t.con.getD j []).getD y.toNat 0 ≤ z))) ∧ Below w.heap.size w w' := by
  obtain ⟨wA, hA, hbA, bx, hFA, _⟩ := laid_fld F w 37 hF
  obtain ⟨P, hP⟩ : ∃ P : Int → Bool, P = fun y => decide ((F.t.con.getD j []).getD y.toNat 0 ≤ z) := ⟨_, rfl⟩
  have HP := Lib.hid hP
  have HFA := Lib.hid hFA
  have HTA := Lib.hid (ht.on hbA)
  have HBX := Lib.hid bx
  have HBA := Lib.hid hbA
  have HL := Lib.hid hlt
  obtain ⟨n, hn⟩ : ∃ n, n = t.l.length := ⟨_, rfl⟩
  have HN := Lib.hid hn
  have hni : (n : Int) ≤ 1048576 := by omega
  have hji : (j : Int) < (F.t.R.length : Int) := by omega
  have hj0 : 0 ≤ (j : Int) := by omega
  have HA := Lib.hid hA
  rw [← hP, ← hn]
  clear hF ht hA bx hFA hlt hbA hP hn htm
  go_enter Try.func32, Try.ntmps32
  go_wp2
  rw [show w.alloc (Obj.cells #[.slice F.o.a F.o.l.length F.o.c, .slice F.t.a F.t.R.length F.t.c] 37) = wA from HA.out.symm]
  go_loopw [8, 9] (fun _ i wr => ∃ k : Nat, k ≤ n ∧ i = .int .i64 k ∧ Below wA.heap.size wA wr ∧ (t.l.take k).any P = false) (fun _ i _ => n - (intOf i).toNat)
  case atStart => exact ⟨0, Nat.zero_le _, rfl, Below.refl _ _, by simp⟩
  case round =>
    obtain ⟨k, hk, rfl, hnx, hany⟩ := hrel
    have HNX := Lib.hid hnx
    have HANY := Lib.hid hany
    by_cases hlt : k < n
    · have hlti : (k : Int) < (n : Int) := by omega
      have hkt : k < t.l.length := by rw [← HN.out]; exact hlt
      obtain ⟨bt, ot, hta, htc⟩ := intAt_line (HTA.out.on hnx) hkt
      obtain ⟨bT, oT, r, hTa, hTc, hrA, hrl⟩ := row_line (HFA.out.on hnx).2 hj
      obtain ⟨m, hm, hmr⟩ := HL.out (t.l.getD k 0) (by rw [List.getD_eq_getElem?_getD, List.getElem?_eq_getElem hkt]; exact List.getElem_mem hkt)
      rw [← hrl] at hmr
      obtain ⟨br, or', hra, hrc⟩ := intAt_line hrA hmr
      obtain ⟨v, hv⟩ : ∃ v, v = r.l.getD m 0 := ⟨_, rfl⟩
      have hPk : P (t.l.getD k 0) = decide (v ≤ z) := by rw [HP.out, hm, hv, hrl]; rfl
      have HST := Lib.hid (anyL_step (P := P) hkt)
      rw [hm] at htc
      have HPK := Lib.hid hPk
      rw [← hv] at hrc
      have hmi : (m : Int) < (r.l.length : Int) := by omega
      have hm0 : 0 ≤ (m : Int) := by omega
      have x1 : wr.cell? ⟨w.heap.size, 1, none⟩ = some (.slice F.t.a F.t.R.length F.t.c) := (HBX.out.on hnx).c1
      rw [hTa] at x1
      rw [hra] at hTc
      rw [hta, hTa]
      clear hm hv hPk hrl hany hta hTa
      by_cases hle : v ≤ z
      · have HE : Hid (t.l.any P = true) := Lib.hid (by
          rw [List.any_eq_true]
          exact ⟨t.l.getD k 0, by rw [List.getD_eq_getElem?_getD, List.getElem?_eq_getElem hkt]; exact List.getElem_mem hkt, by rw [HPK.out]; simp [hle]⟩)
        go_wp2
        go_quiet (fail)
        go_wp2
        go_ret
        exact ⟨by rw [HE.out]; first | done | rfl, HBA.out.trans (((HNX.out.trans ((below_draws _ _).mono HNX.out.size))).mono HBA.out.size)⟩
      · have hde : decide (v ≤ z) = false := decide_eq_false hle
        have HE : Hid ((t.l.take (k + 1)).any P = false) := Lib.hid (by rw [HST.out, HANY.out, HPK.out, hde]; rfl)
        have HND := Lib.hid (fun d => HNX.out.trans ((below_draws wr d).mono HNX.out.size) : ∀ d, Below wA.heap.size wA (wr.drewN d))
        go_wp2
        go_quiet (fail)
        go_wp2
        go_roundw
        case rel => exact ⟨k + 1, by omega, by go_num, HND.out _, HE.out⟩
        case measure => simp [intOf]; omega
    · obtain rfl : k = n := by omega
      have HE : Hid (t.l.any P = false) := Lib.hid (by have := HANY.out; rw [HN.out, List.take_length] at this; exact this)
      go_wp2
      go_ret
      exact ⟨by rw [HE.out]; first | done | rfl, HBA.out.trans (HNX.out.mono HBA.out.size)⟩
end Go.Proofs.Ytfgedolngcdjpaa
