/- Both sides of GainOf answer alike. Condition: the arguments read as such. -/
import Derived.Test.YtmddijibplkngaaWorthLay
namespace Go.Proofs.Ytmddijibplkngaa
open Go.RowKit
theorem gainOf_pair (F : Fld) (u : Int) (s : Row) {Q : Prop} (_ : Q) (_ : F.Small) (hs : s.l.length ≤ 1048576) : ∃ (v : Int) (b : Bool),
    (∀ (G : Fld) (t : Row) (W : World), G.At W → t.At W → G.Like F → t.l = s.l → Calls Try.prog 12 #[G.val, .int .i64 u, .slice t.a t.l.length t.c] W (PInt v b W)) ∧
    (∀ (G : Fld) (t : Row) (W : World), G.At W → t.At W → G.Like F → t.l = s.l → Calls Try.prog 15 #[G.val, .int .i64 u, .slice t.a t.l.length t.c] W (PInt v b W)) :=
  ⟨if askG F u s.l then gainT F u (nats s.l) else 0, askG F u s.l,
    fun G t W hG ht hl hl2 => specGainOf_any G u t W hG ht (by rw [hl2]; exact hs) _ (by rw [hl2, askG_like hl]) _ (by rw [hl2, gainT_like hl]),
    fun G t W hG ht hl hl2 => implGainOf_any G u t W hG ht (by rw [hl2]; exact hs) _ (by rw [hl2, askG_like hl]) _ (by rw [hl2, gainT_like hl])⟩
end Go.Proofs.Ytmddijibplkngaa
