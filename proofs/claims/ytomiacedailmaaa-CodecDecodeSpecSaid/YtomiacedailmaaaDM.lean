/- Codec: the reference's reader, whole. -/
import Derived.Test.YtomiacedailmaaaDL
import Derived.Test.YtomiacedailmaaaCV
namespace Go.Proofs.Ytomiacedailmaaa
open Go.ChangeShapes Go.WideShapes Go.ChangeAt Go.RowKit

theorem qvalue_all (d : Nat) : ∀ (rb B : Nat) (L l : List UInt8) (ar : Int) (w : World), RdrQ w rb B L l false → B ≤ rb → d ≤ 16 → ar = 16 - d → L.length < 1099511627776 →
    Calls Try.prog 39 #[.pointer (some ⟨rb, 0, none⟩), .int .i64 ar] w (QPost rb B L w (valP d l)) := by
  have go : ∀ (d : Nat), (∀ d', d = d' + 1 → ∀ (rb B : Nat) (L l : List UInt8) (ar : Int) (w : World), RdrQ w rb B L l false → B ≤ rb → d' ≤ 16 → ar = 16 - d' → L.length < 1099511627776 → Calls Try.prog 39 #[.pointer (some ⟨rb, 0, none⟩), .int .i64 ar] w (QPost rb B L w (valP d' l))) →
      ∀ (rb B : Nat) (L l : List UInt8) (ar : Int) (w : World), RdrQ w rb B L l false → B ≤ rb → d ≤ 16 → ar = 16 - d → L.length < 1099511627776 →
      Calls Try.prog 39 #[.pointer (some ⟨rb, 0, none⟩), .int .i64 ar] w (QPost rb B L w (valP d l)) := by
    intro d ih rb B L l ar w hr hB hd har hL
    cases l with
    | nil => exact qvalue_none rb B L d ar w hr hB
    | cons c r =>
      by_cases h1 : c.toNat = 1
      · exact qvalue_int rb B c L r d ar w hr hB h1
      by_cases h2 : c.toNat = 2
      · exact qvalue_text rb B c L r d ar w hr hB h2
      by_cases h3 : c.toNat = 3
      · exact qvalue_list rb B c L r d ar w hr hB h3 hd har hL (fun d' e l ww h => ih d' e rb B L l (ar + 1) ww h hB (by omega) (by omega) hL)
      · exact qvalue_other rb B c L r d ar w hr hB h1 h2 h3
  induction d with
  | zero => exact go 0 (fun d' e => by omega)
  | succ d ih => exact go (d + 1) (fun d' e => by obtain rfl : d' = d := by omega
                                                  exact ih)

theorem rencode0 (v : V) (A : Option Addr) (cap B : Nat) (w : World) (hv : RdV w (· < B) v A cap) (hB : B ≤ w.heap.size) (hl : v.enc.length < 1099511627776) :
    Calls Try.prog 29 #[v.val A cap] w fun e w' => ∃ bv, e = .returned bv ∧ Own w' w.heap.size bv v.enc ∧ Below w.heap.size w w' := by
  exact rencode_all v A cap B w hv hB hl
end Go.Proofs.Ytomiacedailmaaa
