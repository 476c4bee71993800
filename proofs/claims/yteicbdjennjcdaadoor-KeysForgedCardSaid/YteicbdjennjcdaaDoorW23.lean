/- Keys: facts about signatures by a leaf itself. -/
import Derived.Test.YteicbdjennjcdaaDoorW22
import Derived.Test.YteicbdjennjcdaaDoorW08
namespace Go.Proofs.YteicbdjennjcdaaDoor
set_option maxRecDepth 100000
open Go.RowKit

theorem pubs_get (s : List UInt8) (n i : Nat) (h : i < n) : (pubs s n)[i]? = some (pubF (sdK s i)) := by
  rw [pubs, List.getElem?_map, List.getElem?_range h]
  rfl
theorem VerOk_own (f : Nat) (hf : f = 1099511627776) (s m : List UInt8) (n i : Nat) (h1 : 1 ≤ n) (h2 : n ≤ 256) (hi : i < n) : VerOk f (rtd f s n) m n i (sgn (sdK s i) m) (pth f (pubs s n) i) := by
  have hp : (pth f (pubs s n) i).length = stp f i n := by
    have := pth_len f (pubs s n) i (by rw [pubs_len]; omega)
    rwa [pubs_len] at this
  have hc : (1 : Int) ≤ n ∧ (n : Int) ≤ 1099511627776 ∧ (0 : Int) ≤ i ∧ (i : Int) < n ∧ (pth f (pubs s n) i).length = stp f (i : Int).toNat (n : Int).toNat := ⟨by omega, by omega, by omega, by omega, by rw [Int.toNat_natCast, Int.toNat_natCast]; exact hp⟩
  refine ⟨by omega, by omega, sgn_len _ _, if_pos hc, ?_⟩
  unfold crd rtd
  rw [if_pos hc, if_pos (by omega), recF_sgn, Int.toNat_natCast, Int.toNat_natCast]
  have := clm_pth f (pubs s n) i (pubF (sdK s i)) (by rw [pubs_len]; omega) (by rw [pubs_len]; omega) (pubs_get s n i hi)
  rwa [pubs_len] at this
theorem ver_own (f : Nat) (hf : f = 1099511627776) (s m : List UInt8) (n i : Nat) (h1 : 1 ≤ n) (h2 : n ≤ 256) (hi : i < n) : verF f (rtd f s n) m n i (sgn (sdK s i) m) (pth f (pubs s n) i) = 0 := if_pos (VerOk_own f hf s m n i h1 h2 hi)
theorem pth_one (f : Nat) (d : List UInt8) (i : Nat) : pth f [d] i = [] := by
  cases f with
  | zero => rfl
  | succ f => simp [pth]
theorem pubs_one (s : List UInt8) : pubs s 1 = [pubF (sdK s 0)] := rfl
def seedK : List UInt8 := 1 :: List.replicate 31 0
def msgK : List UInt8 := 2 :: List.replicate 31 0
theorem dgl_msgK : (dgl msgK).getD 0 0 = 0 := by decide +kernel
theorem exF_first (C : List (List UInt8)) : exF (dgl msgK) (List.replicate 19 3) false C C = (2, 0) :=
  exF_at _ _ _ _ _ rfl 0 (by omega) (fun j hj => by omega) (by rw [dgl_msgK]; decide) rfl
theorem ver_one (f : Nat) (hf : f = 1099511627776) (s m : List UInt8) : verF f (rtd f s 1) m 1 0 (sgn (sdK s 0) m) [] = 0 := by
  have := ver_own f hf s m 1 0 (by omega) (by omega) (by omega)
  rwa [pubs_one, pth_one] at this
theorem fg_same (f : Nat) (s m : List UInt8) (C P : List (List UInt8)) (hm : m ≠ z32) : fgF f s 1 [m] m 0 C P = (0, 0) := by
  unfold fgF
  split
  · rw [if_pos ⟨hm, rfl⟩]
  · rfl
theorem fg_none (f : Nat) (hf : f = 1099511627776) (s : List UInt8) : fgF f s 1 [] msgK 0 (sgn (sdK s 0) msgK) [] = (2, 0) := by
  unfold fgF
  rw [if_pos ⟨rfl, ver_one f hf s msgK⟩, if_neg (fun h => h.1 rfl)]
  exact exF_first _
theorem fg_zero (f : Nat) (s m : List UInt8) (G C P : List (List UInt8)) (i : Int) : fgF f s 0 G m i C P = (0, 0) := if_neg fun h => by cases h.1
theorem ver_none (f : Nat) (r m : List UInt8) : verF f r m 1 0 [] [] = 60 := if_neg fun h => by cases h.2.2.1
end Go.Proofs.YteicbdjennjcdaaDoor
