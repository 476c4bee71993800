/- Codec: the contracts of the functions on numbers. -/
import Derived.Test.YtomiacedailmaaaRows
import Derived.WalkKit
import Derived.WalkSpells
import Derived.WalkLawsBesides
namespace Go.Proofs.Ytomiacedailmaaa
open Go.RowKit

theorem ret_int {k : IntKind} {a b : Int} (h : a = b) : Ending.returned (.int k a) = .returned (.int k b) := by rw [h]
theorem ret_bool {a b : Bool} (h : a = b) : Ending.returned (.bool a) = .returned (.bool b) := by rw [h]

theorem not_u64 (x : Int) (h0 : 0 ≤ x) (h1 : x ≤ 18446744073709551615) : bits .xor .u64 IntKind.u64.max x = 18446744073709551615 - x := by
  have e : IntKind.u64.max = 18446744073709551615 := by decide
  rw [e, u64_xor _ _ (by omega) (by omega) h0 (by omega)]
  obtain ⟨n, rfl⟩ := Int.eq_ofNat_of_zero_le h0
  have hb : (BitVec.allOnes 64 ^^^ BitVec.ofNat 64 n).toNat = (18446744073709551615 : Int).toNat ^^^ ((n : Int)).toNat := by
    rw [BitVec.toNat_xor, BitVec.toNat_allOnes, BitVec.toNat_ofNat, Nat.mod_eq_of_lt (by omega)]
    rfl
  rw [← hb, BitVec.allOnes_xor, BitVec.toNat_not, BitVec.toNat_ofNat, Nat.mod_eq_of_lt (by omega)]
  omega

/-- the unsigned form of an integer -/
def uns (n : Int) : Int := if 0 ≤ n then 2 * n else -2 * n - 1
theorem uns_pos {n : Int} (h : 0 ≤ n) : uns n = 2 * n := if_pos h
theorem uns_neg {n : Int} (h : n < 0) : uns n = -2 * n - 1 := if_neg (by omega)

/-- the integer with an unsigned form -/
def sgn (u : Int) : Int := if u % 2 = 1 then -(u / 2) - 1 else u / 2
theorem sgn_odd {n : Int} (h : n % 2 = 1) : sgn n = -(n / 2) - 1 := if_pos h
theorem sgn_even {n : Int} (h : n % 2 = 0) : sgn n = n / 2 := if_neg (by omega)

set_option maxHeartbeats 400000 in
theorem runs_any (n : Int) (w : World) (h1 : -9223372036854775808 ≤ n) (h2 : n ≤ 9223372036854775807) :
    Calls Try.prog 44 #[.int .i64 n] w fun e w' => e = .returned (.int .u64 (uns n)) ∧ w = w' := by
  by_cases h : 0 ≤ n
  · go_enter Try.func44, Try.ntmps44
    go_wp2
    go_ret
    exact ⟨ret_int (uns_pos h).symm, rfl⟩
  · have h' : n < 0 := by omega
    go_enter Try.func44, Try.ntmps44
    go_wp2
    go_ret
    exact ⟨ret_int (by rw [uns_neg h']; omega), rfl⟩

theorem shl_neg (n : Int) (h1 : -9223372036854775808 ≤ n) (h : n < 0) : bits BinOp.xor IntKind.u64 IntKind.u64.max (IntKind.u64.wrap (IntKind.u64.wrap n * 2)) = uns n := by
  rw [uns_neg h, IntKind.wrap_u64, IntKind.wrap_u64, not_u64 _ (by omega) (by omega)]
  omega

set_option maxHeartbeats 400000 in
theorem uns_any (n : Int) (w : World) (h1 : -9223372036854775808 ≤ n) (h2 : n ≤ 9223372036854775807) :
    Calls Try.prog 59 #[.int .i64 n] w fun e w' => e = .returned (.int .u64 (uns n)) ∧ w = w' := by
  by_cases h : 0 ≤ n
  · go_enter Try.func59, Try.ntmps59
    go_wp2
    go_ret
    exact ⟨ret_int (by rw [uns_pos h]; omega), rfl⟩
  · have h' : n < 0 := by omega
    go_enter Try.func59, Try.ntmps59
    go_wp2
    go_ret
    exact ⟨ret_int (shl_neg n h1 h'), rfl⟩

theorem and_one (u : Int) (h1 : 0 ≤ u) (h2 : u ≤ 18446744073709551615) : bits BinOp.and IntKind.u64 u 1 = u % 2 := by
  rw [u64_and _ _ h1 (by omega) (by omega) (by omega)]
  obtain ⟨n, rfl⟩ := Int.eq_ofNat_of_zero_le h1
  show ((n &&& 1 : Nat) : Int) = _
  rw [nat_mask1]
  omega

set_option maxHeartbeats 400000 in
theorem sgn_any (u : Int) (w : World) (h1 : 0 ≤ u) (h2 : u ≤ 18446744073709551615) :
    Calls Try.prog 48 #[.int .u64 u] w fun e w' => e = .returned (.int .i64 (sgn u)) ∧ w = w' := by
  have ha := and_one u h1 h2
  by_cases ho : u % 2 = 1
  · have hb : (bits BinOp.and IntKind.u64 u 1 == 1) = true := by rw [ha]; simp [ho]
    have HO : Hid (u % 2 = 1) := ho
    clear ha ho
    go_enter Try.func48, Try.ntmps48
    go_wp2
    go_ret
    refine ⟨ret_int ?_, rfl⟩
    rw [sgn_odd HO.out, not_u64 _ (by omega) (by omega)]
    unfold wrap64
    omega
  · have hb : (bits BinOp.and IntKind.u64 u 1 == 1) = false := by rw [ha]; simp [ho]
    have HO : Hid (¬ u % 2 = 1) := ho
    clear ha ho
    go_enter Try.func48, Try.ntmps48
    go_wp2
    go_ret
    exact ⟨ret_int (by rw [sgn_even (by have := HO.out; omega)]), rfl⟩
end Go.Proofs.Ytomiacedailmaaa
