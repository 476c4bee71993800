/- Digest: words of 32 bits, as the model has them. -/
import Derived.Test.YtllkkafajchioaaDoorRows
import Derived.WalkKit
import Derived.WalkSpells
import Derived.WalkLawsBesides
import Derived.BigQuiet
namespace Go.Proofs.YtllkkafajchioaaDoor
open Go.RowKit

theorem ret_int {k : IntKind} {a b : Int} (h : a = b) : Ending.returned (.int k a) = .returned (.int k b) := by rw [h]
theorem ret_bool {a b : Bool} (h : a = b) : Ending.returned (.bool a) = .returned (.bool b) := by rw [h]

/-- a word as the model's number -/
def I (x : UInt32) : Int := (x.toNat : Int)
theorem I_nat (x : UInt32) : I x = (x.toNat : Int) := rfl
theorem I_lt (x : UInt32) : x.toNat < 4294967296 := x.toNat_lt
theorem I_nonneg (x : UInt32) : 0 ≤ I x := Int.natCast_nonneg _
theorem I_le (x : UInt32) : I x < 4294967296 := by have := I_lt x; unfold I; omega
theorem I_inj {x y : UInt32} (h : I x = I y) : x = y := UInt32.toNat_inj.1 (by unfold I at h; omega)

theorem I_add (x y : UInt32) : IntKind.u32.wrap (I x + I y) = I (x + y) := by
  rw [IntKind.wrap_u32']; unfold I; rw [UInt32.toNat_add]; omega
theorem I_xor (x y : UInt32) : bits .xor .u32 (I x) (I y) = I (x ^^^ y) := by
  unfold I; rw [u32_xor_nat _ _ (I_lt x) (I_lt y), UInt32.toNat_xor]
theorem I_and (x y : UInt32) : bits .and .u32 (I x) (I y) = I (x &&& y) := by
  unfold I; rw [u32_and_nat _ _ (I_lt x) (I_lt y), UInt32.toNat_and]
theorem I_or (x y : UInt32) : bits .or .u32 (I x) (I y) = I (x ||| y) := by
  unfold I; rw [u32_or_nat _ _ (I_lt x) (I_lt y), UInt32.toNat_or]
theorem I_not (x : UInt32) : bits .xor .u32 IntKind.u32.max (I x) = I (~~~x) := by
  have e : IntKind.u32.max = ((4294967295 : Nat) : Int) := by decide
  unfold I
  rw [e, u32_xor_nat _ _ (by omega) (I_lt x)]
  have : (~~~x).toNat = 4294967295 ^^^ x.toNat := by
    have h : ~~~x = 4294967295 ^^^ x := by
      apply UInt32.toBitVec_inj.1
      simp only [UInt32.toBitVec_not, UInt32.toBitVec_xor]
      rw [← BitVec.allOnes_xor]
      rfl
    rw [h, UInt32.toNat_xor]
    rfl
  rw [this]

/-- x shifted to the right -/
theorem I_shr (x : UInt32) (n : Nat) (h : n < 32) : I x / 2 ^ n = I (x >>> (UInt32.ofNat n)) := by
  unfold I
  rw [UInt32.toNat_shiftRight, Nat.shiftRight_eq_div_pow]
  have : (UInt32.ofNat n).toNat % 32 = n := by
    rw [UInt32.toNat_ofNat', Nat.mod_eq_of_lt (by omega : n < 2 ^ 32), Nat.mod_eq_of_lt h]
  rw [this]
  norm_cast
theorem I_shl (x : UInt32) (n : Nat) (h : n < 32) : I x * 2 ^ n % 4294967296 = I (x <<< (UInt32.ofNat n)) := by
  unfold I
  rw [UInt32.toNat_shiftLeft, Nat.shiftLeft_eq]
  have : (UInt32.ofNat n).toNat % 32 = n := by
    rw [UInt32.toNat_ofNat', Nat.mod_eq_of_lt (by omega : n < 2 ^ 32), Nat.mod_eq_of_lt h]
  rw [this]
  have e : (2 : Nat) ^ 32 = 4294967296 := by decide
  rw [e, Int.natCast_emod, Int.natCast_mul, Int.natCast_pow]
  rfl

/-- rotated to the right -/
def rr (n : Nat) (x : UInt32) : UInt32 := (x <<< UInt32.ofNat (32 - n)) ||| (x >>> UInt32.ofNat n)

theorem neg_and (n : Nat) (h0 : 0 < n) (h1 : n < 32) : bits .and .u64 (IntKind.u64.wrap (-(n : Int))) 31 = 32 - n := by
  rw [IntKind.wrap_u64, u64_and _ _ (by omega) (by omega) (by omega) (by omega)]
  have e : ((-(n : Int)) % 18446744073709551616).toNat = 18446744073709551616 - n := by omega
  show ((((-(n : Int)) % 18446744073709551616).toNat &&& 31 : Nat) : Int) = _
  rw [e, nat_mask5]
  omega

set_option maxHeartbeats 400000 in
theorem rotl_all (x : UInt32) (n : Nat) (w : World) (h0 : 0 < n) (h1 : n < 32) :
    Calls Tryd.prog 59 #[.int .u32 (I x), .int .i64 (-(n : Int))] w fun e w' => e = .returned (.int .u32 (I (rr n x))) ∧ w = w' := by
  have e1 := neg_and n h0 h1
  have h2 : (0 : Int) ≤ 32 - n := by omega
  have e2 : IntKind.u64.wrap (32 - (32 - (n : Int))) = n := by rw [IntKind.wrap_u64]; omega
  have h3 : (0 : Int) ≤ n := by omega
  go_enter Tryd.func59, Tryd.ntmps59
  go_wp2
  go_ret
  exact ⟨ret_int (by rw [I_shl x _ (by omega), I_shr x _ h1, I_or]; rfl), rfl⟩

set_option maxHeartbeats 400000 in
theorem ror_all (x : UInt32) (n : Nat) (w : World) (h0 : 0 < n) (h1 : n < 32) :
    Calls Tryd.prog 54 #[.int .u32 (I x), .int .i64 n] w fun e w' => e = .returned (.int .u32 (I (rr n x))) ∧ w' = w := by
  have e1 : wrap64 (-(n : Int)) = -n := by unfold wrap64; omega
  go_enter Tryd.func54, Tryd.ntmps54
  go_wp2_with fail
  refine (rotl_all x n w h0 h1).mono ?_
  rintro e w' ⟨rfl, rfl⟩
  go_wp2_with fail
  go_ret
  exact ⟨rfl, rfl⟩

theorem rr_swap (n : Nat) (x : UInt32) : (x >>> UInt32.ofNat n) ||| (x <<< UInt32.ofNat (32 - n)) = rr n x := by
  unfold rr; exact UInt32.or_comm _ _

/-- nothing but draws -/
def Dr (w w' : World) : Prop := ∃ m, w' = w.drewN m

set_option maxHeartbeats 400000 in
theorem rror_all (x : UInt32) (n : Nat) (w : World) (h0 : 0 < n) (h1 : n < 32) :
    Calls Tryd.prog 61 #[.int .u32 (I x), .int .i64 n] w fun e w' => e = .returned (.int .u32 (I (rr n x))) ∧ ∃ m, w' = w.drewN m := by
  have e1 : wrap64 (32 - (n : Int)) = 32 - n := by unfold wrap64; omega
  have h2 : (0 : Int) ≤ 32 - n := by omega
  have h3 : (0 : Int) ≤ n := by omega
  go_enter Tryd.func61, Tryd.ntmps61
  go_wp2_with fail
  go_quiet (fail)
  go_wp2_with fail
  go_ret
  exact ⟨ret_int (by rw [I_shl x _ (by omega), I_shr x _ h1, I_or, rr_swap]), _, rfl⟩

/-- the word of four bytes -/
def wd (a b c d : UInt8) : UInt32 := (((a.toUInt32 <<< 24) ||| (b.toUInt32 <<< 16)) ||| (c.toUInt32 <<< 8)) ||| d.toUInt32

/-- bytes as cells -/
def U (l : List UInt8) : List Value := l.map fun b => Value.int .u8 b.toNat
/-- words as cells -/
def R32 (l : List UInt32) : List Value := l.map fun x => Value.int .u32 (I x)
theorem R32_len (l : List UInt32) : (R32 l).length = l.length := by simp [R32]
theorem R32_get (l : List UInt32) (i : Nat) (x : UInt32) (h : l[i]? = some x) : (R32 l)[i]? = some (.int .u32 (I x)) := by simp [R32, h]

theorem I_u8 (a : UInt8) : (a.toNat : Int) % 4294967296 = I a.toUInt32 := by
  have := a.toNat_lt
  unfold I; rw [UInt8.toNat_toUInt32]; omega

theorem I_wd (a b c d : UInt8) : bits .or .u32 (bits .or .u32 (bits .or .u32 ((a.toNat : Int) % 4294967296 * 16777216 % 4294967296) ((b.toNat : Int) % 4294967296 * 65536 % 4294967296)) ((c.toNat : Int) % 4294967296 * 256 % 4294967296)) ((d.toNat : Int) % 4294967296) = I (wd a b c d) := by
  have e1 := I_shl a.toUInt32 24 (by omega)
  have e2 := I_shl b.toUInt32 16 (by omega)
  have e3 := I_shl c.toUInt32 8 (by omega)
  rw [I_u8, I_u8, I_u8, I_u8]
  rw [show (2 : Int) ^ 24 = 16777216 by decide] at e1
  rw [show (2 : Int) ^ 16 = 65536 by decide] at e2
  rw [show (2 : Int) ^ 8 = 256 by decide] at e3
  rw [e1, e2, e3, I_or, I_or, I_or]
  rfl

set_option maxHeartbeats 400000 in
theorem word_all (a b c d : UInt8) (g o len cap : Nat) (w : World) (hl : 4 ≤ len)
    (c0 : w.cell? ⟨g, o, none⟩ = some (.int .u8 a.toNat)) (c1 : w.cell? ⟨g, o + 1, none⟩ = some (.int .u8 b.toNat)) (c2 : w.cell? ⟨g, o + 2, none⟩ = some (.int .u8 c.toNat)) (c3 : w.cell? ⟨g, o + 3, none⟩ = some (.int .u8 d.toNat)) :
    Calls Tryd.prog 58 #[.slice (some ⟨g, o, none⟩) len cap] w fun e w' => e = .returned (.int .u32 (I (wd a b c d))) ∧ ∃ m, w' = w.drewN m := by
  go_enter Tryd.func58, Tryd.ntmps58
  go_wp2_with fail
  go_quiet (fail)
  go_wp2_with fail
  go_ret
  exact ⟨ret_int (I_wd a b c d), _, rfl⟩

set_option maxHeartbeats 400000 in
theorem rword_all (a b c d : UInt8) (g o len cap : Nat) (w : World) (hl : 4 ≤ len)
    (c0 : w.cell? ⟨g, o, none⟩ = some (.int .u8 a.toNat)) (c1 : w.cell? ⟨g, o + 1, none⟩ = some (.int .u8 b.toNat)) (c2 : w.cell? ⟨g, o + 2, none⟩ = some (.int .u8 c.toNat)) (c3 : w.cell? ⟨g, o + 3, none⟩ = some (.int .u8 d.toNat)) :
    Calls Tryd.prog 60 #[.slice (some ⟨g, o, none⟩) len cap] w fun e w' => e = .returned (.int .u32 (I (wd a b c d))) ∧ ∃ m, w' = w.drewN m := by
  go_enter Tryd.func60, Tryd.ntmps60
  go_wp2_with fail
  go_quiet (fail)
  go_wp2_with fail
  go_ret
  exact ⟨ret_int (I_wd a b c d), _, rfl⟩
end Go.Proofs.YtllkkafajchioaaDoor
