/- Digest: where a list is divided. (How the numbers of the library's functions lie: as lay-shelf.mjs and lay-plain.mjs print it of the dump.) -/
import Derived.Shelf.Small.Bits
import Derived.Shelf.Strconv.Itoa0
import Derived.Test.YtgojodldnodjpaaDoorHA
import Derived.Lib.Hide
namespace Go.Proofs.YtgojodldnodjpaaDoor
open Go.RowKit Go.Shelf

def lren : Go.Shelf.Ren := ⟨fun | 125 => 52 | 128 => 55 | 129 => 56 | n => n, fun | 46 => 72 | 3 => 3 | 51 => 49 | 53 => 70 | 4 => 4 | 5 => 5 | 9 => 9 | n => n, fun | n => n⟩
theorem llays : Go.Proofs.Lays.n125 Tryd.prog lren := {
  mixed := by kernel_rfl
  f125 := Tryd.func52.trans (congrArg some (by kernel_rfl))
  f128 := Tryd.func55.trans (congrArg some (by kernel_rfl))
  f129 := Tryd.func56.trans (congrArg some (by kernel_rfl))
  t3 := Tryd.underlying3
  a3 := Tryd.isAgg3
  z3 := Tryd.sizeOf3
  v3 := Tryd.zeroValue3
  t4 := Tryd.underlying4
  a4 := Tryd.isAgg4
  z4 := Tryd.sizeOf4
  v4 := Tryd.zeroValue4
  t5 := Tryd.underlying5
  a5 := Tryd.isAgg5
  z5 := Tryd.sizeOf5
  v5 := Tryd.zeroValue5
  t9 := Tryd.underlying9
  a9 := Tryd.isAgg9
  z9 := Tryd.sizeOf9
  v9 := Tryd.zeroValue9
  t46 := Tryd.underlying72
  a46 := Tryd.isAgg72
  z46 := Tryd.sizeOf72
  v46 := Tryd.zeroValue72
  t51 := Tryd.underlying49
  a51 := Tryd.isAgg49
  z51 := Tryd.sizeOf49
  v51 := Tryd.zeroValue49
  t53 := Tryd.underlying70
  a53 := Tryd.isAgg70
  z53 := Tryd.sizeOf70
  v53 := Tryd.zeroValue70 }
theorem len_all (x : Nat) (w : World) (hx : x < 18446744073709551616) :
    Calls Tryd.prog 52 #[.int .u64 (x : Int)] w fun e w' => e = .returned (.int .i64 (Lib.bitLen x)) ∧ w' = w :=
  Go.Proofs.Any.bits_Len llays (x : Int) w (by omega) (by omega)

theorem aux_bd (f : Nat) : ∀ x, x < 2 ^ f → 0 < x → ∃ k, Lib.bitLenAux f x = k + 1 ∧ 2 ^ k ≤ x ∧ x < 2 ^ (k + 1) := by
  induction f with
  | zero => intro x h h0; simp at h; omega
  | succ f ih =>
    intro x h h0
    rw [Lib.bitLenAux, if_neg (by omega)]
    by_cases h1 : x / 2 = 0
    · refine ⟨0, ?_, by omega, by omega⟩
      rw [h1]
      cases f <;> simp [Lib.bitLenAux]
    · obtain ⟨k, hk, h2, h3⟩ := ih (x / 2) (by rw [Nat.pow_succ] at h; omega) (by omega)
      refine ⟨k + 1, by omega, by rw [Nat.pow_succ]; omega, by rw [Nat.pow_succ]; omega⟩

/-- the greatest power of 2 less than n -/
def hf (n : Nat) : Nat := 2 ^ (Lib.bitLen (n - 1) - 1)
theorem hf_spec (n : Nat) (h : 2 ≤ n) (hn : n ≤ 2 ^ 64) : ∃ k, Lib.bitLen (n - 1) = k + 1 ∧ hf n = 2 ^ k ∧ hf n < n ∧ n ≤ 2 * hf n ∧ 0 < hf n := by
  obtain ⟨k, hk, h1, h2⟩ := aux_bd 64 (n - 1) (by omega) (by omega)
  have e : hf n = 2 ^ k := by rw [hf, Lib.bitLen, hk]; rfl
  refine ⟨k, hk, e, ?_, ?_, ?_⟩ <;> rw [e]
  · omega
  · rw [Nat.pow_succ] at h2; omega
  · exact Nat.two_pow_pos k

set_option maxHeartbeats 800000 in
theorem split_all (n : Nat) (w : World) (h : 2 ≤ n) (hn : n ≤ 2199023255552) :
    Calls Tryd.prog 35 #[.int .i64 n] w fun e w' => e = .returned (.int .i64 (hf n)) ∧ w' = w := by
  obtain ⟨k, hk, he, h1, h2, h3⟩ := hf_spec n h (by omega)
  have hkl : k < 42 := by
    by_cases hc : k < 42
    · exact hc
    · have : 2 ^ 42 ≤ 2 ^ k := Nat.pow_le_pow_right (by omega) (by omega)
      omega
  have C := len_all (n - 1) w (by omega)
  rw [hk] at C
  have e1 : ((n - 1 : Nat) : Int) = (n : Int) - 1 := by omega
  rw [e1] at C
  have e2 : IntKind.u64.wrap ((n : Int) - 1) = n - 1 := by rw [IntKind.wrap_u64]; omega
  have e3 : (((k + 1 : Nat) : Int) - 1) = k := by omega
  have hp : ((2 ^ k : Nat) : Int) < 4398046511104 := by
    have : 2 ^ k < 2 ^ 42 := Nat.pow_lt_pow_right (by omega) hkl
    omega
  have HE := Lib.hid he
  have HP := Lib.hid hp
  clear he hk e1 hp h1 h2 h3
  go_enter Tryd.func35, Tryd.ntmps35
  go_wp2_with fail
  refine C.mono ?_
  rintro e w' ⟨rfl, rfl⟩
  go_wp2_with fail
  go_ret
  refine ⟨ret_int ?_, rfl⟩
  have h1 := HP.out
  rw [HE.out]
  rw [Int.natCast_pow] at h1 ⊢
  have h0 : (0 : Int) ≤ ((2 : Nat) : Int) ^ k := Int.le_of_lt (Int.pow_pos (by decide))
  have e4 : ((2 : Nat) : Int) = 2 := rfl
  rw [e4] at h0 h1 ⊢
  unfold wrap64
  omega
end Go.Proofs.YtgojodldnodjpaaDoor
