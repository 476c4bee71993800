/- Digest: the statements' own count of steps. -/
import Derived.Test.YtgojodldnodjpaaDoorJQ
namespace Go.Proofs.YtgojodldnodjpaaDoor
open Go.RowKit

theorem stp_fuel (f : Nat) : ∀ (g i n : Nat), n ≤ f → n ≤ g → n ≤ 2 ^ 64 → stp f i n = stp g i n := by
  induction f with
  | zero =>
    intro g i n h1 h2 _
    obtain rfl : n = 0 := by omega
    cases g with
    | zero => rfl
    | succ g => rw [stp, stp, if_pos (by omega)]
  | succ f ih =>
    intro g i n h1 h2 h3
    cases g with
    | zero =>
      obtain rfl : n = 0 := by omega
      rw [stp, stp, if_pos (by omega)]
    | succ g =>
      rw [stp, stp]
      by_cases hn : n ≤ 1
      · rw [if_pos hn, if_pos hn]
      · rw [if_neg hn, if_neg hn]
        obtain ⟨k, _, _, hk1, hk2, hk3⟩ := hf_spec n (by omega) h3
        split
        · rw [ih g i (hf n) (by omega) (by omega) (by omega)]
        · rw [ih g (i - hf n) (n - hf n) (by omega) (by omega) (by omega)]
theorem stp_one (f i : Nat) : stp f i 1 = 0 := by
  cases f with
  | zero => rfl
  | succ f => rw [stp, if_pos (by omega)]
theorem stp_lo (f i n : Nat) (h1 : 2 ≤ n) (h2 : n ≤ f) (h3 : n ≤ 2 ^ 64) (h : i < hf n) : stp f i n = 1 + stp f i (hf n) := by
  obtain ⟨k, _, _, hk1, hk2, hk3⟩ := hf_spec n (by omega) h3
  cases f with
  | zero => omega
  | succ f =>
    conv => lhs; rw [stp, if_neg (by omega), if_pos h]
    rw [stp_fuel f (f + 1) i (hf n) (by omega) (by omega) (by omega)]
theorem stp_hi (f i n : Nat) (h1 : 2 ≤ n) (h2 : n ≤ f) (h3 : n ≤ 2 ^ 64) (h : ¬ i < hf n) : stp f i n = 1 + stp f (i - hf n) (n - hf n) := by
  obtain ⟨k, _, _, hk1, hk2, hk3⟩ := hf_spec n (by omega) h3
  cases f with
  | zero => omega
  | succ f =>
    conv => lhs; rw [stp, if_neg (by omega), if_neg h]
    rw [stp_fuel f (f + 1) (i - hf n) (n - hf n) (by omega) (by omega) (by omega)]

set_option maxRecDepth 100000 in
set_option maxHeartbeats 1600000 in
theorem lsteps_all (f i n : Nat) (w : World) (hi : i < n) (hn : n ≤ f) (hf2 : f ≤ 1099511627776) :
    Calls Tryd.prog 24 #[.int .i64 i, .int .i64 n] w fun e w' => e = .returned (.int .i64 (stp f i n)) ∧ w' = w := by
  have hst := stp_le f i n
  go_enter Tryd.func24, Tryd.ntmps24
  go_wp2_with fail
  go_loop [0, 1, 5] (fun a m c => ∃ i' n' c' : Nat, a = .int .i64 i' ∧ m = .int .i64 n' ∧ c = .int .i64 c' ∧ i' < n' ∧ n' ≤ n ∧ Hid (c' + stp f i' n' = stp f i n)) (fun _ m _ => (intOf m).toNat)
  case atStart => exact ⟨i, n, 0, rfl, rfl, rfl, hi, Nat.le_refl _, Lib.hid (by omega)⟩
  case round =>
    obtain ⟨i', n', c', rfl, rfl, rfl, h1, h2, HE⟩ := hrel
    have hc' : c' ≤ 1099511627776 := by have := HE.out; omega
    by_cases hn1 : 1 < n'
    · obtain ⟨k, hkb, hk0, hk1, hk2, hk3⟩ := hf_spec n' (by omega) (by omega)
      obtain ⟨K, hK⟩ : ∃ K, K = hf n' := ⟨_, rfl⟩
      have HPOW := Lib.hid (show ∀ t : Nat, 2 ^ t < n' → n' ≤ 2 * 2 ^ t → 2 ^ t = K from fun t a b => by rw [hK]; exact hf_of_pow (by omega) (by omega) a b)
      have HL := Lib.hid (show i' < K → stp f i' n' = 1 + stp f i' K from fun h => by rw [hK] at h ⊢; exact stp_lo f i' n' (by omega) (by omega) (by omega) h)
      have HR := Lib.hid (show ¬ i' < K → stp f i' n' = 1 + stp f (i' - K) (n' - K) from fun h => by rw [hK] at h ⊢; exact stp_hi f i' n' (by omega) (by omega) (by omega) h)
      rw [← hK] at hk1 hk2 hk3
      clear hK hk0 hkb k
      go_wp2_with fail
      go_loop [6] (fun x => ∃ t : Nat, x = .int .i64 (2 ^ t : Nat) ∧ 2 ^ t < n') (fun x => n' - (intOf x).toNat)
      case atStart => exact ⟨0, rfl, by omega⟩
      case round =>
        obtain ⟨t, rfl, ht⟩ := hrel
        have HP1 := Lib.hid (HPOW.out t ht)
        have HT := Lib.hid (show 2 ^ t * 2 = 2 ^ (t + 1) by rw [Nat.pow_succ])
        have hpos : 0 < 2 ^ t := Nat.pos_of_ne_zero (by simp)
        obtain ⟨x, hx⟩ : ∃ x, x = 2 ^ t := ⟨_, rfl⟩
        rw [← hx] at ht hpos HP1 HT ⊢
        by_cases h2x : 2 * x < n'
        · clear HP1 hx
          go_wp2_with fail
          go_round
          case rel => exact ⟨t + 1, by rw [← HT.out]; go_num, by rw [← HT.out]; omega⟩
          case measure => simp [intOf]; omega
        · have e := HP1.out (by omega)
          clear HP1 HT hx
          subst e
          by_cases hik : i' < x
          · have HL' := Lib.hid (HL.out hik)
            go_wp2_with fail
            go_round
            case rel => exact ⟨i', x, c' + 1, rfl, rfl, by go_num, hik, by omega, Lib.hid (by have := HL'.out; have := HE.out; omega)⟩
            case measure => simp [intOf]; omega
          · have HR' := Lib.hid (HR.out hik)
            go_wp2_with fail
            go_round
            case rel => exact ⟨i' - x, n' - x, c' + 1, by go_num, by go_num, by go_num, by omega, by omega, Lib.hid (by have := HR'.out; have := HE.out; omega)⟩
            case measure => simp [intOf]; omega
    · obtain rfl : n' = 1 := by omega
      go_wp2_with fail
      go_ret
      exact ⟨ret_int (by have := HE.out; rw [stp_one] at this; omega), rfl⟩
end Go.Proofs.YtgojodldnodjpaaDoor
