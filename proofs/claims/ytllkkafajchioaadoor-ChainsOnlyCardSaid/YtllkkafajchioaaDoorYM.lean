/- Chains: what the digits of two messages say of each other: plain. -/
import Derived.Test.YtllkkafajchioaaDoorXX
namespace Go.Proofs.YtllkkafajchioaaDoor

theorem earF_none (D E : List Nat) : ∀ (f k : Nat), earF D E f k = none → ∀ j, k ≤ j → j < k + f → ¬ E.getD j 0 < D.getD j 0
  | 0, k, _, j, h1, h2 => by omega
  | f + 1, k, h, j, h1, h2 => by
    rw [earF] at h
    by_cases hc : E.getD k 0 < D.getD k 0
    · rw [if_pos hc] at h; cases h
    · rw [if_neg hc] at h
      by_cases e : j = k
      · rw [e]; exact hc
      · exact earF_none D E f (k + 1) h j (by omega) (by omega)
theorem earF_some (D E : List Nat) : ∀ (f k i : Nat), earF D E f k = some i → k ≤ i ∧ i < k + f ∧ E.getD i 0 < D.getD i 0
  | 0, k, i, h => by cases h
  | f + 1, k, i, h => by
    rw [earF] at h
    by_cases hc : E.getD k 0 < D.getD k 0
    · rw [if_pos hc] at h
      injection h with h
      subst h
      exact ⟨Nat.le_refl _, by omega, hc⟩
    · rw [if_neg hc] at h
      obtain ⟨h1, h2, h3⟩ := earF_some D E f (k + 1) i h
      exact ⟨by omega, by omega, h3⟩
theorem dgl_d16 (m : List UInt8) (i : Nat) (h : i < 16) : (dgl m).getD i 0 = d16 m i := by
  unfold dgl ds
  rw [List.getD_eq_getElem?_getD, List.getElem?_append_left (by simp; exact h), List.getElem?_map, List.getElem?_range h]
  rfl
theorem dgl_t3 (m : List UInt8) (i : Nat) (h : i < 3) : (dgl m).getD (16 + i) 0 = sm m 16 / 4 ^ (2 - i) % 4 := by
  unfold dgl
  rw [List.getD_eq_getElem?_getD, List.getElem?_append_right (by rw [ds_len]; omega), ds_len, Nat.add_sub_cancel_left, t3, List.getElem?_map, List.getElem?_range h]
  rfl
theorem sm_anti (a b : List UInt8) : ∀ n, (∀ i, i < n → d16 a i ≤ d16 b i) → sm b n ≤ sm a n ∧ (sm b n = sm a n → ∀ i, i < n → d16 a i = d16 b i)
  | 0, _ => ⟨Nat.le_refl _, fun _ i hi => by omega⟩
  | n + 1, h => by
    obtain ⟨h1, h2⟩ := sm_anti a b n fun i hi => h i (by omega)
    have h3 := h n (by omega)
    have h4 := d16_le a n
    have h5 := d16_le b n
    refine ⟨by rw [sm, sm]; omega, fun e i hi => ?_⟩
    rw [sm, sm] at e
    by_cases hin : i = n
    · subst hin; omega
    · exact h2 (by omega) i (by omega)
/-- if no digit of b is less than that of a, the digits are the same -/
theorem dgl_eq_of_le (a b : List UInt8) (h : ∀ i, i < 19 → (dgl a).getD i 0 ≤ (dgl b).getD i 0) : dgl a = dgl b := by
  obtain ⟨h1, h2⟩ := sm_anti a b 16 fun i hi => by
    have := h i (by omega)
    rwa [dgl_d16 a i hi, dgl_d16 b i hi] at this
  have k0 := h 16 (by omega)
  have k1 := h 17 (by omega)
  have k2 := h 18 (by omega)
  rw [show (16 : Nat) = 16 + 0 from rfl, dgl_t3 a 0 (by omega), dgl_t3 b 0 (by omega)] at k0
  rw [show (17 : Nat) = 16 + 1 from rfl, dgl_t3 a 1 (by omega), dgl_t3 b 1 (by omega)] at k1
  rw [show (18 : Nat) = 16 + 2 from rfl, dgl_t3 a 2 (by omega), dgl_t3 b 2 (by omega)] at k2
  have sa := sm_le a 16
  have sb := sm_le b 16
  simp at k0 k1 k2
  have he : sm b 16 = sm a 16 := by omega
  have h3 := h2 he
  unfold dgl
  rw [he]
  congr 1
  unfold ds
  exact List.map_congr_left fun i hi => h3 i (List.mem_range.1 hi)
theorem ear_is (a b : List UInt8) (h : dgl a ≠ dgl b) : ∃ i, i < 19 ∧ earF (dgl a) (dgl b) 19 0 = some i ∧ (dgl b).getD i 0 < (dgl a).getD i 0 := by
  cases he : earF (dgl a) (dgl b) 19 0 with
  | some i =>
    obtain ⟨_, h2, h3⟩ := earF_some _ _ _ _ _ he
    exact ⟨i, by omega, rfl, h3⟩
  | none =>
    have hn := earF_none _ _ _ _ he
    exact absurd (dgl_eq_of_le a b fun i hi => by have := hn i (by omega) (by omega); omega) h
theorem ear_self (D : List Nat) : earF D D 19 0 = none := by
  cases he : earF D D 19 0 with
  | none => rfl
  | some i =>
    obtain ⟨_, _, h3⟩ := earF_some _ _ _ _ _ he
    omega
theorem by_of_digits (x y : UInt8) (h0 : x.toNat / 64 % 4 = y.toNat / 64 % 4) (h1 : x.toNat / 16 % 4 = y.toNat / 16 % 4) (h2 : x.toNat / 4 % 4 = y.toNat / 4 % 4) (h3 : x.toNat % 4 = y.toNat % 4) : x = y := by
  have hx := x.toNat_lt
  have hy := y.toNat_lt
  exact UInt8.toNat_inj.1 (by omega)
/-- the digits say the first four bytes -/
theorem dgl_bytes (a b : List UInt8) : dgl a = dgl b ↔ (by_ a 0 = by_ b 0 ∧ by_ a 1 = by_ b 1 ∧ by_ a 2 = by_ b 2 ∧ by_ a 3 = by_ b 3) := by
  constructor
  · intro h
    have hd : ∀ i, i < 16 → d16 a i = d16 b i := fun i hi => by rw [← dgl_d16 a i hi, ← dgl_d16 b i hi, h]
    have key : ∀ j, j < 4 → by_ a j = by_ b j := fun j hj => by
      have e0 := hd (4 * j) (by omega)
      have e1 := hd (4 * j + 1) (by omega)
      have e2 := hd (4 * j + 2) (by omega)
      have e3 := hd (4 * j + 3) (by omega)
      unfold d16 at e0 e1 e2 e3
      rw [show 4 * j / 4 = j by omega, show 4 * j % 4 = 0 by omega] at e0
      rw [show (4 * j + 1) / 4 = j by omega, show (4 * j + 1) % 4 = 1 by omega] at e1
      rw [show (4 * j + 2) / 4 = j by omega, show (4 * j + 2) % 4 = 2 by omega] at e2
      rw [show (4 * j + 3) / 4 = j by omega, show (4 * j + 3) % 4 = 3 by omega] at e3
      exact by_of_digits _ _ e0 e1 e2 (by simpa using e3)
    exact ⟨key 0 (by omega), key 1 (by omega), key 2 (by omega), key 3 (by omega)⟩
  · rintro ⟨h0, h1, h2, h3⟩
    have key : ∀ j, j < 4 → by_ a j = by_ b j := fun j hj => by
      obtain rfl | rfl | rfl | rfl : j = 0 ∨ j = 1 ∨ j = 2 ∨ j = 3 := by omega
      · exact h0
      · exact h1
      · exact h2
      · exact h3
    have hd : ∀ i, i < 16 → d16 a i = d16 b i := fun i hi => by
      unfold d16
      rw [key (i / 4) (by omega)]
    have hs : ∀ n, n ≤ 16 → sm a n = sm b n := by
      intro n
      induction n with
      | zero => intro _; rfl
      | succ n ih => intro hn; rw [sm, sm, ih (by omega), hd n (by omega)]
    unfold dgl
    rw [hs 16 (by omega)]
    congr 1
    unfold ds
    exact List.map_congr_left fun i hi => hd i (List.mem_range.1 hi)
end Go.Proofs.YtllkkafajchioaaDoor
