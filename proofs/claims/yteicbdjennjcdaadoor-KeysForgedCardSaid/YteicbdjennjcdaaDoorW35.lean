/- Keys: what a kind of forgery says, plainly. -/
import Derived.Test.YteicbdjennjcdaaDoorW29
import Derived.Test.YteicbdjennjcdaaDoorW34
namespace Go.Proofs.YteicbdjennjcdaaDoor
set_option maxRecDepth 100000
open Go.RowKit

theorem dgl_d16 (m : List UInt8) (i : Nat) (h : i < 16) : (dgl m).getD i 0 = d16 m i := by
  unfold dgl ds
  rw [List.getD_eq_getElem?_getD, List.getElem?_append_left (by simp; exact h), List.getElem?_map, List.getElem?_range h]
  rfl
theorem dgl_t3 (m : List UInt8) (i : Nat) (h : i < 3) : (dgl m).getD (16 + i) 0 = sm m 16 / 4 ^ (2 - i) % 4 := by
  unfold dgl
  rw [List.getD_eq_getElem?_getD, List.getElem?_append_right (by rw [ds_len]; omega), ds_len, Nat.add_sub_cancel_left, t3, List.getElem?_map, List.getElem?_range h]
  rfl
theorem sm_anti (a b : List UInt8) : ∀ n, (∀ i, i < n → d16 a i ≤ d16 b i) → sm b n ≤ sm a n ∧ (sm b n = sm a n → ∀ i, i < n → d16 a i = d16 b i)
  | 0, _ => ⟨Nat.le_refl _, fun _ i hi => by omega⟩
  | n + 1, h => by
    obtain ⟨h1, h2⟩ := sm_anti a b n fun i hi => h i (by omega)
    have h3 := h n (by omega)
    have h4 := d16_le a n
    have h5 := d16_le b n
    refine ⟨by rw [sm, sm]; omega, fun e i hi => ?_⟩
    rw [sm, sm] at e
    by_cases hin : i = n
    · subst hin; omega
    · exact h2 (by omega) i (by omega)
/-- if no digit of b is less than that of a, the digits are the same -/
theorem dgl_eq_of_le (a b : List UInt8) (h : ∀ i, i < 19 → (dgl a).getD i 0 ≤ (dgl b).getD i 0) : dgl a = dgl b := by
  obtain ⟨h1, h2⟩ := sm_anti a b 16 fun i hi => by
    have := h i (by omega)
    rwa [dgl_d16 a i hi, dgl_d16 b i hi] at this
  have k0 := h 16 (by omega)
  have k1 := h 17 (by omega)
  have k2 := h 18 (by omega)
  rw [show (16 : Nat) = 16 + 0 from rfl, dgl_t3 a 0 (by omega), dgl_t3 b 0 (by omega)] at k0
  rw [show (17 : Nat) = 16 + 1 from rfl, dgl_t3 a 1 (by omega), dgl_t3 b 1 (by omega)] at k1
  rw [show (18 : Nat) = 16 + 2 from rfl, dgl_t3 a 2 (by omega), dgl_t3 b 2 (by omega)] at k2
  have sa := sm_le a 16
  have sb := sm_le b 16
  simp at k0 k1 k2
  have he : sm b 16 = sm a 16 := by omega
  have h3 := h2 he
  unfold dgl
  rw [he]
  congr 1
  unfold ds
  exact List.map_congr_left fun i hi => h3 i (List.mem_range.1 hi)
theorem ex_cases (D K : List Nat) (has : Bool) (C O : List (List UInt8)) :
    ((has = true ∧ D = K) ∧ exF D K has C O = (1, 0)) ∨
    (¬ (has = true ∧ D = K) ∧ ∃ i, i < 19 ∧ exF D K has C O = (2, i) ∧ D.getD i 0 < K.getD i 0 ∧ C.getD i [] = O.getD i []) ∨
    (¬ (has = true ∧ D = K) ∧ exF D K has C O = (3, 0) ∧ ∀ j, j < 19 → D.getD j 0 < K.getD j 0 → C.getD j [] ≠ O.getD j []) := by
  by_cases h : has = true ∧ D = K
  · exact .inl ⟨h, if_pos h⟩
  have he : exF D K has C O = match (erl D K 0).find? (fun i => decide (C.getD i.val [] = O.getD i.val [])) with | some i => (2, i.val) | none => (3, 0) := if_neg h
  cases hf : (erl D K 0).find? (fun i => decide (C.getD i.val [] = O.getD i.val [])) with
  | some i =>
    rw [hf] at he
    have h1 := (erl_mem D K i 19 0 rfl).1 (List.mem_of_find?_eq_some hf)
    have h2 := List.find?_some hf
    exact .inr (.inl ⟨h, i.val, i.isLt, he, h1.2, of_decide_eq_true h2⟩)
  | none =>
    rw [hf] at he
    refine .inr (.inr ⟨h, he, fun j hj hd => ?_⟩)
    have h1 := List.find?_eq_none.1 hf ⟨j, hj⟩ ((erl_mem D K ⟨j, hj⟩ 19 0 rfl).2 ⟨Nat.zero_le _, hd⟩)
    simpa using h1
theorem sm_zero (m : List UInt8) : ∀ n, (∀ i, i < n → 3 ≤ d16 m i) → sm m n = 0
  | 0, _ => rfl
  | n + 1, h => by
    have h1 := sm_zero m n fun i hi => h i (by omega)
    have h2 := h n (by omega)
    rw [sm]
    omega
/-- some chain's digit is less than what was shown -/
theorem ex_less (m b : List UInt8) (has : Bool) (h : ¬ (has = true ∧ dgl m = rvF b has)) : ∃ j, j < 19 ∧ (dgl m).getD j 0 < (rvF b has).getD j 0 := by
  by_cases hn : ∃ j, j < 19 ∧ (dgl m).getD j 0 < (rvF b has).getD j 0
  · exact hn
  exfalso
  have hn' : ∀ j, j < 19 → (rvF b has).getD j 0 ≤ (dgl m).getD j 0 := fun j hj => Nat.not_lt.1 fun hd => hn ⟨j, hj, hd⟩
  cases has with
  | true =>
    have e : dgl b = dgl m := dgl_eq_of_le b m hn'
    exact h ⟨rfl, e.symm⟩
  | false =>
    have h3 : ∀ j, j < 19 → 3 ≤ (dgl m).getD j 0 := fun j hj => by
      have := hn' j hj
      rw [show rvF b false = List.replicate 19 3 from rfl, List.getD_eq_getElem?_getD, List.getElem?_replicate, if_pos hj] at this
      exact this
    have h0 := sm_zero m 16 fun i hi => by rw [← dgl_d16 m i hi]; exact h3 i (by omega)
    have h4 := h3 (16 + 0) (by omega)
    rw [dgl_t3 m 0 (by omega), h0] at h4
    simp at h4
/-- a forgery of the third kind is a collision -/
theorem forged_ways (f : Nat) (hf : f = 1099511627776) (sd m : List UInt8) (n i : Nat) (C P : List (List UInt8)) (hV : VerOk f (rtd f sd n) m n i C P) (hC : ∀ x ∈ C, x.length = 32) (hP : ∀ x ∈ P, x.length = 32) (j : Nat) (hj : j < 19) (hne : C.getD j [] ≠ (sgn (sdK sd i) m).getD j []) :
    Coll (wayS f C (dgl m) i n P) (wayS f (sgn (sdK sd i) m) (dgl m) i n (pth f (pubs sd n) i)) := by
  obtain ⟨hn, hi, hC19, he, hd⟩ := hV
  obtain ⟨_, _, hO19, he', hd'⟩ := VerOk_own f hf sd m n i (by omega) (by omega) (by omega)
  have hc : 1 ≤ (n : Int) ∧ (n : Int) ≤ 1099511627776 ∧ 0 ≤ (i : Int) ∧ (i : Int) < n ∧ P.length = stp f (i : Int).toNat (n : Int).toNat := by
    by_cases hc : 1 ≤ (n : Int) ∧ (n : Int) ≤ 1099511627776 ∧ 0 ≤ (i : Int) ∧ (i : Int) < n ∧ P.length = stp f (i : Int).toNat (n : Int).toNat
    · exact hc
    · rw [cre, if_neg hc] at he; cases he
  have hc' : 1 ≤ (n : Int) ∧ (n : Int) ≤ 1099511627776 ∧ 0 ≤ (i : Int) ∧ (i : Int) < n ∧ (pth f (pubs sd n) i).length = stp f (i : Int).toNat (n : Int).toNat := by
    by_cases hc : 1 ≤ (n : Int) ∧ (n : Int) ≤ 1099511627776 ∧ 0 ≤ (i : Int) ∧ (i : Int) < n ∧ (pth f (pubs sd n) i).length = stp f (i : Int).toNat (n : Int).toNat
    · exact hc
    · rw [cre, if_neg hc] at he'; cases he'
  rw [crd, if_pos hc] at hd
  rw [crd, if_pos hc'] at hd'
  rw [Int.toNat_natCast, Int.toNat_natCast] at hd hd'
  exact way_coll f C _ (dgl m) i n P _ hC19 hO19 (dgl_len m) hC (sgn_dig _ _) hc.2.2.2.2 hc'.2.2.2.2 hP (fun x hx => pth_dig f _ i x hx) (hd.trans hd'.symm) j hj hne
end Go.Proofs.YteicbdjennjcdaaDoor
