/- Codec: the reference's reader: a number. -/
import Derived.Test.YtomiacedailmaaaDH
namespace Go.Proofs.Ytomiacedailmaaa
open Go.RowKit

def NPost (rb B : Nat) (L : List UInt8) (w : World) (R : Option (Nat × List UInt8)) (e : Ending) (w' : World) : Prop :=
  w.grownBy w' (some rb) ∧ match R with
  | some (u, r2) => e = .returned (.int .u64 u) ∧ RdrQ w' rb B L r2 false
  | none => ∃ (u : Nat) (r2 : List UInt8), e = .returned (.int .u64 u) ∧ u < 18446744073709551616 ∧ RdrQ w' rb B L r2 true

theorem sum_digit (acc c g i : Nat) (hi : i = 9 - g) (ha : acc < 128 ^ (9 - g)) (h1 : g = 0 → c ≤ 1) :
    IntKind.u64.wrap ((acc : Int) + IntKind.u64.wrap ((c : Int) % 128 * 2 ^ (7 * i))) = ((acc + c % 128 * 128 ^ (9 - g) : Nat) : Int) := by
  have hb : acc + c % 128 * 128 ^ (9 - g) < 18446744073709551616 := by
    rcases Nat.eq_zero_or_pos g with h0 | h0
    · subst h0
      have := h1 rfl
      have h3 : c % 128 ≤ 1 := by omega
      have := Nat.mul_le_mul_right (128 ^ (9 - 0)) h3
      omega
    · have hp : 128 ^ (9 - g) ≤ 128 ^ 8 := Nat.pow_le_pow_right (by omega) (by omega)
      have h3 : c % 128 ≤ 127 := by omega
      have := Nat.mul_le_mul h3 hp
      omega
  have e : (c : Int) % 128 * 2 ^ (7 * i) = ((c % 128 * 128 ^ (9 - g) : Nat) : Int) := by
    rw [hi, pow128 (9 - g), Int.natCast_mul, Int.natCast_pow]; rfl
  rw [e, IntKind.wrap_u64 ((c % 128 * 128 ^ (9 - g) : Nat) : Int), IntKind.wrap_u64]
  generalize c % 128 * 128 ^ (9 - g) = x at hb ⊢
  omega

theorem bad_set {w : World} {rb B : Nat} {L r : List UInt8} {bad : Bool} (h : RdrQ w rb B L r bad) (hB : B ≤ rb) :
    RdrQ (w.setCell ⟨rb, 2, none⟩ (.bool true)) rb B L r true ∧ w.grownBy (w.setCell ⟨rb, 2, none⟩ (.bool true)) (some rb) ∧ w.frozen? ⟨rb, 2, none⟩ = false ∧ w.cell? ⟨rb, 2, none⟩ = some (.bool bad) := by
  obtain ⟨A, cap, a, hh, hb, hd, ha⟩ := h
  exact ⟨⟨_, cap, a, blk_set hh 2 _, hb.keep fun i hi => ⟨hi, Below.heap_setCell _ _ _ _ (by show i ≠ rb; omega)⟩, hd, ha⟩,
    ⟨rfl, rfl, rfl, by simp [World.setCell], fun k _ hne => Below.heap_setCell _ _ _ _ (by intro e; exact hne (by rw [e]))⟩, cells_frozen hh 2, cell_of_row _ _ 2 _ _ _ hh⟩

set_option maxRecDepth 100000 in
set_option maxHeartbeats 1600000 in
theorem number_all (rb B : Nat) (L r : List UInt8) (w : World) (hr : RdrQ w rb B L r false) (hB : B ≤ rb) :
    Calls Try.prog 53 #[.pointer (some ⟨rb, 0, none⟩)] w (NPost rb B L w (numP 10 0 r)) := by
  obtain ⟨R, hR⟩ : ∃ R, R = numP 10 0 r := ⟨_, rfl⟩
  rw [← hR]
  have HP := Lib.hid hR
  have HR := Lib.hid hr
  clear hR hr
  go_enter Try.func53, Try.ntmps53
  go_wp2_with fail
  go_loopw [3, 4] (fun a s wr => ∃ (g acc : Nat) (l' : List UInt8) (i : Nat), a = .int .u64 acc ∧ s = .int .i64 i ∧ g ≤ 9 ∧ i = 9 - g ∧ RdrQ wr rb B L l' false ∧ R = numP (g + 1) acc l' ∧ acc < 128 ^ (9 - g) ∧ w.grownBy wr (some rb)) (fun _ s _ => 10 - (intOf s).toNat)
  case atStart => exact ⟨9, 0, r, 0, rfl, rfl, Nat.le_refl _, rfl, HR.out, HP.out, by simp, World.grownBy.refl _ _⟩
  case round =>
    obtain ⟨g, acc, l', i, rfl, rfl, hg, hi, hrd, hnp, hacc, hgr⟩ := hrel
    have HI := Lib.hid hi
    have HN := Lib.hid hnp
    have HA := Lib.hid hacc
    have HG := Lib.hid hgr
    have hi9 : i ≤ 9 := by omega
    clear hi hnp hacc hgr
    cases l' with
    | nil =>
      have C := Lib.hid (next_end rb B L false wr hrd hB)
      obtain ⟨A, cap, a, hh, _, _, _⟩ := hrd
      have c2 := cell_of_row _ _ 2 _ _ _ hh
      clear hh
      go_wp2_with fail
      refine C.out.mono ?_
      rintro e w1 ⟨rfl, hrd, hg2⟩
      have HG2 := Lib.hid (grown2 HG.out hg2)
      have HRD := Lib.hid hrd
      have HBS := Lib.hid (bad_set hrd hB)
      have f2 := HBS.out.2.2.1
      have c2' := HBS.out.2.2.2
      have HRN : Hid (R = none) := by show R = none; rw [HN.out]; simp [numP]
      have hi := HI.out
      clear hrd hg2 c2
      by_cases h0 : i = 0
      · subst h0
        have ha := HA.out
        rw [show 9 - g = 0 from by omega] at ha
        obtain rfl : acc = 0 := by omega
        clear ha hi
        go_wp2_with fail
        go_ret
        refine ⟨HG2.out, ?_⟩
        rw [HRN.out]
        exact ⟨0, [], rfl, by omega, HRD.out⟩
      · have hip : 0 < i := by omega
        clear hi h0
        by_cases h9 : i = 9
        all_goals
          have hi9 : ((i : Int) == 9) = decide (i = 9) := by rw [Bool.eq_iff_iff]; simp; omega
          simp only [h9, decide_true, decide_false] at hi9
          go_wp2_with fail
          go_ret
          refine ⟨grown2 HG2.out HBS.out.2.1, ?_⟩
          rw [HRN.out]
          exact ⟨0, [], rfl, by omega, HBS.out.1⟩
    | cons c r' =>
      have C := Lib.hid (next_ok rb B L r' c false wr hrd hB)
      obtain ⟨A, cap, a, hh, _, _, _⟩ := hrd
      have c2 := cell_of_row _ _ 2 _ _ _ hh
      clear hh
      have hc := c.toNat_lt
      go_wp2_with fail
      refine C.out.mono ?_
      rintro e w1 ⟨rfl, hrd, hg2⟩
      have HR2 := Lib.hid hrd
      have HG2 := Lib.hid (grown2 HG.out hg2)
      have HBS := Lib.hid (bad_set hrd hB)
      have f2 := HBS.out.2.2.1
      have c2' := HBS.out.2.2.2
      clear hrd hg2 c2
      have hi := HI.out
      have hi9 : ((i : Int) == 9) = decide (i = 9) := by rw [Bool.eq_iff_iff]; simp; omega
      by_cases hnf : (g = 0 ∧ 1 < c.toNat) ∨ (g < 9 ∧ c.toNat = 0)
      · have HRN : Hid (R = none) := by show R = none; rw [HN.out, numP, if_pos hnf]
        have fin : ∀ u : Value, u = .int .u64 0 → NPost rb B L w R (.returned u) (w1.setCell ⟨rb, 2, none⟩ (.bool true)) := fun u hu => by
          refine ⟨grown2 HG2.out HBS.out.2.1, ?_⟩
          rw [HRN.out, hu]
          exact ⟨0, r', rfl, by omega, HBS.out.1⟩
        have FIN := Lib.hid fin
        clear fin
        have hip : 0 < i := by omega
        rcases (by omega : (i = 9 ∧ 1 < c.toNat) ∨ (i = 9 ∧ c.toNat = 0) ∨ (i < 9 ∧ c.toNat = 0)) with ⟨h9, hc1⟩ | ⟨h9, hc0⟩ | ⟨h9, hc0⟩
        · have h9' : ((i : Int) == 9) = true := by rw [hi9]; simpa using h9
          clear hi9 hnf hi h9
          go_wp2_with fail
          go_ret
          exact FIN.out _ rfl
        · have h9' : ((i : Int) == 9) = true := by rw [hi9]; simpa using h9
          have hcz : ((c.toNat : Int) == 0) = true := by rw [ibeq0]; simpa using hc0
          have hc1 : ¬ 1 < c.toNat := by omega
          clear hi9 hnf hi h9 hc0
          go_wp2_with fail
          go_ret
          exact FIN.out _ rfl
        · have h9' : ((i : Int) == 9) = false := by rw [hi9]; simp; omega
          have hcz : ((c.toNat : Int) == 0) = true := by rw [ibeq0]; simpa using hc0
          clear hi9 hnf hi h9 hc0
          go_wp2_with fail
          go_ret
          exact FIN.out _ rfl
      · have HRS : Hid (R = if c.toNat < 128 then some (acc + c.toNat % 128 * 128 ^ (9 - g), r') else numP g (acc + c.toNat % 128 * 128 ^ (9 - g)) r') := by show R = _; rw [HN.out, numP, if_neg hnf]
        have HW := Lib.hid (sum_digit acc c.toNat g i hi HA.out (by omega))
        have fin : c.toNat < 128 → ∀ u : Value, u = .int .u64 ((acc + c.toNat % 128 * 128 ^ (9 - g) : Nat) : Int) → NPost rb B L w R (.returned u) w1 := fun h128 u hu => by
          refine ⟨HG2.out, ?_⟩
          rw [HRS.out, if_pos h128, hu]
          exact ⟨rfl, HR2.out⟩
        have FIN := Lib.hid fin
        have hrel : ¬ c.toNat < 128 → ∃ (g2 acc2 : Nat) (l2' : List UInt8) (i2 : Nat), Value.int .u64 (IntKind.u64.wrap ((acc : Int) + IntKind.u64.wrap ((c.toNat : Int) % 128 * 2 ^ (7 * i)))) = .int .u64 acc2 ∧ Value.int .i64 ((i : Int) + 1) = .int .i64 i2 ∧ g2 ≤ 9 ∧ i2 = 9 - g2 ∧ RdrQ w1 rb B L l2' false ∧ R = numP (g2 + 1) acc2 l2' ∧ acc2 < 128 ^ (9 - g2) ∧ w.grownBy w1 (some rb) := fun h128 => by
          have hg1 : 1 ≤ g := by omega
          refine ⟨g - 1, acc + c.toNat % 128 * 128 ^ (9 - g), r', i + 1, by rw [HW.out], rfl, by omega, by omega, HR2.out, ?_, ?_, HG2.out⟩
          · rw [show g - 1 + 1 = g from by omega, HRS.out, if_neg h128]
          · rw [show 9 - (g - 1) = 9 - g + 1 from by omega, Nat.pow_succ]
            have ha := HA.out
            have hm : c.toNat % 128 ≤ 127 := by omega
            have := Nat.mul_le_mul_right (128 ^ (9 - g)) hm
            omega
        have HREL := Lib.hid hrel
        clear fin hrel
        rcases (by omega : i = 0 ∨ (0 < i ∧ i < 9) ∨ i = 9) with h0 | ⟨h0, h9⟩ | h0
        focus
          have hz : ¬ 0 < i := by omega
          have h9' : ((i : Int) == 9) = false := by rw [hi9]; simp; omega
          clear hi9 hnf hi h0
        rotate_left
        focus
          have hcz : ((c.toNat : Int) == 0) = false := by rw [ibeq0]; simp; omega
          have h9' : ((i : Int) == 9) = false := by rw [hi9]; simp; omega
          clear hi9 hnf hi h9
        rotate_left
        focus
          have hcz : ((c.toNat : Int) == 0) = false := by rw [ibeq0]; simp; omega
          have h9' : ((i : Int) == 9) = true := by rw [hi9]; simpa using h0
          have hc1 : ¬ 1 < c.toNat := by omega
          have hip : 0 < i := by omega
          clear hi9 hnf hi h0
        all_goals
          by_cases h128 : c.toNat < 128
          · go_wp2_with fail
            go_ret
            exact FIN.out h128 _ (by rw [← HW.out]; rfl)
          · by_cases hcc : c.toNat ≤ 1
            · omega
            · first
                | (exfalso; omega)
                | (go_wp2_with fail
                   go_roundw
                   case rel => exact HREL.out h128
                   case measure => simp [intOf]; omega)
end Go.Proofs.Ytomiacedailmaaa
