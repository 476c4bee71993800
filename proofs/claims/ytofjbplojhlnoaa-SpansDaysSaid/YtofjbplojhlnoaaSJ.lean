/- Spans: the reference's Few, Check, Same. -/
import Derived.Test.YtofjbplojhlnoaaSI
namespace Go.Proofs.Ytofjbplojhlnoaa
open Go.RowKit

set_option maxHeartbeats 800000 in
theorem few_all (L : List Sp) (A : Option Addr) (cap : Nat) (w : World) : Calls Try.prog 10 #[.slice A L.length cap] w fun e w' => e = .returned (.bool (decide (L.length ≤ 40))) ∧ w' = w := by
  go_enter Try.func10, Try.ntmps10
  go_wp2_with fail
  go_ret
  exact ⟨ret_bool (by rw [Bool.eq_iff_iff]; simp; omega), rfl⟩

set_option maxRecDepth 100000 in
set_option maxHeartbeats 1600000 in
theorem rcheck_all (L : List Sp) (A : Option Addr) (cap : Nat) (w : World) (hl : SL w (· < w.heap.size) L A cap) :
    Calls Try.prog 12 #[.slice A L.length cap] w fun e w' => e = .returned (.int .i64 (chk L)) ∧ Below w.heap.size w w' := by
  have HL := Lib.hid hl
  have hcap := hl.1
  have hcm : cap ≤ 9223372036854775807 := hl.2.1
  clear hl
  go_enter Try.func12, Try.ntmps12
  go_wp2_with fail
  go_loopw [3] (fun x wr => ∃ k : Nat, k ≤ L.length ∧ x = .int .i64 k ∧ Hid ((L.take k).all good = true) ∧ Below w.heap.size w wr) (fun x _ => L.length - (intOf x).toNat)
  case atStart => exact ⟨0, Nat.zero_le _, rfl, Lib.hid rfl, Below.refl _ _⟩
  case round =>
    obtain ⟨k, hk, rfl, HG, hb⟩ := hrel
    have HB := Lib.hid hb
    have hz := hb.size
    by_cases hlt : k < L.length
    · obtain ⟨p, hp⟩ : ∃ p, L[k]? = some p := ⟨_, List.getElem?_eq_getElem hlt⟩
      obtain ⟨b, o, rfl, hS, hc⟩ := HL.out.2.2.2 (by omega)
      obtain ⟨hc1, hc2⟩ := hc k p hp
      have q1 := (World.cell?_of_block (hb.block b hS)).trans hc1
      have q2 := (World.cell?_of_block (hb.block b hS)).trans hc2
      have HP := Lib.hid hp
      obtain ⟨p1, p2⟩ := p
      simp only at q1 q2
      have i1 : (0 : Int) ≤ k := by omega
      have i2 : (k : Int) < L.length := by omega
      clear hb hp hc hc1 hc2
      have HBAD := Lib.hid (chk_bad L k (p1, p2) HP.out)
      by_cases h1 : p1 < 0
      · have e1 : decide (p1 < 0) = true := by simpa using h1
        go_wp2_with fail
        go_quiet (fail)
        go_wp2_with fail
        go_ret
        exact ⟨ret_int (HBAD.out (by simp [good]; omega)).symm, below_drewN HB.out _⟩
      have e1 : decide (p1 < 0) = false := by simpa using h1
      by_cases h2 : p2 ≤ p1
      · have e2 : decide (p2 ≤ p1) = true := by simpa using h2
        go_wp2_with fail
        go_quiet (fail)
        go_wp2_with fail
        go_ret
        exact ⟨ret_int (HBAD.out (by simp [good]; omega)).symm, below_drewN HB.out _⟩
      have e2 : decide (p2 ≤ p1) = false := by simpa using h2
      by_cases h3 : 1024 < p2
      · have e3 : decide (1024 < p2) = true := by simpa using h3
        go_wp2_with fail
        go_quiet (fail)
        go_wp2_with fail
        go_ret
        exact ⟨ret_int (HBAD.out (by simp [good]; omega)).symm, below_drewN HB.out _⟩
      have e3 : decide (1024 < p2) = false := by simpa using h3
      go_wp2_with fail
      go_quiet (fail)
      go_wp2_with fail
      go_roundw
      case rel => exact ⟨k + 1, by omega, by go_num, Lib.hid (take_all L k (p1, p2) HP.out good HG.out (by simp [good]; omega)), below_drewN HB.out _⟩
      case measure => simp [intOf]; omega
    · obtain rfl : k = L.length := by omega
      clear hb
      go_wp2_with fail
      go_ret
      exact ⟨ret_int (by unfold chk; rw [if_pos]; have := HG.out; rwa [List.take_length] at this), HB.out⟩

set_option maxRecDepth 100000 in
set_option maxHeartbeats 1600000 in
theorem same_all (L : List Sp) (A A2 : Option Addr) (cap cap2 : Nat) (w : World) (hl : SL w (· < w.heap.size) L A cap) (hm : SL w (· < w.heap.size) L A2 cap2) :
    Calls Try.prog 13 #[.slice A L.length cap, .slice A2 L.length cap2] w fun e w' => e = .returned (.bool true) ∧ Below w.heap.size w w' := by
  have HL := Lib.hid hl
  have HM := Lib.hid hm
  have hcap := hl.1
  have hcm : cap ≤ 9223372036854775807 := hl.2.1
  have hcap2 := hm.1
  have hcm2 : cap2 ≤ 9223372036854775807 := hm.2.1
  clear hl hm
  go_enter Try.func13, Try.ntmps13
  go_wp2_with fail
  go_loopw [5] (fun x wr => ∃ k : Nat, k ≤ L.length ∧ x = .int .i64 k ∧ Below w.heap.size w wr) (fun x _ => L.length - (intOf x).toNat)
  case atStart => exact ⟨0, Nat.zero_le _, rfl, Below.refl _ _⟩
  case round =>
    obtain ⟨k, hk, rfl, hb⟩ := hrel
    have HB := Lib.hid hb
    have hz := hb.size
    by_cases hlt : k < L.length
    · obtain ⟨p, hp⟩ : ∃ p, L[k]? = some p := ⟨_, List.getElem?_eq_getElem hlt⟩
      obtain ⟨b, o, rfl, hS, hc⟩ := HL.out.2.2.2 (by omega)
      obtain ⟨hc1, hc2⟩ := hc k p hp
      have q1 := (World.cell?_of_block (hb.block b hS)).trans hc1
      have q2 := (World.cell?_of_block (hb.block b hS)).trans hc2
      obtain ⟨b2, o2, rfl, hS2, hc⟩ := HM.out.2.2.2 (by omega)
      obtain ⟨hc1', hc2'⟩ := hc k p hp
      have q3 := (World.cell?_of_block (hb.block b2 hS2)).trans hc1'
      have q4 := (World.cell?_of_block (hb.block b2 hS2)).trans hc2'
      obtain ⟨p1, p2⟩ := p
      simp only at q1 q2 q3 q4
      have i1 : (0 : Int) ≤ k := by omega
      have i2 : (k : Int) < L.length := by omega
      clear hb hp hc hc1 hc2 hc1' hc2'
      go_wp2_with fail
      go_quiet (fail)
      go_wp2_with fail
      go_roundw
      case rel => exact ⟨k + 1, by omega, by go_num, below_drewN HB.out _⟩
      case measure => simp [intOf]; omega
    · clear hb
      go_wp2_with fail
      go_ret
      exact ⟨rfl, HB.out⟩
end Go.Proofs.Ytofjbplojhlnoaa
