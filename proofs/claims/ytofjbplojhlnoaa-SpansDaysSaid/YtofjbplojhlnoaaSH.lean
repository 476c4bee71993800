/- Spans: Check and Has. -/
import Derived.Test.YtofjbplojhlnoaaSG
namespace Go.Proofs.Ytofjbplojhlnoaa
open Go.RowKit

theorem ret_bool {a b : Bool} (h : a = b) : Ending.returned (.bool a) = .returned (.bool b) := by rw [h]
def good (p : Sp) : Bool := decide (0 ≤ p.1) && decide (p.1 < p.2) && decide (p.2 ≤ 1024)
def chk (L : List Sp) : Int := if L.all good = true then 0 else 30
theorem chk_bad (L : List Sp) (k : Nat) (p : Sp) (h : L[k]? = some p) (hp : good p = false) : chk L = 30 := by
  unfold chk
  rw [if_neg]
  intro ha
  rw [List.all_eq_true.1 ha p (List.mem_of_getElem? h)] at hp
  cases hp
theorem take_all (L : List Sp) (k : Nat) (p : Sp) (h : L[k]? = some p) (f : Sp → Bool) (ha : (L.take k).all f = true) (hp : f p = true) : (L.take (k + 1)).all f = true := by
  obtain ⟨hk, e⟩ := List.getElem?_eq_some_iff.1 h
  rw [List.take_succ_eq_append_getElem hk, e, List.all_append, ha]
  simp [hp]

set_option maxRecDepth 100000 in
set_option maxHeartbeats 1600000 in
theorem check_all (L : List Sp) (A : Option Addr) (cap : Nat) (w : World) (hl : SL w (· < w.heap.size) L A cap) :
    Calls Try.prog 11 #[.slice A L.length cap] w fun e w' => e = .returned (.int .i64 (chk L)) ∧ Below w.heap.size w w' := by
  have HL := Lib.hid hl
  have hcap := hl.1
  have hcm : cap ≤ 9223372036854775807 := hl.2.1
  clear hl
  go_enter Try.func11, Try.ntmps11
  go_wp2_with fail
  go_loopw [7] (fun x wr => ∃ k : Nat, k ≤ L.length ∧ x = .int .i64 k ∧ Hid ((L.take k).all good = true) ∧ Below w.heap.size w wr) (fun x _ => L.length - (intOf x).toNat)
  case atStart => exact ⟨0, Nat.zero_le _, rfl, Lib.hid rfl, Below.refl _ _⟩
  case round =>
    obtain ⟨k, hk, rfl, HG, hb⟩ := hrel
    have HB := Lib.hid hb
    have hz := hb.size
    by_cases hlt : k < L.length
    · obtain ⟨p, hp⟩ : ∃ p, L[k]? = some p := ⟨_, List.getElem?_eq_getElem hlt⟩
      obtain ⟨b, o, rfl, hS, hc⟩ := HL.out.2.2.2 (by omega)
      obtain ⟨hc1, hc2⟩ := hc k p hp
      have q1 := (World.cell?_of_block (hb.block b hS)).trans hc1
      have q2 := (World.cell?_of_block (hb.block b hS)).trans hc2
      have HP := Lib.hid hp
      obtain ⟨p1, p2⟩ := p
      simp only at q1 q2
      clear hb hp hc hc1 hc2
      have HBAD := Lib.hid (chk_bad L k (p1, p2) HP.out)
      have HB2 := Lib.hid (HB.out.alloc hz (.cells #[.int .i64 p1, .int .i64 p2] 32))
      by_cases h1 : p1 < 0
      · go_wp2_with fail
        go_ret
        exact ⟨ret_int (HBAD.out (by simp [good]; omega)).symm, HB2.out⟩
      by_cases h2 : p2 ≤ p1
      · go_wp2_with fail
        go_ret
        exact ⟨ret_int (HBAD.out (by simp [good]; omega)).symm, HB2.out⟩
      by_cases h3 : 1024 < p2
      · go_wp2_with fail
        go_ret
        exact ⟨ret_int (HBAD.out (by simp [good]; omega)).symm, HB2.out⟩
      go_wp2_with fail
      go_roundw
      case rel => exact ⟨k + 1, by omega, by go_num, Lib.hid (take_all L k (p1, p2) HP.out good HG.out (by simp [good]; omega)), HB2.out⟩
      case measure => simp [intOf]; omega
    · obtain rfl : k = L.length := by omega
      clear hb
      go_wp2_with fail
      go_ret
      exact ⟨ret_int (by unfold chk; rw [if_pos]; have := HG.out; rwa [List.take_length] at this), HB.out⟩

def in_ (p : Sp) (d : Int) : Bool := decide (p.1 ≤ d) && decide (d < p.2)
theorem hit_in (L : List Sp) (d : Int) : hit L d = L.any fun p => in_ p d := rfl

set_option maxHeartbeats 1600000 in
theorem hasfn_all (p1 p2 d : Int) (bx : Nat) (w : World) (hbx : bx < w.heap.size) (hc : w.cell? ⟨bx, 0, none⟩ = some (.int .i64 d)) :
    Calls Try.prog 35 #[.agg #[.int .i64 p1, .int .i64 p2], .pointer (some ⟨bx, 0, none⟩)] w fun e w' => e = .returned (.bool (in_ (p1, p2) d)) ∧ Below w.heap.size w w' := by
  by_cases h1 : p1 ≤ d
  · by_cases h2 : d < p2
    · have HV := Lib.hid (show in_ (p1, p2) d = true by simp [in_, h1, h2])
      go_enter Try.func35, Try.ntmps35
      go_wp2_with fail
      go_ret
      exact ⟨ret_bool HV.out.symm, (Below.refl _ _).alloc (Nat.le_refl _) _⟩
    · have HV := Lib.hid (show in_ (p1, p2) d = false by simp [in_]; omega)
      go_enter Try.func35, Try.ntmps35
      go_wp2_with fail
      go_ret
      exact ⟨ret_bool HV.out.symm, (Below.refl _ _).alloc (Nat.le_refl _) _⟩
  · have HV := Lib.hid (show in_ (p1, p2) d = false by simp [in_]; omega)
    go_enter Try.func35, Try.ntmps35
    go_wp2_with fail
    go_ret
    exact ⟨ret_bool HV.out.symm, (Below.refl _ _).alloc (Nat.le_refl _) _⟩

set_option maxRecDepth 100000 in
set_option maxHeartbeats 1600000 in
theorem indexfn_all (L : List Sp) (A : Option Addr) (cap : Nat) (d : Int) (bx : Nat) (w : World) (hl : SL w (· < w.heap.size) L A cap) (hbx : bx < w.heap.size) (hc : w.cell? ⟨bx, 0, none⟩ = some (.int .i64 d)) :
    Calls Try.prog 40 #[.slice A L.length cap, .func (.func 35) #[] #[.pointer (some ⟨bx, 0, none⟩)]] w fun e w' => ∃ r : Int, e = .returned (.int .i64 r) ∧ decide (0 ≤ r) = hit L d ∧ Below w.heap.size w w' := by
  have HL := Lib.hid hl
  have hcap := hl.1
  have hcm : cap ≤ 9223372036854775807 := hl.2.1
  have HC := Lib.hid hc
  clear hl hc
  go_enter Try.func40, Try.ntmps40
  go_wp2_with fail
  go_loopw [8] (fun x wr => ∃ k : Nat, k ≤ L.length ∧ x = .int .i64 k ∧ Hid ((L.take k).all (fun p => !in_ p d) = true) ∧ Below w.heap.size w wr) (fun x _ => L.length - (intOf x).toNat)
  case atStart => exact ⟨0, Nat.zero_le _, rfl, Lib.hid rfl, Below.refl _ _⟩
  case round =>
    obtain ⟨k, hk, rfl, HG, hb⟩ := hrel
    have HB := Lib.hid hb
    have hz := hb.size
    by_cases hlt : k < L.length
    · obtain ⟨p, hp⟩ : ∃ p, L[k]? = some p := ⟨_, List.getElem?_eq_getElem hlt⟩
      obtain ⟨b, o, rfl, hS, hc⟩ := HL.out.2.2.2 (by omega)
      obtain ⟨hc1, hc2⟩ := hc k p hp
      have q1 := (World.cell?_of_block (hb.block b hS)).trans hc1
      have q2 := (World.cell?_of_block (hb.block b hS)).trans hc2
      have HP := Lib.hid hp
      obtain ⟨p1, p2⟩ := p
      simp only at q1 q2
      have CF := Lib.hid (hasfn_all p1 p2 d bx wr (by omega) ((hb.cell (p := ⟨bx, 0, none⟩) hbx).trans HC.out))
      clear hb hp hc hc1 hc2
      by_cases hi : in_ (p1, p2) d = true
      · rw [hi] at CF
        have HI := Lib.hid hi
        clear hi
        go_wp2_with fail
        refine CF.out.mono ?_
        rintro e w2 ⟨rfl, hb2⟩
        have HB2 := Lib.hid (HB.out.trans (hb2.mono hz))
        clear hb2
        go_wp2_with fail
        go_ret
        exact ⟨(k : Int), rfl, by
          rw [hit_in, List.any_eq_true.2 ⟨(p1, p2), List.mem_of_getElem? HP.out, HI.out⟩]
          simp, HB2.out⟩
      · have hi' : in_ (p1, p2) d = false := by simpa using hi
        rw [hi'] at CF
        have HI := Lib.hid hi'
        clear hi hi'
        go_wp2_with fail
        refine CF.out.mono ?_
        rintro e w2 ⟨rfl, hb2⟩
        have HB2 := Lib.hid (HB.out.trans (hb2.mono hz))
        clear hb2
        go_wp2_with fail
        go_roundw
        case rel => exact ⟨k + 1, by omega, by go_num, Lib.hid (take_all L k (p1, p2) HP.out (fun p => !in_ p d) HG.out (by simp [HI.out])), HB2.out⟩
        case measure => simp [intOf]; omega
    · obtain rfl : k = L.length := by omega
      clear hb
      go_wp2_with fail
      go_ret
      refine ⟨-1, rfl, ?_, HB.out⟩
      have h := HG.out
      rw [List.take_length] at h
      have : hit L d = false := by
        rw [hit_in, List.any_eq_false]
        intro p hp
        have := List.all_eq_true.1 h p hp
        simpa using this
      rw [this]
      rfl

set_option maxHeartbeats 1600000 in
theorem contains_all (L : List Sp) (A : Option Addr) (cap : Nat) (d : Int) (bx : Nat) (w : World) (hl : SL w (· < w.heap.size) L A cap) (hbx : bx < w.heap.size) (hc : w.cell? ⟨bx, 0, none⟩ = some (.int .i64 d)) :
    Calls Try.prog 34 #[.slice A L.length cap, .func (.func 35) #[] #[.pointer (some ⟨bx, 0, none⟩)]] w fun e w' => e = .returned (.bool (hit L d)) ∧ Below w.heap.size w w' := by
  have C := Lib.hid (indexfn_all L A cap d bx w hl hbx hc)
  clear hl hc
  go_enter Try.func34, Try.ntmps34
  go_wp2_with fail
  refine C.out.mono ?_
  rintro e w2 ⟨r, rfl, hr, hb⟩
  have HR := Lib.hid hr
  clear hr C
  go_wp2_with fail
  go_ret
  exact ⟨ret_bool HR.out, hb⟩

def has (L : List Sp) (d : Int) : Bool := decide (0 ≤ d) && decide (d < 1024) && hit L d
set_option maxHeartbeats 1600000 in
theorem has_all (L : List Sp) (A : Option Addr) (cap : Nat) (d : Int) (w : World) (hl : SL w (· < w.heap.size) L A cap) :
    Calls Try.prog 22 #[.slice A L.length cap, .int .i64 d] w fun e w' => e = .returned (.bool (has L d)) ∧ Below w.heap.size w w' := by
  have hb1 : Below w.heap.size w (w.alloc (.cells #[.int .i64 d] 3)) := (Below.refl _ _).alloc (Nat.le_refl _) _
  have C := Lib.hid (contains_all L A cap d w.heap.size (w.alloc (.cells #[.int .i64 d] 3)) (hl.keep fun i hi => ⟨by simp; omega, hb1.block i hi⟩) (by simp) (cell_of_row _ w.heap.size 0 _ _ _ (heap_alloc_new w _)))
  have HB := Lib.hid hb1
  clear hl hb1
  by_cases h1 : d < 0
  · have HV := Lib.hid (show has L d = false by simp [has]; omega)
    go_enter Try.func22, Try.ntmps22
    go_wp2_with fail
    go_ret
    exact ⟨ret_bool HV.out.symm, HB.out⟩
  by_cases h2 : 1024 ≤ d
  · have HV := Lib.hid (show has L d = false by simp [has]; omega)
    go_enter Try.func22, Try.ntmps22
    go_wp2_with fail
    go_ret
    exact ⟨ret_bool HV.out.symm, HB.out⟩
  have HV := Lib.hid (show has L d = hit L d by simp [has]; omega)
  go_enter Try.func22, Try.ntmps22
  go_wp2_with fail
  refine C.out.mono ?_
  rintro e w2 ⟨rfl, hb2⟩
  have HB2 := Lib.hid (HB.out.trans (hb2.mono (by simp)))
  clear hb2 C
  go_wp2_with fail
  go_ret
  exact ⟨ret_bool HV.out.symm, HB2.out⟩
end Go.Proofs.Ytofjbplojhlnoaa
