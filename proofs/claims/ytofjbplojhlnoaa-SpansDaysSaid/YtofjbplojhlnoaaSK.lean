/- Spans: the reference's days and spans. -/
import Derived.Test.YtofjbplojhlnoaaSJ
namespace Go.Proofs.Ytofjbplojhlnoaa
open Go.RowKit

theorem info_bool : (Try.prog.info? 4).map (fun i => (i.zero, i.size, i.bytes)) = some (some (.bool false), 1, 1) := by kernel_rfl
theorem made_bool : madeCells (Value.bool false).cells 1024 = (fB 1024 fun _ => false).toArray := by
  unfold madeCells fB
  apply Array.toList_inj.1
  simp [Value.cells, Nat.mod_one]
theorem run_mk (w : World) : (Instr.makeSlice 48 (.int .i64 1024) (.int .i64 1024)).run Try.prog w = .ok (.slice (some ⟨w.heap.size, 0, none⟩) 1024 1024) (w.alloc (.cells (fB 1024 fun _ => false).toArray 4)) := by
  obtain ⟨i, hi, hz0, hz1, hz2⟩ := info_parts info_bool
  have := run_makeSlice (P := Try.prog) (w := w) 48 4 i (.bool false) Try.underlying48 hi hz0 .i64 .i64 1024 1024 (by omega) (by omega) (by rw [hz1]; simp) (by rw [hz2]; omega) (by omega)
  rw [hz1, show Int.toNat 1024 * 1 = 1024 from rfl, made_bool] at this
  exact this
theorem hit_take (L : List Sp) (k : Nat) (p : Sp) (h : L[k]? = some p) (m : Int) : hit (L.take (k + 1)) m = (hit (L.take k) m || in_ p m) := by
  obtain ⟨hk, e⟩ := List.getElem?_eq_some_iff.1 h
  rw [List.take_succ_eq_append_getElem hk, e, hit_in, hit_in, List.any_append]
  simp

set_option maxRecDepth 100000 in
set_option maxHeartbeats 1600000 in
theorem rdays_all (L : List Sp) (A : Option Addr) (cap : Nat) (w : World) (hl : SL w (· < w.heap.size) L A cap) :
    Calls Try.prog 29 #[.slice A L.length cap] w fun e w' => e = .returned (.slice (some ⟨w.heap.size, 0, none⟩) 1024 1024) ∧ Rw w' w.heap.size 4 (fB 1024 fun m => hit L m) ∧ Below w.heap.size w w' := by
  have HL := Lib.hid hl
  have hcap := hl.1
  have hcm : cap ≤ 9223372036854775807 := hl.2.1
  have hmk := run_mk
  have H0 := Lib.hid (show Rw (w.alloc (.cells (fB 1024 fun _ => false).toArray 4)) w.heap.size 4 (fB 1024 fun _ => false) from heap_alloc_new w _)
  clear hl
  go_enter Try.func29, Try.ntmps29
  go_wp2_with fail
  go_loopw [4] (fun x wr => ∃ k : Nat, k ≤ L.length ∧ x = .int .i64 k ∧ Rw wr w.heap.size 4 (fB 1024 fun m => hit (L.take k) m) ∧ Below w.heap.size w wr) (fun x _ => L.length - (intOf x).toNat)
  case atStart => exact ⟨0, Nat.zero_le _, rfl, by have := H0.out; simpa [hit] using this, (Below.refl _ _).alloc (Nat.le_refl _) _⟩
  case round =>
    obtain ⟨k, hk, rfl, hr, hb⟩ := hrel
    have HR := Lib.hid hr
    have HB := Lib.hid hb
    have hz := hb.size
    clear hmk
    by_cases hlt : k < L.length
    · obtain ⟨p, hp⟩ : ∃ p, L[k]? = some p := ⟨_, List.getElem?_eq_getElem hlt⟩
      obtain ⟨b, o, rfl, hS, hc⟩ := HL.out.2.2.2 (by omega)
      obtain ⟨hc1, hc2⟩ := hc k p hp
      have q1 := (World.cell?_of_block (hb.block b hS)).trans hc1
      have q2 := hc2
      have HT := Lib.hid (hit_take L k p hp)
      obtain ⟨p1, p2⟩ := p
      simp only at q1 q2
      have Q2 := Lib.hid q2
      have Q1 := Lib.hid hc1
      clear hb hp hc hc1 hc2 hr q2
      have hin : ∀ m : Int, in_ (p1, p2) m = (decide (p1 ≤ m) && decide (m < p2)) := fun _ => rfl
      rcases Int.lt_or_le p1 0 with h0 | h0 <;> rcases Int.lt_or_le 1024 p2 with h2 | h2
      all_goals
        have HIN := Lib.hid hin
        clear hin
        go_wp2_with fail
        obtain ⟨wo, rfl⟩ : ∃ wo : World, wo = wr := ⟨_, rfl⟩
        go_loopw [5] (fun x wr => ∃ m : Nat, x = .int .i64 m ∧ p1 ≤ m ∧ ((m : Int) ≤ max p1 0 ∨ ((m : Int) ≤ p2 ∧ m ≤ 1024)) ∧ Rw wr w.heap.size 4 (fB 1024 fun i => hit (L.take k) i || (decide (p1 ≤ (i : Nat)) && decide (i < m))) ∧ Below w.heap.size w wr) (fun x _ => 1024 - (intOf x).toNat)
        case atStart =>
          refine ⟨(max p1 0).toNat, ?_, by omega, by omega, ?_, HB.out⟩
          · first | (rw [show max p1 0 = 0 by omega]; rfl) | rw [show max p1 0 = p1 by omega, Int.toNat_of_nonneg h0]
          · rw [fB_congr _ _ (fun m => hit (L.take k) m) fun i hi => by
              have : (decide (p1 ≤ (i : Nat)) && decide (i < (max p1 0).toNat)) = false := by
                rw [Bool.and_eq_false_iff]
                simp
                omega
              rw [this, Bool.or_false]]
            exact HR.out
        case round =>
          obtain ⟨m, rfl, hm1, hm2, hr, hb⟩ := hrel
          have HRR := Lib.hid hr
          have HBB := Lib.hid hb
          have hz2 := hb.size
          have q2 := (World.cell?_of_block (hb.block b hS)).trans Q2.out
          have q1 := (World.cell?_of_block (hb.block b hS)).trans Q1.out
          clear hb
          by_cases hc : (m : Int) < p2 ∧ m < 1024
          · obtain ⟨hc1, hc2⟩ := hc
            have d1 := hr.cell (fB_at 1024 (fun i => hit (L.take k) i || (decide (p1 ≤ (i : Nat)) && decide (i < m))) m hc2)
            have f1 := hr.frozen m
            clear hr
            go_wp2_with fail
            go_roundw
            case rel =>
              refine ⟨m + 1, by go_num, by omega, by omega, ?_, HBB.out.setCell (Nat.le_refl _) _⟩
              have h1 := HRR.out.set m (.bool true)
              rw [fB_set] at h1
              rw [fB_congr _ _ _ fun i _ => show _ = (if i = m then true else (hit (L.take k) i || (decide (p1 ≤ (i : Nat)) && decide (i < m)))) from by
                by_cases hi : i = m
                · subst hi; simp [hm1]
                · rw [if_neg hi]
                  by_cases h2 : i < m
                  · simp [h2, show i < m + 1 by omega]
                  · simp [h2, show ¬ i < m + 1 by omega]]
              exact h1
            case measure => simp [intOf]; omega
          · have hfin : Rw wr w.heap.size 4 (fB 1024 fun i => hit (L.take (k + 1)) i) := by
              rw [fB_congr _ _ (fun i => hit (L.take k) i || (decide (p1 ≤ (i : Nat)) && decide (i < m))) fun i hi => by
                rw [HT.out, HIN.out]
                congr 1
                rw [Bool.eq_iff_iff]
                simp
                omega]
              exact hr
            have HF := Lib.hid hfin
            clear hr hfin
            by_cases hc1 : (m : Int) < p2
            · have hc2 : ¬ m < 1024 := by omega
              (try (exfalso; omega))
              all_goals
                go_wp2_with fail
                go_roundw
                case rel => exact ⟨k + 1, by omega, by go_num, HF.out, HBB.out⟩
                case measure => simp [intOf]; omega
            · (try (exfalso; omega))
              all_goals
                go_wp2_with fail
                go_roundw
                case rel => exact ⟨k + 1, by omega, by go_num, HF.out, HBB.out⟩
                case measure => simp [intOf]; omega
    · obtain rfl : k = L.length := by omega
      have HF := Lib.hid (show Rw wr w.heap.size 4 (fB 1024 fun m => hit L m) by rw [List.take_length] at hr; exact hr)
      clear hr hb
      go_wp2_with fail
      go_ret
      exact ⟨rfl, HF.out, HB.out⟩
end Go.Proofs.Ytofjbplojhlnoaa
