/- Codec: the reference's Decode. -/
import Derived.Test.YtomiacedailmaaaDM
import Derived.BigQuiet
import Derived.Deep.RegionHeld3
import Derived.Deep.RegionLaw
namespace Go.Proofs.Ytomiacedailmaaa
open Go.RowKit

set_option maxRecDepth 100000 in
set_option maxHeartbeats 3200000 in
theorem rdecode_all (l : List UInt8) (A : Option Addr) (cap : Nat) (w : World) (hl : Byt w (· < w.heap.size) l A cap) (h2k : l.length ≤ 2000) :
    Calls Try.prog 19 #[.slice A l.length cap] w (DPost w (decP l)) := by
  have HL := Lib.hid hl
  obtain ⟨R, hR⟩ : ∃ R, R = decP l := ⟨_, rfl⟩
  rw [← hR]
  have HR := Lib.hid hR
  clear hl hR
  go_enter Try.func19, Try.ntmps19
  go_wp2_with fail
  obtain ⟨W1, hW1, _, _, hz, hb, b0, b1⟩ := two_boxes w zero4 #[.slice A l.length cap, .int .i64 0, .bool false] 24 59
  rw [← hW1]
  clear hW1
  have hrq : RdrQ W1 (w.heap.size + 1) w.heap.size l l false := ⟨A, cap, 0, b1, HL.out.keep fun i hi => ⟨hi, hb.block i hi⟩, rfl, Nat.zero_le _⟩
  have C := Lib.hid (qvalue_all 16 (w.heap.size + 1) w.heap.size l l 0 W1 hrq (by omega) (Nat.le_refl _) rfl (by omega))
  clear hrq
  refine C.out.mono ?_
  rintro e w2 ⟨hg, hm⟩
  have hq2 := (hg.block w.heap.size (by omega) (by intro e; injection e; omega)).trans b0
  have hz2 := hg.size
  have hb2 : Below w.heap.size w w2 := hb.trans (below_grown hg (by omega) (by omega))
  clear hg b0 b1 hb C
  rcases hp : valP 16 l with _ | ⟨v, r2⟩
  · rw [hp] at hm
    have HRN : Hid (R = none) := by show R = none; rw [HR.out, decP, hp]
    obtain ⟨v, A5, cap5, r2, rfl, hq⟩ := hm
    clear hp
    obtain ⟨A0, c0, a0, hc0, hb0, hd0, ha0⟩ := hq
    have hlt := lt_of_block hc0
    have q1 : ∀ n, ((w2.alloc (.cells #[.int .i64 v.k, .int .i64 v.n, .string v.s, .slice A5 v.l.len cap5] 24)).drewN n).cell? ⟨w.heap.size + 1, 1, none⟩ = some (.int .i64 a0) := fun n => cell_of_row _ _ 1 _ _ _ ((Below.heap_alloc _ _ _ hlt).trans hc0)
    have q2 : ∀ n, ((w2.alloc (.cells #[.int .i64 v.k, .int .i64 v.n, .string v.s, .slice A5 v.l.len cap5] 24)).drewN n).cell? ⟨w.heap.size + 1, 2, none⟩ = some (.bool true) := fun n => cell_of_row _ _ 2 _ _ _ ((Below.heap_alloc _ _ _ hlt).trans hc0)
    have K := Lib.hid (fun n => res_cells (w := (w2.alloc (.cells #[.int .i64 v.k, .int .i64 v.n, .string v.s, .slice A5 v.l.len cap5] 24)).drewN n) ((Below.heap_alloc _ _ _ (by omega)).trans hq2))
    have k0 := fun n => (K.out n).1
    have k1 := fun n => (K.out n).2.1
    have k2 := fun n => (K.out n).2.2.1
    have k3 := fun n => (K.out n).2.2.2.1
    have g0 := fun n => (K.out n).2.2.2.2.1
    have g1 := fun n => (K.out n).2.2.2.2.2.1
    have g2 := fun n => (K.out n).2.2.2.2.2.2.1
    have g3 := fun n => (K.out n).2.2.2.2.2.2.2
    have FIN : Hid (∀ n ua ub uc ud, DPost w R (.returned (.tuple #[.agg zero4, .int .i64 10])) ((((((w2.alloc (.cells #[.int .i64 v.k, .int .i64 v.n, .string v.s, .slice A5 v.l.len cap5] 24)).drewN n).setCell ⟨w.heap.size, 0, none⟩ ua).setCell ⟨w.heap.size, 1, none⟩ ub).setCell ⟨w.heap.size, 2, none⟩ uc).setCell ⟨w.heap.size, 3, none⟩ ud)) := fun n ua ub uc ud => by
      have h := hb2.alloc (by omega) (.cells #[.int .i64 v.k, .int .i64 v.n, .string v.s, .slice A5 v.l.len cap5] 24)
      have h' : Below w.heap.size w ((w2.alloc (.cells #[.int .i64 v.k, .int .i64 v.n, .string v.s, .slice A5 v.l.len cap5] 24)).drewN n) := ⟨h.os, h.tape, h.output, h.size, h.block⟩
      have hle : ∀ i, w.heap.size ≤ (⟨w.heap.size, i, none⟩ : Addr).block := fun _ => Nat.le_refl _
      refine ⟨(((h'.setCell (hle _) _).setCell (hle _) _).setCell (hle _) _).setCell (hle _) _, ?_⟩
      rw [HRN.out]
    clear hc0 hb0 hd0 ha0 hq2
    go_wp2_with fail
    go_quiet (fail)
    go_wp2_with fail
    exact bodyPost_ret (v := .tuple #[.agg zero4, .int .i64 10]) (by simp [results, Try.results19, go_sem, k0, k1, k2, k3]) rfl (FIN.out _ _ _ _ _)
  · rw [hp] at hm
    by_cases hr2 : r2 = []
    · subst hr2
      obtain ⟨hle1, hwf, hdep⟩ := valP_inv _ _ _ _ hp
      rw [List.append_nil] at hle1
      have hchk : v.chk = 0 := by rw [V.chk, if_pos hwf, if_neg (by omega)]
      have HRS : Hid (R = some v) := by show R = some v; rw [HR.out, decP, hp]
      obtain ⟨A5, cap5, rfl, hrv, hq⟩ := hm
      obtain ⟨A0, c0, a0, hc0, hb0, hd0, ha0⟩ := hq
      have hal : a0 = l.length := by rw [List.drop_eq_nil_iff] at hd0; omega
      subst hal
      have hlt := lt_of_block hc0
      have HLE := Lib.hid hle1
      clear hle1
      go_wp2_with fail
      have hle1 := HLE.out
      obtain ⟨W3, hW3⟩ : ∃ W3, W3 = w2.alloc (.cells #[.int .i64 v.k, .int .i64 v.n, .string v.s, .slice A5 v.l.len cap5] 24) := ⟨_, rfl⟩
      rw [← hW3]
      have x3 : W3.heap[w2.heap.size]? = some (.cells #[.int .i64 v.k, .int .i64 v.n, .string v.s, .slice A5 v.l.len cap5] 24 (0, 0)) := by rw [hW3]; exact heap_alloc_new w2 _
      have hb3 : Below w2.heap.size w2 W3 := by rw [hW3]; exact (Below.refl _ _).alloc (Nat.le_refl _) _
      have hz3 := lt_of_block x3
      clear hW3
      have hcells : ∀ ww, Below W3.heap.size W3 ww → ww.cell? ⟨w2.heap.size, 0, none⟩ = some (.int .i64 v.k) ∧ ww.cell? ⟨w2.heap.size, 1, none⟩ = some (.int .i64 v.n) ∧ ww.cell? ⟨w2.heap.size, 2, none⟩ = some (.string v.s) ∧ ww.cell? ⟨w2.heap.size, 3, none⟩ = some (.slice A5 v.l.len cap5) ∧
          ww.cell? ⟨w.heap.size + 1, 1, none⟩ = some (.int .i64 l.length) ∧ ww.cell? ⟨w.heap.size + 1, 2, none⟩ = some (.bool false) ∧
          (convert 27 9 (.slice A l.length cap)).run Try.prog ww = .ok (.string ⟨l.toArray⟩) ww ∧ RdV ww (· < w2.heap.size) v A5 cap5 ∧ w2.heap.size ≤ ww.heap.size ∧ ww.heap[w.heap.size]? = some (.cells zero4 24 (0, 0)) ∧ Below w.heap.size w ww := by
        intro ww h
        obtain ⟨p0, p1, p2, p3⟩ := box_cells ((h.block _ hz3).trans x3)
        have hrb := (h.block _ (by omega)).trans ((hb3.block _ hlt).trans hc0)
        have hbw : Below w.heap.size w ww := hb2.trans ((hb3.mono (by omega)).trans (h.mono (by omega)))
        exact ⟨p0, p1, p2, p3, cell_of_row _ _ 1 _ _ _ hrb, cell_of_row _ _ 2 _ _ _ hrb, conv_str (HL.out.keep (S' := (· < w.heap.size)) fun i hi => ⟨hi, hbw.block i hi⟩) rfl,
          hrv.keep fun i hi => ⟨hi.2, (h.block i (by omega)).trans (hb3.block i hi.2)⟩, by have := h.size; omega, (h.block _ (by omega)).trans ((hb3.block _ (by omega)).trans hq2), hbw⟩
      have C1 := Lib.hid (fun ww (h : Below W3.heap.size W3 ww) => rcheck_all v w2.heap.size A5 cap5 ww (hcells ww h).2.2.2.2.2.2.2.1 (hcells ww h).2.2.2.2.2.2.2.2.1 (by omega))
      have C2 := Lib.hid (fun ww (h : Below W3.heap.size W3 ww) => rencode_all v A5 cap5 w2.heap.size ww (hcells ww h).2.2.2.2.2.2.2.1 (hcells ww h).2.2.2.2.2.2.2.2.1 (by rw [← hle1]; omega))
      rw [hchk] at C1
      rw [← hle1] at C2
      have KEEP := Lib.hid hcells
      have HRV := Lib.hid hrv
      have HB3 := Lib.hid hb3
      obtain ⟨p0, p1, p2, p3, p4, p5, p6, _, _, _, _⟩ := hcells W3 (Below.refl _ _)
      have hstep : ∀ ww w', Below W3.heap.size W3 ww → Below ww.heap.size ww w' → Below W3.heap.size W3 w' := fun ww w' h1 h2 => h1.trans (h2.mono h1.size)
      have STEP := Lib.hid hstep
      have HLN := Lib.hid hle1
      clear hcells hstep hrv hb3 hle1 hchk hwf hdep hp hc0 hb0 hd0 x3 hq2
      have hbx : Below W3.heap.size W3 W3.drew := (Below.refl _ _).drew
      have hne : ((l.length : Int) != (l.length : Int)) = false := by simp
      have hne2 : (l.toArray != l.toArray) = false := by simp
      have hne3 : (l != l) = false := by simp
      go_region_law
        (first
          | (go_simp; go_at_call 17; (with_reducible refine (C1.out _ hbx).mono ?_); rintro e w5 ⟨rfl, hb'⟩; have hby := STEP.out _ _ hbx hb'; clear hbx hb' p0 p1 p2 p3 p4 p5 p6; obtain ⟨p0, p1, p2, p3, p4, p5, p6, _, _, _, _⟩ := KEEP.out _ hby; have hbx := hby; clear hby)
          | (go_simp; go_at_call 29; (with_reducible refine (C2.out _ hbx).mono ?_); rintro e w6 ⟨bv, rfl, ho, hb'⟩; obtain ⟨A6, cap6, rfl, hy⟩ := ho.byt; have hcv := conv_str hy rfl; have hby := STEP.out _ _ hbx hb'; clear hbx hb' ho p0 p1 p2 p3 p4 p5 p6; obtain ⟨p0, p1, p2, p3, p4, p5, p6, _, _, _, _⟩ := KEEP.out _ hby; have hbx := hby; clear hby))
      all_goals
        obtain ⟨m0, m1, m2, m3, _, _, _, _, hz6, hq6, hb6⟩ := KEEP.out _ hbx
        obtain ⟨k0, k1, k2, k3, g0, g1, g2, g3⟩ := res_cells hq6
        have FIN : Hid (DPost w R (.returned (.tuple #[v.val A5 cap5, .int .i64 0])) ((((w6.setCell ⟨w.heap.size, 0, none⟩ (.int .i64 v.k)).setCell ⟨w.heap.size, 1, none⟩ (.int .i64 v.n)).setCell ⟨w.heap.size, 2, none⟩ (.string v.s)).setCell ⟨w.heap.size, 3, none⟩ (.slice A5 v.l.len cap5))) := by
          show DPost _ _ _ _
          have hle : ∀ i, w.heap.size ≤ (⟨w.heap.size, i, none⟩ : Addr).block := fun _ => Nat.le_refl _
          refine ⟨(((hb6.setCell (hle _) _).setCell (hle _) _).setCell (hle _) _).setCell (hle _) _, ?_⟩
          rw [HRS.out]
          refine ⟨A5, cap5, rfl, HRV.out.keep fun i hi => ⟨⟨by omega, by simp [World.setCell]; omega⟩, ?_⟩⟩
          have hne : ∀ j, i ≠ (⟨w.heap.size, j, none⟩ : Addr).block := fun j => by show i ≠ w.heap.size; omega
          rw [Below.heap_setCell _ _ _ _ (hne 3), Below.heap_setCell _ _ _ _ (hne 2), Below.heap_setCell _ _ _ _ (hne 1), Below.heap_setCell _ _ _ _ (hne 0), hbx.block i (by omega), HB3.out.block i hi.2]
        clear hq6 hb6 hbx p0 p1 p2 p3 p4 p5 p6 hcv hy
        go_wp2_with fail
        exact bodyPost_ret (v := .tuple #[v.val A5 cap5, .int .i64 0]) (by simp [results, Try.results19, go_sem, k0, k1, k2, k3]) rfl FIN.out
    · have HRN : Hid (R = none) := by
        show R = none
        rw [HR.out, decP, hp]
        cases r2 with
        | nil => exact absurd rfl hr2
        | cons _ _ => rfl
      obtain ⟨A5, cap5, rfl, hrv, hq⟩ := hm
      clear hp hrv
      obtain ⟨A0, c0, a0, hc0, hb0, hd0, ha0⟩ := hq
      have hlt := lt_of_block hc0
      have q1 : ∀ n, ((w2.alloc (.cells #[.int .i64 v.k, .int .i64 v.n, .string v.s, .slice A5 v.l.len cap5] 24)).drewN n).cell? ⟨w.heap.size + 1, 1, none⟩ = some (.int .i64 a0) := fun n => cell_of_row _ _ 1 _ _ _ ((Below.heap_alloc _ _ _ hlt).trans hc0)
      have q2 : ∀ n, ((w2.alloc (.cells #[.int .i64 v.k, .int .i64 v.n, .string v.s, .slice A5 v.l.len cap5] 24)).drewN n).cell? ⟨w.heap.size + 1, 2, none⟩ = some (.bool false) := fun n => cell_of_row _ _ 2 _ _ _ ((Below.heap_alloc _ _ _ hlt).trans hc0)
      have K := Lib.hid (fun n => res_cells (w := (w2.alloc (.cells #[.int .i64 v.k, .int .i64 v.n, .string v.s, .slice A5 v.l.len cap5] 24)).drewN n) ((Below.heap_alloc _ _ _ (by omega)).trans hq2))
      have k0 := fun n => (K.out n).1
      have k1 := fun n => (K.out n).2.1
      have k2 := fun n => (K.out n).2.2.1
      have k3 := fun n => (K.out n).2.2.2.1
      have g0 := fun n => (K.out n).2.2.2.2.1
      have g1 := fun n => (K.out n).2.2.2.2.2.1
      have g2 := fun n => (K.out n).2.2.2.2.2.2.1
      have g3 := fun n => (K.out n).2.2.2.2.2.2.2
      have FIN : Hid (∀ n ua ub uc ud, DPost w R (.returned (.tuple #[.agg zero4, .int .i64 10])) ((((((w2.alloc (.cells #[.int .i64 v.k, .int .i64 v.n, .string v.s, .slice A5 v.l.len cap5] 24)).drewN n).setCell ⟨w.heap.size, 0, none⟩ ua).setCell ⟨w.heap.size, 1, none⟩ ub).setCell ⟨w.heap.size, 2, none⟩ uc).setCell ⟨w.heap.size, 3, none⟩ ud)) := fun n ua ub uc ud => by
        have h := hb2.alloc (by omega) (.cells #[.int .i64 v.k, .int .i64 v.n, .string v.s, .slice A5 v.l.len cap5] 24)
        have h' : Below w.heap.size w ((w2.alloc (.cells #[.int .i64 v.k, .int .i64 v.n, .string v.s, .slice A5 v.l.len cap5] 24)).drewN n) := ⟨h.os, h.tape, h.output, h.size, h.block⟩
        have hle : ∀ i, w.heap.size ≤ (⟨w.heap.size, i, none⟩ : Addr).block := fun _ => Nat.le_refl _
        refine ⟨(((h'.setCell (hle _) _).setCell (hle _) _).setCell (hle _) _).setCell (hle _) _, ?_⟩
        rw [HRN.out]
      have hal : (a0 : Int) ≠ l.length := fun e => hr2 (by rw [← hd0, List.drop_eq_nil_iff]; omega)
      have hbe : ((a0 : Int) != l.length) = true := by simpa using hal
      clear hc0 hb0 hd0 ha0 hq2 hal hr2
      go_wp2_with fail
      go_quiet (fail)
      go_wp2_with fail
      exact bodyPost_ret (v := .tuple #[.agg zero4, .int .i64 10]) (by simp [results, Try.results19, go_sem, k0, k1, k2, k3]) rfl (FIN.out _ _ _ _ _)
end Go.Proofs.Ytomiacedailmaaa
