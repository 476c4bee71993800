/- Codec: the reference's reader: values that are no lists. -/
import Derived.Test.YtomiacedailmaaaDI
namespace Go.Proofs.Ytomiacedailmaaa
open Go.RowKit

def QPost (rb B : Nat) (L : List UInt8) (w : World) (R : Option (V × List UInt8)) (e : Ending) (w' : World) : Prop :=
  w.grownBy w' (some rb) ∧ match R with
  | some (v, r2) => ∃ A cap, e = .returned (v.val A cap) ∧ RdV w' (fun b => w.heap.size ≤ b ∧ b < w'.heap.size) v A cap ∧ RdrQ w' rb B L r2 false
  | none => ∃ (v : V) (A : Option Addr) (cap : Nat) (r2 : List UInt8), e = .returned (v.val A cap) ∧ RdrQ w' rb B L r2 true
theorem RdrQ.far {w w' : World} {rb B : Nat} {L r : List UInt8} {bad : Bool} (h : RdrQ w rb B L r bad) (hs : ∀ k, k < w.heap.size → w'.heap[k]? = w.heap[k]?) (hB : B ≤ w.heap.size) : RdrQ w' rb B L r bad := by
  obtain ⟨A, cap, a, hc, hb, hd, ha⟩ := h
  exact ⟨A, cap, a, (hs _ (lt_of_block hc)).trans hc, hb.keep fun i hi => ⟨hi, hs i (by omega)⟩, hd, ha⟩
theorem RdrQ.set {w : World} {rb B : Nat} {L r : List UInt8} {bad : Bool} (h : RdrQ w rb B L r bad) {p : Addr} (hp : p.block ≠ rb) (hB : B ≤ p.block) (u : Value) : RdrQ (w.setCell p u) rb B L r bad := by
  obtain ⟨A, cap, a, hc, hb, hd, ha⟩ := h
  exact ⟨A, cap, a, (Below.heap_setCell _ _ _ _ (Ne.symm hp)).trans hc, hb.keep fun i hi => ⟨hi, Below.heap_setCell _ _ _ _ (by omega)⟩, hd, ha⟩
theorem setq4 {w w2 : World} {rb B : Nat} {L l : List UInt8} {bad : Bool} (hr : RdrQ w2 rb B L l bad) (hg : w.grownBy w2 (some rb)) (hq : rb < w.heap.size) (hB : B ≤ rb) (ua ub uc ud : Value) :
    RdrQ ((((w2.setCell ⟨w.heap.size, 0, none⟩ ua).setCell ⟨w.heap.size, 1, none⟩ ub).setCell ⟨w.heap.size, 2, none⟩ uc).setCell ⟨w.heap.size, 3, none⟩ ud) rb B L l bad ∧
    w.grownBy ((((w2.setCell ⟨w.heap.size, 0, none⟩ ua).setCell ⟨w.heap.size, 1, none⟩ ub).setCell ⟨w.heap.size, 2, none⟩ uc).setCell ⟨w.heap.size, 3, none⟩ ud) (some rb) := by
  have h1 : ∀ i, (⟨w.heap.size, i, none⟩ : Addr).block ≠ rb := fun i => by show w.heap.size ≠ rb; omega
  have h2 : ∀ i, B ≤ (⟨w.heap.size, i, none⟩ : Addr).block := fun i => by show B ≤ w.heap.size; omega
  exact ⟨(((hr.set (h1 _) (h2 _) _).set (h1 _) (h2 _) _).set (h1 _) (h2 _) _).set (h1 _) (h2 _) _,
    grown_set (grown_set (grown_set (grown_set hg (Nat.le_refl _) _) (Nat.le_refl _) _) (Nat.le_refl _) _) (Nat.le_refl _) _⟩
/-- the result's cell -/
theorem res_cells {w : World} {q : Nat} {u : TypeId} (h : w.heap[q]? = some (.cells zero4 u (0, 0))) :
    w.cell? ⟨q, 0, none⟩ = some (.int .i64 0) ∧ w.cell? ⟨q, 1, none⟩ = some (.int .i64 0) ∧ w.cell? ⟨q, 2, none⟩ = some (.string ⟨#[]⟩) ∧ w.cell? ⟨q, 3, none⟩ = some (.slice none 0 0) ∧
    w.frozen? ⟨q, 0, none⟩ = false ∧ w.frozen? ⟨q, 1, none⟩ = false ∧ w.frozen? ⟨q, 2, none⟩ = false ∧ w.frozen? ⟨q, 3, none⟩ = false := by
  have c : ∀ i, w.cell? ⟨q, i, none⟩ = _ := fun i => cell_of_row _ _ _ _ _ _ h
  exact ⟨c 0, c 1, c 2, c 3, cells_frozen h 0, cells_frozen h 1, cells_frozen h 2, cells_frozen h 3⟩

set_option maxRecDepth 100000 in
set_option maxHeartbeats 1600000 in
theorem qvalue_int (rb B : Nat) (c : UInt8) (L r : List UInt8) (d : Nat) (ar : Int) (w : World) (hr : RdrQ w rb B L (c :: r) false) (hB : B ≤ rb) (hc : c.toNat = 1) :
    Calls Try.prog 39 #[.pointer (some ⟨rb, 0, none⟩), .int .i64 ar] w (QPost rb B L w (valP d (c :: r))) := by
  have hlt := hr.lt
  obtain ⟨R, hR⟩ : ∃ R, R = valP d (c :: r) := ⟨_, rfl⟩
  rw [← hR]
  have HVN : Hid (numP 10 0 r = none → R = none) := fun h => by rw [hR]; cases d <;> rw [valP, if_pos hc, h]
  have HVS : Hid (∀ u l1, numP 10 0 r = some (u, l1) → R = some (⟨1, sgn u, ⟨#[]⟩, .nil⟩, l1)) := fun u l1 h => by rw [hR]; cases d <;> rw [valP, if_pos hc, h]
  clear hR
  have C := Lib.hid (next_ok rb B L r c false (w.alloc (.cells zero4 24)) (hr.far (fun k hk => Below.heap_alloc _ _ _ hk) (by omega)) hB)
  rw [hc] at C
  clear hc hr
  go_enter Try.func39, Try.ntmps39
  go_wp2_with fail
  refine C.out.mono ?_
  rintro e w1 ⟨rfl, hr1, hg1⟩
  have D := Lib.hid (number_all rb B L r w1 hr1 hB)
  have hq1 : w1.heap[w.heap.size]? = some (.cells zero4 24 (0, 0)) := (hg1.block _ (by simp) (by intro e; injection e; omega)).trans (heap_alloc_new w _)
  have hz1 := lt_of_block hq1
  have HG1 := Lib.hid (grown2 (grown_alloc w _ _) hg1)
  clear hr1 hg1 C
  go_wp2_with fail
  refine D.out.mono ?_
  rintro e w2 ⟨hg2, hm⟩
  have hq2 := (hg2.block w.heap.size hz1 (by intro e; injection e; omega)).trans hq1
  have HG2 := Lib.hid (grown2 HG1.out hg2)
  clear hg2 hq1 D
  obtain ⟨k0, k1, k2, k3, g0, g1, g2, g3⟩ := res_cells hq2
  clear hq2
  obtain ⟨u, r2, bad, hu, rfl, hfin⟩ : ∃ (u : Nat) (r2 : List UInt8) (bad : Bool), u < 18446744073709551616 ∧ e = .returned (.int .u64 u) ∧ RdrQ w2 rb B L r2 bad ∧
      (∀ w', RdrQ w' rb B L r2 bad → w.grownBy w' (some rb) → QPost rb B L w R (.returned (.agg #[.int .i64 1, .int .i64 (sgn u), .string ⟨#[]⟩, .slice none 0 0])) w') := by
    rcases hn : numP 10 0 r with _ | ⟨u, l1⟩
    · rw [hn] at hm
      obtain ⟨u, r2, rfl, hu, hq⟩ := hm
      exact ⟨u, r2, true, hu, rfl, hq, fun w' h1 h2 => by rw [HVN.out hn]; exact ⟨h2, ⟨1, sgn u, ⟨#[]⟩, .nil⟩, none, 0, r2, rfl, h1⟩⟩
    · rw [hn] at hm
      obtain ⟨rfl, hq⟩ := hm
      have hu := (numP_lt' hn).1
      have hs := sgn_bd (u : Int) (by omega) (by omega)
      exact ⟨u, l1, false, hu, rfl, hq, fun w' h1 h2 => by rw [HVS.out _ _ hn]; exact ⟨h2, none, 0, rfl, rdv_leaf ⟨by omega, by omega, hs.1, hs.2, Nat.zero_le _⟩, h1⟩⟩
  have HF := Lib.hid hfin
  clear hfin hm
  have hu2 : (u : Int) ≤ 18446744073709551615 := by omega
  by_cases hodd : (u : Int) % 2 = 1
  · have hs := sgn_odd hodd
    go_wp2_with fail
    have hx := setq4 HF.out.1 HG2.out hlt hB
    exact bodyPost_ret (v := .agg #[.int .i64 1, .int .i64 (sgn u), .string ⟨#[]⟩, .slice none 0 0]) (by simp [results, Try.results39, go_sem, k0, k1, k2, k3, hs]) rfl (HF.out.2 _ (hx _ _ _ _).1 (hx _ _ _ _).2)
  · have hs := sgn_even (n := (u : Int)) (by omega)
    go_wp2_with fail
    have hx := setq4 HF.out.1 HG2.out hlt hB
    exact bodyPost_ret (v := .agg #[.int .i64 1, .int .i64 (sgn u), .string ⟨#[]⟩, .slice none 0 0]) (by simp [results, Try.results39, go_sem, k0, k1, k2, k3, hs]) rfl (HF.out.2 _ (hx _ _ _ _).1 (hx _ _ _ _).2)

/-- the end of a reading that failed -/
theorem bad_end {w w2 : World} {rb B : Nat} {L r2 : List UInt8} {bad : Bool} (hr : RdrQ w2 rb B L r2 bad) (hg : w.grownBy w2 (some rb)) (hq : rb < w.heap.size) (hB : B ≤ rb) (hh : w2.heap[w.heap.size]? = some (.cells zero4 24 (0, 0))) (R : Option (V × List UInt8)) (hR : R = none) (n : Nat) :
    (((w2.drewN n).setCell ⟨rb, 2, none⟩ (.bool true)).heap[w.heap.size]? = some (.cells zero4 24 (0, 0))) ∧
    ∀ ua ub uc ud, QPost rb B L w R (.returned (.agg zero4)) ((((((w2.drewN n).setCell ⟨rb, 2, none⟩ (.bool true)).setCell ⟨w.heap.size, 0, none⟩ ua).setCell ⟨w.heap.size, 1, none⟩ ub).setCell ⟨w.heap.size, 2, none⟩ uc).setCell ⟨w.heap.size, 3, none⟩ ud) := by
  have h1 : RdrQ (w2.drewN n) rb B L r2 bad := by
    obtain ⟨A, cap, a, hc, hb, hd, ha⟩ := hr
    exact ⟨A, cap, a, hc, hb, hd, ha⟩
  have h2 : w.grownBy (w2.drewN n) (some rb) := ⟨hg.os, hg.tape, hg.output, hg.size, hg.block⟩
  have h3 := bad_set h1 hB
  refine ⟨(Below.heap_setCell _ _ _ _ (by show w.heap.size ≠ rb; omega)).trans hh, fun ua ub uc ud => ?_⟩
  have hx := setq4 h3.1 (grown2 h2 h3.2.1) hq hB ua ub uc ud
  refine ⟨hx.2, ?_⟩
  rw [hR]
  exact ⟨⟨0, 0, ⟨#[]⟩, .nil⟩, none, 0, r2, rfl, hx.1⟩

set_option maxRecDepth 100000 in
set_option maxHeartbeats 1600000 in
theorem qvalue_other (rb B : Nat) (c : UInt8) (L r : List UInt8) (d : Nat) (ar : Int) (w : World) (hr : RdrQ w rb B L (c :: r) false) (hB : B ≤ rb) (h1 : ¬ c.toNat = 1) (h2 : ¬ c.toNat = 2) (h3 : ¬ c.toNat = 3) :
    Calls Try.prog 39 #[.pointer (some ⟨rb, 0, none⟩), .int .i64 ar] w (QPost rb B L w (valP d (c :: r))) := by
  have hlt := hr.lt
  have hv : valP d (c :: r) = none := by
    cases d <;> rw [valP, if_neg h1, if_neg h2, if_neg h3]
  rw [hv]
  clear hv
  have C := Lib.hid (next_ok rb B L r c false (w.alloc (.cells zero4 24)) (hr.far (fun k hk => Below.heap_alloc _ _ _ hk) (by omega)) hB)
  clear hr
  have hc := c.toNat_lt
  have b1 : ((c.toNat : Int) == 1) = false := by rw [beq_eq_false_iff_ne]; omega
  have b2 : ((c.toNat : Int) == 2) = false := by rw [beq_eq_false_iff_ne]; omega
  have b3 : ((c.toNat : Int) == 3) = false := by rw [beq_eq_false_iff_ne]; omega
  clear h1 h2 h3
  go_enter Try.func39, Try.ntmps39
  go_wp2_with fail
  refine C.out.mono ?_
  rintro e w1 ⟨rfl, hr1, hg1⟩
  have hq1 : w1.heap[w.heap.size]? = some (.cells zero4 24 (0, 0)) := (hg1.block _ (by simp) (by intro e; injection e; omega)).trans (heap_alloc_new w _)
  obtain ⟨hq2, hE⟩ := bad_end hr1 (grown2 (grown_alloc w _ _) hg1) hlt hB hq1 none rfl 0
  have HE := Lib.hid hE
  obtain ⟨k0, k1, k2, k3, g0, g1, g2, g3⟩ := res_cells (w := w1.setCell ⟨rb, 2, none⟩ (.bool true)) hq2
  have f2 := (bad_set hr1 hB).2.2.1
  have c2 := (bad_set hr1 hB).2.2.2
  clear hq1 hq2 hE hr1 hg1 C
  go_wp2_with fail
  exact bodyPost_ret (v := .agg zero4) (by simp [results, Try.results39, go_sem, k0, k1, k2, k3]) rfl (HE.out _ _ _ _)

set_option maxRecDepth 100000 in
set_option maxHeartbeats 1600000 in
theorem qvalue_none (rb B : Nat) (L : List UInt8) (d : Nat) (ar : Int) (w : World) (hr : RdrQ w rb B L [] false) (hB : B ≤ rb) :
    Calls Try.prog 39 #[.pointer (some ⟨rb, 0, none⟩), .int .i64 ar] w (QPost rb B L w (valP d [])) := by
  have hlt := hr.lt
  have hv : valP d [] = none := by cases d <;> rw [valP]
  rw [hv]
  clear hv
  have C := Lib.hid (next_end rb B L false (w.alloc (.cells zero4 24)) (hr.far (fun k hk => Below.heap_alloc _ _ _ hk) (by omega)) hB)
  clear hr
  go_enter Try.func39, Try.ntmps39
  go_wp2_with fail
  refine C.out.mono ?_
  rintro e w1 ⟨rfl, hr1, hg1⟩
  have hq1 : w1.heap[w.heap.size]? = some (.cells zero4 24 (0, 0)) := (hg1.block _ (by simp) (by intro e; injection e; omega)).trans (heap_alloc_new w _)
  obtain ⟨hq2, hE⟩ := bad_end hr1 (grown2 (grown_alloc w _ _) hg1) hlt hB hq1 none rfl 0
  have HE := Lib.hid hE
  obtain ⟨k0, k1, k2, k3, g0, g1, g2, g3⟩ := res_cells (w := w1.setCell ⟨rb, 2, none⟩ (.bool true)) hq2
  have f2 := (bad_set hr1 hB).2.2.1
  have c2 := (bad_set hr1 hB).2.2.2
  clear hq1 hq2 hE hr1 hg1 C
  go_wp2_with fail
  exact bodyPost_ret (v := .agg zero4) (by simp [results, Try.results39, go_sem, k0, k1, k2, k3]) rfl (HE.out _ _ _ _)
end Go.Proofs.Ytomiacedailmaaa
