/- Codec: the reference's reader: texts. -/
import Derived.Test.YtomiacedailmaaaDJ
import Derived.StillTailTactics
namespace Go.Proofs.Ytomiacedailmaaa
open Go.RowKit

theorem Byt.takeq {w : World} {S : Nat → Prop} {l : List UInt8} {A : Option Addr} {cap : Nat} (h : Byt w S l A cap) (n : Nat) : Byt w S (l.take n) A cap := by
  refine ⟨Nat.le_trans (by rw [List.length_take]; omega) h.1, h.2.1, fun hp => ?_⟩
  rw [List.length_take] at hp
  obtain ⟨b, o, e, hS, hc⟩ := h.2.2 (by omega)
  refine ⟨b, o, e, hS, fun i u hu => hc i u ?_⟩
  have hi : i < (U (l.take n)).length := by
    by_cases h : i < (U (l.take n)).length
    · exact h
    · rw [List.getElem?_eq_none (by omega)] at hu; cases hu
  rw [U_length, List.length_take] at hi
  rw [U, List.getElem?_map] at hu ⊢
  rw [List.getElem?_take, if_pos (by omega)] at hu
  exact hu

set_option maxRecDepth 100000 in
set_option maxHeartbeats 3200000 in
theorem qvalue_text (rb B : Nat) (c : UInt8) (L r : List UInt8) (d : Nat) (ar : Int) (w : World) (hr : RdrQ w rb B L (c :: r) false) (hB : B ≤ rb) (hc : c.toNat = 2) :
    Calls Try.prog 39 #[.pointer (some ⟨rb, 0, none⟩), .int .i64 ar] w (QPost rb B L w (valP d (c :: r))) := by
  have hlt := hr.lt
  obtain ⟨R, hR⟩ : ∃ R, R = valP d (c :: r) := ⟨_, rfl⟩
  rw [← hR]
  have HVN : Hid (numP 10 0 r = none → R = none) := fun h => by rw [hR]; cases d <;> rw [valP, if_neg (by omega), if_pos hc, h]
  have HVB : Hid (∀ u l1, numP 10 0 r = some (u, l1) → ¬ u ≤ l1.length → R = none) := fun u l1 h hn => by
    rw [hR]; cases d <;> (rw [valP, if_neg (by omega), if_pos hc, h]; exact if_neg hn)
  have HVS : Hid (∀ u l1, numP 10 0 r = some (u, l1) → u ≤ l1.length → R = some (⟨2, 0, ⟨(l1.take u).toArray⟩, .nil⟩, l1.drop u)) := fun u l1 h hn => by
    rw [hR]; cases d <;> (rw [valP, if_neg (by omega), if_pos hc, h]; exact if_pos hn)
  clear hR
  have hL : 0 < L.length := by
    obtain ⟨_, _, a0, _, _, hd0, _⟩ := hr
    have := congrArg List.length hd0
    rw [List.length_drop, List.length_cons] at this
    omega
  have C := Lib.hid (next_ok rb B L r c false (w.alloc (.cells zero4 24)) (hr.far (fun k hk => Below.heap_alloc _ _ _ hk) (by omega)) hB)
  rw [hc] at C
  clear hc hr
  go_enter Try.func39, Try.ntmps39
  go_wp2_with fail
  refine C.out.mono ?_
  rintro e w1 ⟨rfl, hr1, hg1⟩
  have D := Lib.hid (number_all rb B L r w1 hr1 hB)
  have hq1 : w1.heap[w.heap.size]? = some (.cells zero4 24 (0, 0)) := (hg1.block _ (by simp) (by intro e; injection e; omega)).trans (heap_alloc_new w _)
  have hz1 := lt_of_block hq1
  have HG1 := Lib.hid (grown2 (grown_alloc w _ _) hg1)
  clear hr1 hg1 C
  go_wp2_with fail
  refine D.out.mono ?_
  rintro e w2 ⟨hg2, hm⟩
  have hq2 := (hg2.block w.heap.size hz1 (by intro e; injection e; omega)).trans hq1
  have HG2 := Lib.hid (grown2 HG1.out hg2)
  clear hg2 hq1 D
  rcases hn : numP 10 0 r with _ | ⟨u, l1⟩
  · rw [hn] at hm
    obtain ⟨u, r2, rfl, hu, hq⟩ := hm
    have HE := Lib.hid (fun n => bad_end hq HG2.out hlt hB hq2 R (HVN.out hn) n)
    have K := Lib.hid (fun n => res_cells (HE.out n).1)
    have k0 := fun n => (K.out n).1
    have k1 := fun n => (K.out n).2.1
    have k2 := fun n => (K.out n).2.2.1
    have k3 := fun n => (K.out n).2.2.2.1
    have g0 := fun n => (K.out n).2.2.2.2.1
    have g1 := fun n => (K.out n).2.2.2.2.2.1
    have g2 := fun n => (K.out n).2.2.2.2.2.2.1
    have g3 := fun n => (K.out n).2.2.2.2.2.2.2
    have f2 := (bad_set hq hB).2.2.1
    have c2 := (bad_set hq hB).2.2.2
    clear hq hq2 hn
    go_wp2_with fail
    go_quiet (fail)
    go_wp2_with fail
    exact bodyPost_ret (v := .agg zero4) (by simp [results, Try.results39, go_sem, k0, k1, k2, k3]) rfl ((HE.out _).2 _ _ _ _)
  · rw [hn] at hm
    obtain ⟨rfl, hq⟩ := hm
    obtain ⟨A, cap, a, hh, hb, hd, ha⟩ := hq
    have hll : l1.length = L.length - a := by rw [← hd, List.length_drop]
    have hu := (numP_lt' hn).1
    have hm1 := hb.1
    have hm2 := hb.2.1
    unfold maxLen at hm2
    have c0 := cell_of_row _ _ 0 _ _ _ hh
    have c1 := cell_of_row _ _ 1 _ _ _ hh
    have c2 := cell_of_row _ _ 2 _ _ _ hh
    have f1 := cells_frozen hh 1
    have f2 := cells_frozen hh 2
    have HH := Lib.hid hh
    have HB := Lib.hid hb
    have HD := Lib.hid hd
    clear hh hb hd
    have e1 : IntKind.i64.wrap ((L.length : Int) - a) = l1.length := by rw [show (L.length : Int) - a = l1.length from by omega]; exact IntWalk.i64_in _ (by omega)
    have e2 : IntKind.u64.wrap (l1.length : Int) = l1.length := by rw [IntKind.wrap_u64]; omega
    have HLL := Lib.hid hll
    clear hll
    by_cases hle : u ≤ l1.length
    · have hd : decide (l1.length < u) = false := by simpa using hle
      have HS := Lib.hid (HVS.out u l1 hn hle)
      have HLE := Lib.hid hle
      have hu3 : u ≤ 9223372036854775807 := by have := HLL.out; omega
      have HAU : Hid (a + u ≤ L.length) := by show a + u ≤ L.length; have := HLL.out; omega
      have HQ2 := Lib.hid hq2
      clear hn hle hq2
      go_wp2_with fail
      go_quiet (fail)
      have hau : a + u ≤ 9223372036854775807 := by have := HAU.out; omega
      go_wp2_with fail
      obtain ⟨W, hW⟩ : ∃ W, W = (w2.drewN nq).setCell ⟨rb, 1, none⟩ (.int .i64 ((a : Int) + u)) := ⟨_, rfl⟩
      rw [← hW]
      have hbW : W.heap[rb]? = some (.cells #[.slice A L.length cap, .int .i64 ((a : Int) + u), .bool false] 59 (0, 0)) := by rw [hW]; exact blk_set (w := w2.drewN nq) HH.out 1 _
      have hqW : W.heap[w.heap.size]? = some (.cells zero4 24 (0, 0)) := by rw [hW]; exact (Below.heap_setCell _ _ _ _ (by show w.heap.size ≠ rb; omega)).trans HQ2.out
      have hkeep : ∀ i, i < B → i < B ∧ W.heap[i]? = w2.heap[i]? := fun i hi => ⟨hi, by rw [hW]; exact Below.heap_setCell _ _ _ _ (by show i ≠ rb; omega)⟩
      have HBW := Lib.hid (HB.out.keep hkeep)
      have HRW : Hid (RdrQ W rb B L (l1.drop u) false) := ⟨A, cap, a + u, hbW, HBW.out, by rw [← List.drop_drop, HD.out], HAU.out⟩
      have HGW : Hid (w.grownBy W (some rb)) := by
        rw [hW]
        exact grown2 HG2.out ⟨rfl, rfl, rfl, by simp [World.setCell], fun k _ hne => Below.heap_setCell _ _ _ _ (by intro e; exact hne (by rw [e]))⟩
      have j0 := cell_of_row _ _ 0 _ _ _ hbW
      have j1 := cell_of_row _ _ 1 _ _ _ hbW
      obtain ⟨k0, k1, k2, k3, g0, g1, g2, g3⟩ := res_cells hqW
      clear hW hbW hqW hkeep c0 c1 c2 f1 f2 e1 e2 hd
      obtain ⟨b, o, rfl, _, _⟩ := HB.out.2.2 hL
      have hlu : u = (l1.take u).length := by rw [List.length_take]; have := HLE.out; omega
      have HLU := Lib.hid hlu
      clear hlu
      have hfin : ∀ ua ub uc ud, QPost rb B L w R (.returned (.agg #[.int .i64 2, .int .i64 0, .string ⟨(l1.take u).toArray⟩, .slice none 0 0])) ((((W.drew.setCell ⟨w.heap.size, 0, none⟩ ua).setCell ⟨w.heap.size, 1, none⟩ ub).setCell ⟨w.heap.size, 2, none⟩ uc).setCell ⟨w.heap.size, 3, none⟩ ud) := fun ua ub uc ud => by
        have h1 : RdrQ W.drew rb B L (l1.drop u) false := by
          obtain ⟨A, cap, a, hc, hb, hd, ha⟩ := HRW.out
          exact ⟨A, cap, a, hc, hb, hd, ha⟩
        have hx := setq4 h1 (show w.grownBy W.drew (some rb) from ⟨HGW.out.os, HGW.out.tape, HGW.out.output, HGW.out.size, HGW.out.block⟩) hlt hB ua ub uc ud
        refine ⟨hx.2, ?_⟩
        rw [HS.out]
        refine ⟨none, 0, rfl, rdv_leaf ⟨by omega, by omega, by omega, by omega, ?_⟩, hx.1⟩
        show (l1.take u).toArray.size ≤ maxLen
        rw [List.size_toArray, ← HLU.out]
        simp only [maxLen]
        omega
      have HF := Lib.hid hfin
      clear hfin
      have n1 : (a : Int) + u - u = a := by omega
      have n2 : 0 ≤ (a : Int) + u := by omega
      have n3 : (a : Int) ≤ a + u := by omega
      have n4 : (a : Int) + u ≤ cap := by have := HAU.out; omega
      have n5 : ((a : Int) + u).toNat = a + u := by omega
      have n6 : a + u - a = u := by omega
      by_cases hca : cap = a
      · have hu0 : Hid (u = 0) := by show u = 0; have := HAU.out; omega
        have hcv := conv_str (w := W.drew) (S := (· < B)) (n := u) (l := l1.take u) (A := some ⟨b, o, none⟩) (cap := 0) ⟨by rw [← HLU.out, hu0.out]; exact Nat.le_refl _, Nat.zero_le _, fun h => absurd h (by rw [← HLU.out, hu0.out]; exact Nat.lt_irrefl _)⟩ HLU.out
        generalize hS : ByteArray.mk (l1.take u).toArray = S at *
        have e1 : IntKind.i64.wrap (u : Int) = u := IntWalk.i64_in _ (by omega)
        have e2 : IntKind.i64.wrap ((a : Int) + u - u) = a := by rw [n1]; exact IntWalk.i64_in _ (by omega)
        have e3 : IntKind.i64.wrap (a : Int) = a := IntWalk.i64_in _ (by omega)
        subst hca
        go_still_tail 18, (by kernel_rfl)
        change wpList _ _ _ _ _ W.drew
        go_wp2_with fail
        exact bodyPost_ret (v := .agg #[.int .i64 2, .int .i64 0, .string S, .slice none 0 0]) (by simp [results, Try.results39, go_sem, k0, k1, k2, k3]) rfl (HF.out _ _ _ _)
      · have hcv := conv_str (w := W.drew) (S := (· < B)) (n := u) ((((HBW.out.drop a).takeq u)).keep fun i hi => ⟨hi, rfl⟩) (by rw [HD.out]; exact HLU.out)
        rw [HD.out] at hcv
        generalize hS : ByteArray.mk (l1.take u).toArray = S at *
        have e1 : IntKind.i64.wrap (u : Int) = u := IntWalk.i64_in _ (by omega)
        have e2 : IntKind.i64.wrap ((a : Int) + u - u) = a := by rw [n1]; exact IntWalk.i64_in _ (by omega)
        have e3 : IntKind.i64.wrap (a : Int) = a := IntWalk.i64_in _ (by omega)
        go_still_tail 18, (by kernel_rfl)
        change wpList _ _ _ _ _ W.drew
        go_wp2_with fail
        exact bodyPost_ret (v := .agg #[.int .i64 2, .int .i64 0, .string S, .slice none 0 0]) (by simp [results, Try.results39, go_sem, k0, k1, k2, k3]) rfl (HF.out _ _ _ _)
    · have hd : decide (l1.length < u) = true := by simpa using hle
      have hq : RdrQ w2 rb B L l1 false := ⟨A, cap, a, HH.out, HB.out, HD.out, ha⟩
      have HE := Lib.hid (fun n => bad_end hq HG2.out hlt hB hq2 R (HVB.out _ _ hn hle) n)
      have K := Lib.hid (fun n => res_cells (HE.out n).1)
      have k0 := fun n => (K.out n).1
      have k1 := fun n => (K.out n).2.1
      have k2 := fun n => (K.out n).2.2.1
      have k3 := fun n => (K.out n).2.2.2.1
      have g0 := fun n => (K.out n).2.2.2.2.1
      have g1 := fun n => (K.out n).2.2.2.2.2.1
      have g2 := fun n => (K.out n).2.2.2.2.2.2.1
      have g3 := fun n => (K.out n).2.2.2.2.2.2.2
      clear hq hq2 hn hle
      go_wp2_with fail
      go_quiet (fail)
      go_wp2_with fail
      exact bodyPost_ret (v := .agg zero4) (by simp [results, Try.results39, go_sem, k0, k1, k2, k3]) rfl ((HE.out _).2 _ _ _ _)
end Go.Proofs.Ytomiacedailmaaa
