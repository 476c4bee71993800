/- Chains: the reference: Verify, Earlier; the law's full, ends. -/
import Derived.Test.YtllkkafajchioaaDoorXU
namespace Go.Proofs.YtllkkafajchioaaDoor
open Go.RowKit

set_option maxRecDepth 100000 in
set_option maxHeartbeats 1600000 in
theorem rVerify_no (p m : List UInt8) (n cap : Nat) (A : Option Addr) (w : World) (hm : m.length = 32) (hn : n ≠ 19) (hm2 : n ≤ 9223372036854775807) :
    Calls Tryd.prog 24 #[.agg (U p).toArray, .agg (U m).toArray, .slice A n cap] w fun e w' => e = .returned (.bool false) ∧ Below w.heap.size w w' := by
  have HM := Lib.hid hm
  have HN := Lib.hid hn
  have hbx := box2 w (U p).toArray (U m).toArray 23 23 _ rfl
  have r1 : RowB ((w.alloc (.cells (U p).toArray 23)).alloc (.cells (U m).toArray 23)) (w.heap.size + 1) 23 m := hbx.2.1
  have HB := Lib.hid hbx.2.2.1
  have HZ := Lib.hid hbx.2.2.2
  clear hbx hn hm
  go_enter Tryd.func24, Tryd.ntmps24
  go_wp2_with (refine load_B rfl (.tmp 4) rfl (w.heap.size + 1) rfl 23 m r1 HM.out ?_)
  refine (rRecover_no m n cap A _ HN.out hm2).mono ?_
  rintro e w2 ⟨rfl, hb2⟩
  have HB2 := Lib.hid (HB.out.trans (hb2.mono (by rw [HZ.out]; omega)))
  have n2 : RowB (w2.alloc (.cells (U (flb 32 [])).toArray 23)) w2.heap.size 23 (flb 32 []) := heap_alloc_new w2 _
  have hz2 := HB2.out.size
  clear hb2 r1 HZ
  go_wp2_with (refine store_B rfl (.tmp 7) (.tmp 13) rfl w2.heap.size (flb 32 []) z32 rfl rfl 23 n2 rfl (by simp [flb]) ?_)
  go_ret
  exact ⟨rfl, below_setRow (HB2.out.alloc hz2 _) hz2 _⟩

set_option maxRecDepth 100000 in
set_option maxHeartbeats 1600000 in
theorem rVerify_yes (p m : List UInt8) (L : List (List UInt8)) (A : Option Addr) (cap : Nat) (w : World) (hp : p.length = 32) (hm : m.length = 32) (hL : L.length = 19) (hl : DL w (· < w.heap.size) L A cap) :
    Calls Tryd.prog 24 #[.agg (U p).toArray, .agg (U m).toArray, .slice A 19 cap] w fun e w' => e = .returned (.bool (decide (recF m L = p))) ∧ Below w.heap.size w w' := by
  have HP := Lib.hid hp
  have HM := Lib.hid hm
  obtain ⟨h0, h1, hb1, hz1⟩ := box2 w (U p).toArray (U m).toArray 23 23 _ rfl
  have r1 : RowB ((w.alloc (.cells (U p).toArray 23)).alloc (.cells (U m).toArray 23)) (w.heap.size + 1) 23 m := h1
  have R0 := Lib.hid (show RowB ((w.alloc (.cells (U p).toArray 23)).alloc (.cells (U m).toArray 23)) w.heap.size 23 p from h0)
  have C := Lib.hid (rRecover_yes m L A cap _ hm hL (hl.keep fun i hi => ⟨by omega, hb1.block i hi⟩))
  have HB := Lib.hid hb1
  have HZ := Lib.hid hz1
  have q1 := eq_dig (recF m L) p (recF_len m L) hp
  have q2 := recF_len m L
  have HQ2 := Lib.hid q2
  clear h0 h1 hb1 hz1 hp hm hL hl q2
  generalize recF m L = R at *
  go_enter Tryd.func24, Tryd.ntmps24
  go_wp2_with (refine load_B rfl (.tmp 4) rfl (w.heap.size + 1) rfl 23 m r1 HM.out ?_)
  refine C.out.mono ?_
  rintro e w2 ⟨rfl, hb2⟩
  have hsz := hb2.size
  have n2 : RowB (w2.alloc (.cells (U (flb 32 [])).toArray 23)) w2.heap.size 23 (flb 32 []) := heap_alloc_new w2 _
  have hb3 : Below w2.heap.size w2 ((w2.alloc (.cells (U (flb 32 [])).toArray 23)).setRow w2.heap.size (U R).toArray) := below_setRow ((Below.refl _ _).alloc (Nat.le_refl _) _) (Nat.le_refl _) _
  have n3 := n2.setRow R
  have n4 := (R0.out.keep (hb2.block _ (by rw [HZ.out]; omega))).keep (hb3.block _ (by rw [HZ.out] at hsz; omega))
  have HB2 := Lib.hid (HB.out.trans ((hb2.trans (hb3.mono hsz)).mono (by rw [HZ.out]; omega)))
  clear hb2 hb3 r1 hsz
  go_wp2_with (first
    | (refine store_B rfl (.tmp 7) (.tmp 13) rfl w2.heap.size (flb 32 []) R rfl rfl 23 n2 HQ2.out (by simp [flb]) ?_)
    | (refine load_Bw (by kernel_rfl) (.tmp 7) rfl w2.heap.size rfl 23 R n3 HQ2.out ?_)
    | (refine load_Bw (by kernel_rfl) (.tmp 3) rfl w.heap.size rfl 23 p n4 HP.out ?_))
  go_ret
  exact ⟨rfl, HB2.out⟩

theorem rEarlier_no (m q : List UInt8) (n cap : Nat) (A : Option Addr) (w : World) (hn : n ≠ 19) (_hm : n ≤ 9223372036854775807) :
    Calls Tryd.prog 12 #[.agg (U m).toArray, .slice A n cap, .agg (U q).toArray] w fun e w' => e = .returned (erv none) ∧ Below w.heap.size w w' := by
  have hne : ((n : Int) != 19) = true := by
    have : ¬ ((n : Int) = 19) := by omega
    simpa using this
  clear hn
  go_enter Tryd.func12, Tryd.ntmps12
  go_wp2_with fail
  go_ret2
  exact ⟨rfl, ((Below.refl _ _).alloc (Nat.le_refl _) _).alloc (by simp) _⟩

set_option maxRecDepth 100000 in
set_option maxHeartbeats 1600000 in
theorem rEarlier_yes (m q : List UInt8) (cap : Nat) (A : Option Addr) (w : World) (hm : m.length = 32) (hq : q.length = 32) :
    Calls Tryd.prog 12 #[.agg (U m).toArray, .slice A 19 cap, .agg (U q).toArray] w fun e w' => e = .returned (erv (earF (dgl m) (dgl q) 19 0)) ∧ Below w.heap.size w w' := by
  have HM := Lib.hid hm
  have HQ := Lib.hid hq
  clear hm hq
  have hbx := box2 w (U m).toArray (U q).toArray 23 23 _ rfl
  have r1 : RowB ((w.alloc (.cells (U m).toArray 23)).alloc (.cells (U q).toArray 23)) w.heap.size 23 m := hbx.1
  clear hbx
  go_enter Tryd.func12, Tryd.ntmps12
  go_wp2_with (refine load_B rfl (.tmp 3) rfl w.heap.size rfl 23 m r1 HM.out ?_)
  clear r1
  generalize hW1 : (w.alloc _).alloc _ = W1
  obtain ⟨_, h1, hb1, hz1⟩ := box2 w (U m).toArray (U q).toArray 23 23 W1 hW1
  clear hW1
  refine (rDigits_all m W1 HM.out).mono ?_
  rintro e w2 ⟨Aa, ca, rfl, hoa, hb2⟩
  have hz2 := hb2.size
  have r2 : RowB w2 (w.heap.size + 1) 23 q := (hb2.block _ (by omega)).trans h1
  have HA := Lib.hid (hoa.il.keep (w' := w2) (S' := (· < w2.heap.size)) fun i hi => ⟨hi.2, rfl⟩)
  have HB2 := Lib.hid (hb1.trans (hb2.mono (by omega)))
  clear h1 hb1 hb2 hoa
  go_wp2_with (refine load_B rfl (.tmp 5) rfl (w.heap.size + 1) rfl 23 q r2 HQ.out ?_)
  refine (rDigits_all q w2 HQ.out).mono ?_
  rintro e w3 ⟨Ab, cb, rfl, hob, hb3⟩
  have hz3 := hb3.size
  have HA3 := Lib.hid (HA.out.keep (w' := w3) (S' := (· < w3.heap.size)) fun i hi => ⟨by omega, hb3.block i hi⟩)
  have HB3 := Lib.hid (hob.il.keep (w' := w3) (S' := (· < w3.heap.size)) fun i hi => ⟨hi.2, rfl⟩)
  have HBW := Lib.hid (HB2.out.trans (hb3.mono (by omega)))
  have HD := Lib.hid (dgl_len m)
  have HE := Lib.hid (dgl_len q)
  have hsz : w.heap.size ≤ w3.heap.size := by omega
  clear hb3 r2 hob HA HB2
  generalize hDD : dgl m = D at *
  generalize hEE : dgl q = E at *
  have HDD := Lib.hid hDD
  have HEE := Lib.hid hEE
  clear hDD hEE
  go_wp2_with fail
  go_loopw [10] (fun x wr => ∃ k : Nat, k ≤ 19 ∧ x = .int .i64 k ∧ Hid (earF D E 19 0 = earF D E (19 - k) k) ∧ Hid (Below w3.heap.size w3 wr)) (fun x _ => 19 - (intOf x).toNat)
  case atStart => exact ⟨0, by omega, rfl, Lib.hid rfl, Lib.hid (Below.refl _ _)⟩
  case round =>
    obtain ⟨k, hk, rfl, HX, HBB⟩ := hrel
    by_cases hlt : k < 19
    · obtain ⟨d, e, hd, he, hs⟩ := earF_step D E k hlt HD.out HE.out
      obtain ⟨b1, o1, rfl, hS1, hr1⟩ := (HA3.out.keep (w' := wr) (S' := (· < w3.heap.size)) fun i hi => ⟨hi, HBB.out.block i hi⟩).2.2 (by rw [HD.out]; omega)
      obtain ⟨b2, o2, rfl, hS2, hr2⟩ := (HB3.out.keep (w' := wr) (S' := (· < w3.heap.size)) fun i hi => ⟨hi, HBB.out.block i hi⟩).2.2 (by rw [HE.out]; omega)
      have c1 := hr1 k d hd
      have c2 := hr2 k e he
      have HS := Lib.hid hs
      have bk : (k : Int) < 19 := by omega
      clear hd he hs hr1 hr2
      by_cases hed : e < d
      · have HF := Lib.hid (show earF D E 19 0 = some k by rw [HX.out, HS.out, if_pos hed])
        have q1 : decide ((e : Int) < d) = true := decide_eq_true (by omega)
        go_wp2_with fail
        go_quiet (fail)
        go_wp2_with fail
        go_ret2
        exact ⟨by rw [HDD.out, HEE.out, HF.out]; rfl, HBW.out.trans ((below_drewN HBB.out _).mono hsz)⟩
      · have HF := Lib.hid (show earF D E 19 0 = earF D E (19 - (k + 1)) (k + 1) by rw [HX.out, HS.out, if_neg hed])
        have q1 : decide ((e : Int) < d) = false := decide_eq_false (by omega)
        go_wp2_with fail
        go_quiet (fail)
        go_wp2_with fail
        go_roundw
        case rel => exact ⟨k + 1, by omega, by go_num, HF, Lib.hid (below_drewN HBB.out _)⟩
        case measure => simp [intOf]; omega
    · obtain rfl : k = 19 := by omega
      have HF := Lib.hid (show earF D E 19 0 = none by rw [HX.out]; rfl)
      go_wp2_with fail
      go_ret2
      exact ⟨by rw [HDD.out, HEE.out, HF.out]; rfl, HBW.out.trans (HBB.out.mono hsz)⟩

/-- the digest of bytes 255 -/
def fullD : List UInt8 := List.replicate 32 255
set_option maxRecDepth 100000 in
set_option maxHeartbeats 1600000 in
theorem full_all (w : World) : Calls Tryd.prog 28 #[] w fun e w' => e = .returned (.agg (U fullD).toArray) ∧ Below w.heap.size w w' := by
  have h0 : RowB (w.alloc (.cells (U (flb 32 [])).toArray 23)) w.heap.size 23 (flb 32 (List.replicate 0 255)) := heap_alloc_new w _
  have H0 := Lib.hid h0
  clear h0
  go_enter Tryd.func28, Tryd.ntmps28
  go_wp2_with fail
  go_loopw [2] (fun x wr => ∃ k : Nat, x = .int .i64 k ∧ k ≤ 32 ∧ Hid (RowB wr w.heap.size 23 (flb 32 (List.replicate k 255))) ∧ Hid (Below w.heap.size w wr)) (fun x _ => 32 - (intOf x).toNat)
  case atStart => exact ⟨0, rfl, by omega, H0, Lib.hid ((Below.refl _ _).alloc (Nat.le_refl _) _)⟩
  case round =>
    obtain ⟨k, rfl, hk, HR, HB⟩ := hrel
    by_cases hlt : k < 32
    · have hn := flb_next 32 (List.replicate k (255 : UInt8)) (by simp; exact hlt)
      rw [List.length_replicate] at hn
      have hc2 := HR.out.cell hn
      have hf2 := HR.out.frozen k
      have H2 := Lib.hid (HR.out.next (by simp; exact hlt) 255)
      rw [List.length_replicate, ← List.replicate_succ'] at H2
      have bk : (k : Int) < 32 := by omega
      clear hn
      go_wp2_with fail
      go_roundw
      case rel => exact ⟨k + 1, rfl, by omega, H2, Lib.hid (HB.out.setCell (Nat.le_refl _) _)⟩
      case measure => simp [intOf]; omega
    · obtain rfl : k = 32 := by omega
      have hfin : RowB wr w.heap.size 23 fullD := by have h := HR.out; rwa [flb_full _ _ (by simp)] at h
      go_wp2_with (first | (refine load_B rfl (.tmp 0) rfl w.heap.size rfl 23 fullD hfin rfl ?_) | (refine store_BS rfl (.tmp 0) (.tmp 8) rfl w.heap.size fullD rfl rfl 23 hfin rfl ?_))
      exact bodyPost_ret (res_B rfl _ _ _ _ _ rfl hfin rfl) rfl ⟨rfl, HB.out⟩
end Go.Proofs.YtllkkafajchioaaDoor
