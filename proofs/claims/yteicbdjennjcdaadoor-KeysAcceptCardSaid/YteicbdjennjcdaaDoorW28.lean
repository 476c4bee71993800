/- Keys: KeysAccept. -/
import Derived.Test.YteicbdjennjcdaaDoorW27
namespace Go.Proofs.YteicbdjennjcdaaDoor
set_option maxRecDepth 100000
open Go.RowKit

set_option maxHeartbeats 6400000 in
theorem accept_all (sd : List UInt8) (n i : Int) (m : List UInt8) (w : World) (_h1 : -9223372036854775808 ≤ n) (_h2 : n ≤ 9223372036854775807) (hi1 : -9223372036854775808 ≤ i) (hi2 : i ≤ 9223372036854775807) (hs : sd.length = 32) (hm : m.length = 32) (hk : KR w Kt) :
    Calls Tryd.prog 7 #[.agg (U sd).toArray, .int .i64 n, .int .i64 i, .agg (U m).toArray] w fun e w' => e = .returned (.bool true) ∧ Below w.heap.size w w' := by
  obtain ⟨f, hf⟩ : ∃ f, f = 1099511627776 := ⟨_, rfl⟩
  have HS := Lib.hid hs
  have HM := Lib.hid hm
  have HF := Lib.hid hf
  have hlt0 := hk.lt
  go_enter Tryd.func7, Tryd.ntmps7
  go_upto_region 1 with fail
  generalize hW1 : (w.alloc _).alloc _ = W1
  obtain ⟨b1, b2, hb1, hz1⟩ := box2 w (U sd).toArray (U m).toArray 23 23 W1 hW1
  have F1 := Lib.hid (show RowB W1 w.heap.size 23 sd from b1)
  have F2 := Lib.hid (show RowB W1 (w.heap.size + 1) 23 m from b2)
  have HKR := Lib.hid (hk.keep (hb1.block 0 hlt0))
  have HB := Lib.hid hb1
  clear hW1 b1 b2 hb1 hz1 hs hm hf hk
  go_wp2_with fail
  refine (sane_all f HF.out W1 HKR.out).mono ?_
  rintro e w2 ⟨rfl, hb⟩
  have F1 := Lib.hid (F1.out.keep (hb.block _ F1.out.lt))
  have F2 := Lib.hid (F2.out.keep (hb.block _ F2.out.lt))
  have HKR := Lib.hid (HKR.out.keep (hb.block 0 HKR.out.lt))
  have HB := Lib.hid (HB.out.trans (hb.mono HB.out.size))
  clear hb
  go_wp2_with fail
  refine (rFew_all n Lf.zero w2).mono ?_
  rintro e w3 ⟨rfl, hb⟩
  have F1 := Lib.hid (F1.out.keep (hb.block _ F1.out.lt))
  have F2 := Lib.hid (F2.out.keep (hb.block _ F2.out.lt))
  have HKR := Lib.hid (HKR.out.keep (hb.block 0 HKR.out.lt))
  have HB := Lib.hid (HB.out.trans (hb.mono HB.out.size))
  clear hb
  obtain ⟨fw, hfw⟩ : ∃ fw, fewB n Lf.zero = fw := ⟨_, rfl⟩
  rw [hfw]
  cases fw with
  | false =>
    go_wp2_with fail
    go_ret
    exact ⟨rfl, HB.out⟩
  | true =>
    have hnn := (few_len hfw).1
    clear hfw
    by_cases hbig : 256 < n
    · go_wp2_with fail
      go_ret
      exact ⟨rfl, HB.out⟩
    have HRL := Lib.hid (rtd_len f sd n)
    have r1 := F1.out
    have C := Lib.hid (Root_all f HF.out sd n w3 HS.out HKR.out)
    go_wp2_with (refine load_B rfl (.tmp 4) rfl w.heap.size rfl 23 sd r1 HS.out ?_)
    refine C.out.mono ?_
    rintro e w4 ⟨rfl, hb⟩
    clear C r1
    have F1 := Lib.hid (F1.out.keep (hb.block _ F1.out.lt))
    have F2 := Lib.hid (F2.out.keep (hb.block _ F2.out.lt))
    have HKR := Lib.hid (HKR.out.keep (hb.block 0 HKR.out.lt))
    have HB := Lib.hid (HB.out.trans (hb.mono HB.out.size))
    clear hb
    have n0 := newD0 w4
    have HG := Lib.hid (newD w4 (rtd f sd n))
    go_upto_region 6 with (refine store_B rfl (.tmp 9) (.tmp 30) rfl w4.heap.size (flb 32 []) (rtd f sd n) rfl rfl 23 n0 HRL.out (by simp [flb]) ?_)
    generalize hW : World.setRow _ _ _ = w5
    obtain ⟨r0, hb⟩ := HG.out w5 hW
    have F1 := Lib.hid (F1.out.keep (hb.block _ F1.out.lt))
    have F2 := Lib.hid (F2.out.keep (hb.block _ F2.out.lt))
    have HKR := Lib.hid (HKR.out.keep (hb.block 0 HKR.out.lt))
    have HB := Lib.hid (HB.out.trans (hb.mono HB.out.size))
    clear hb
    have F3 := Lib.hid r0
    clear hW HG n0 r0
    have r1 := F1.out
    have r2 := F2.out
    have C := Lib.hid (Sign_any f HF.out sd m n i w5 HS.out HM.out HKR.out)
    go_wp2_with (first | (refine load_B rfl (.tmp 4) rfl w.heap.size rfl 23 sd r1 HS.out ?_) | (refine load_B rfl (.tmp 7) rfl (w.heap.size + 1) rfl 23 m r2 HM.out ?_))
    refine C.out.mono ?_
    rintro e w6 ⟨t, x, rfl, hsg, hb⟩
    clear C r1 r2
    have F1 := Lib.hid (F1.out.keep (hb.block _ F1.out.lt))
    have F2 := Lib.hid (F2.out.keep (hb.block _ F2.out.lt))
    have F3 := Lib.hid (F3.out.keep (hb.block _ F3.out.lt))
    have HKR := Lib.hid (HKR.out.keep (hb.block 0 HKR.out.lt))
    have HB := Lib.hid (HB.out.trans (hb.mono HB.out.size))
    clear hb
    have HOt := Lib.hid hsg.ok
    have SG1 := Lib.hid hsg
    clear hsg
    have n0 := newL0 w6
    have HG := Lib.hid (newL w6 t)
    go_upto_region 7 with (refine store_L rfl (.tmp 11) (.tmp 38) rfl w6.heap.size Lf.zero t rfl rfl n0 ?_)
    generalize hW : World.setRow _ _ _ = w7
    obtain ⟨r0, hb⟩ := HG.out w7 hW
    have F1 := Lib.hid (F1.out.keep (hb.block _ F1.out.lt))
    have F2 := Lib.hid (F2.out.keep (hb.block _ F2.out.lt))
    have F3 := Lib.hid (F3.out.keep (hb.block _ F3.out.lt))
    have HOt := Lib.hid (hok1 HOt.out hb)
    have HKR := Lib.hid (HKR.out.keep (hb.block 0 HKR.out.lt))
    have HB := Lib.hid (HB.out.trans (hb.mono HB.out.size))
    clear hb
    have F5 := Lib.hid r0
    clear hW HG n0 r0
    by_cases hn : NoLf n i
    · obtain ⟨ht, hx⟩ := SG1.out.no hn
      subst ht hx
      have c1 : w7.cell? ⟨w6.heap.size, 1, none⟩ = some (.slice none 0 0) := F5.out.c1
      have c2 : w7.cell? ⟨w6.heap.size, 2, none⟩ = some (.slice none 0 0) := F5.out.c2
      by_cases he : rte n = 0
      · rw [he]
        go_wp2_with fail
        go_ret
        exact ⟨rfl, HB.out⟩
      · have he2 : rte n = 60 := by unfold rte at he ⊢; by_cases hh : 1 ≤ n ∧ n ≤ 256 <;> simp [hh] at he ⊢
        rw [he2]
        go_wp2_with fail
        go_ret
        exact ⟨rfl, HB.out⟩
    obtain ⟨t1, t2, t3, hx⟩ := SG1.out.yes hn
    simp only [NoLf, Classical.not_not] at hn
    obtain ⟨n, rfl⟩ : ∃ k : Nat, n = k := ⟨n.toNat, by omega⟩
    obtain ⟨i, rfl⟩ : ∃ k : Nat, i = k := ⟨i.toNat, by omega⟩
    rw [Int.toNat_natCast, Int.toNat_natCast] at t3
    have HRE := Lib.hid (show rte (n : Int) = 0 from if_pos hn.1)
    rw [HRE.out]
    obtain ⟨ti, tC, tP, tcA, tcc, tpA, tpc⟩ := t
    simp only at t1 t2 t3
    subst t1 t2 t3 hx
    have HVO := Lib.hid (ver_own f HF.out sd m n i (by omega) (by omega) (by omega))
    have HLN := Lib.hid (SG1.out.lens hnn)
    clear SG1
    have hi10 : i + 1 ≤ 11 := by omega
    have hix : True := trivial
    go_upto_region 9 with fail
    obtain ⟨N1, hN1⟩ : ∃ N1, i + 1 = N1 := ⟨_, rfl⟩
    have HMK0 := made_list w7 i (by omega) m HM.out
    rw [hN1] at HMK0
    have HMK := Lib.hid HMK0
    clear HMK0
    have HN1 := Lib.hid hN1
    have hN1i : i < N1 := by omega
    have hN1b : N1 ≤ 11 := by omega
    clear hix hN1
    have hth := (HMK.out _ rfl).2.2
    have r2 := (F2.out.keep (w' := w7.alloc (.cells (madeCells (U z32).toArray (N1 * 32)) 23)) (Below.heap_alloc _ _ _ F2.out.lt))
    have hib : (i : Int) < 11 := by omega
    go_upto_region 11 with (first
      | (refine wl_succ rfl (.tmp 67) i N1 HN1.out (by omega) rfl rfl ?_; try simp only [Act.put, List.setIfInBounds_toArray, List.set_cons_zero, List.set_cons_succ])
      | (refine make_dig rfl (.tmp 68) (.tmp 68) rfl N1 (by omega) rfl rfl ?_; try simp only [Act.put, List.setIfInBounds_toArray, List.set_cons_zero, List.set_cons_succ])
      | (refine load_B rfl (.tmp 7) rfl (w.heap.size + 1) rfl 23 m r2 HM.out ?_; try simp only [Act.put, List.setIfInBounds_toArray, List.set_cons_zero, List.set_cons_succ])
      | (refine wl_val rfl (.pointer (some ⟨w7.heap.size, 0 + i * 32, none⟩)) (ev_index (.tmp 70) (.tmp 71) w7.heap.size 0 N1 N1 i rfl rfl rfl hN1i) ?_; rw [Nat.zero_add]; try simp only [Act.put, List.setIfInBounds_toArray, List.set_cons_zero, List.set_cons_succ])
      | (refine wpList_store_mid rfl 23 (.tmp 73) (.tmp 72) rfl w7.heap.size (i * 32) (U m).toArray (by kernel_rfl) rfl (by rw [U_size, HM.out]; exact hth) (by rw [sz32, U_size, HM.out]) (U_ones m) ?_))
    generalize hW8 : World.setCells _ _ _ _ = w8
    obtain ⟨hDL, hb, _⟩ := HMK.out w8 hW8
    have HDL := Lib.hid hDL
    clear hW8 HMK hth r2 hDL
    have F1 := Lib.hid (F1.out.keep (hb.block _ F1.out.lt))
    have F2 := Lib.hid (F2.out.keep (hb.block _ F2.out.lt))
    have F3 := Lib.hid (F3.out.keep (hb.block _ F3.out.lt))
    have F5 := Lib.hid (F5.out.keep (hb.block _ F5.out.lt))
    have HOt := Lib.hid (hok1 HOt.out hb)
    have HKR := Lib.hid (HKR.out.keep (hb.block 0 HKR.out.lt))
    have HB := Lib.hid (HB.out.trans (hb.mono HB.out.size))
    clear hb
    have r1 := F1.out
    have r2 := F2.out
    have r5 := F5.out
    have C := Lib.hid (Forged_all f HF.out sd m n (List.replicate i z32 ++ [m]) (some ⟨w7.heap.size, 0, none⟩) N1 _ w8 HS.out HM.out ⟨by show -9223372036854775808 ≤ (i : Int); omega, by show (i : Int) ≤ 9223372036854775807; omega⟩ HDL.out HOt.out (by have := HLN.out; omega) HKR.out)
    rw [show (List.replicate i z32 ++ [m]).length = N1 by simp [HN1.out]] at C
    go_wp2_with (first
      | (refine load_B rfl (.tmp 4) rfl w.heap.size rfl 23 sd r1 HS.out ?_)
      | (refine load_B rfl (.tmp 7) rfl (w.heap.size + 1) rfl 23 m r2 HM.out ?_)
      | (refine load_L rfl (.tmp 11) rfl w6.heap.size _ rfl r5 ?_))
    refine C.out.mono ?_
    rintro e w9 ⟨rfl, hb⟩
    clear C r1 r2 r5 HDL
    have F1 := Lib.hid (F1.out.keep (hb.block _ F1.out.lt))
    have F2 := Lib.hid (F2.out.keep (hb.block _ F2.out.lt))
    have F3 := Lib.hid (F3.out.keep (hb.block _ F3.out.lt))
    have F5 := Lib.hid (F5.out.keep (hb.block _ F5.out.lt))
    have HOt := Lib.hid (hok1 HOt.out hb)
    have HKR := Lib.hid (HKR.out.keep (hb.block 0 HKR.out.lt))
    have HB := Lib.hid (HB.out.trans (hb.mono HB.out.size))
    clear hb
    have HFG := Lib.hid (fun hz : m ≠ z32 => fg_own f sd m n i (sgn (sdK sd i) m) (pth f (pubs sd n) i) hz)
    have r2 := F2.out
    have HZ : Hid (z32.length = 32) := Lib.hid rfl
    simp only
    obtain ⟨X, hX⟩ : ∃ X, fgF f sd n (List.replicate i z32 ++ [m]) m i (sgn (sdK sd i) m) (pth f (pubs sd n) i) = X := ⟨_, rfl⟩
    rw [hX] at HFG ⊢
    clear hX
    go_upto_region 12 with fail
    by_cases hz : m = z32
    · have HDZ := Lib.hid (show decide (m = z32) = true from decide_eq_true hz)
      clear hz
      go_upto_region 15 with (first
        | (refine load_B rfl (.tmp 7) rfl (w.heap.size + 1) rfl 23 m r2 HM.out ?_)
        | (refine wl_eqD rfl (.tmp 83) (.tmp 84) m z32 HM.out HZ.out rfl rfl rfl ?_; rw [HDZ.out]))
      clear r2
      have r2 := F2.out
      have r3 := F3.out
      have r5 := F5.out
      have C := Lib.hid (Verify_all f HF.out (rtd f sd n) m n _ w9 HRL.out HM.out HOt.out (Nat.le_trans HLN.out.2 (by decide)) HKR.out)
      simp only at C
      rw [HVO.out] at C
      go_wp2_with (first
        | (refine load_B rfl (.tmp 9) rfl w4.heap.size rfl 23 (rtd f sd n) r3 HRL.out ?_)
        | (refine load_B rfl (.tmp 7) rfl (w.heap.size + 1) rfl 23 m r2 HM.out ?_)
        | (refine load_L rfl (.tmp 11) rfl w6.heap.size _ rfl r5 ?_))
      refine C.out.mono ?_
      rintro e w10 ⟨rfl, hb⟩
      have F5 := Lib.hid (F5.out.keep (hb.block _ F5.out.lt))
      have HB := Lib.hid (HB.out.trans (hb.mono HB.out.size))
      have c0 := F5.out.c0
      simp only at c0
      clear C r2 r3 r5 hb
      have hq1 : ((i : Int) == (i : Int)) = true := by simp
      go_wp2_with fail
      go_ret
      exact ⟨by simp, HB.out⟩
    · have HDZ := Lib.hid (show decide (m = z32) = false from decide_eq_false hz)
      have hX := HFG.out hz
      subst hX
      clear hz HFG
      go_upto_region 15 with (first
        | (refine load_B rfl (.tmp 7) rfl (w.heap.size + 1) rfl 23 m r2 HM.out ?_)
        | (refine wl_eqD rfl (.tmp 83) (.tmp 84) m z32 HM.out HZ.out rfl rfl rfl ?_; rw [HDZ.out]))
      clear r2
      have r2 := F2.out
      have r3 := F3.out
      have r5 := F5.out
      have C := Lib.hid (Verify_all f HF.out (rtd f sd n) m n _ w9 HRL.out HM.out HOt.out (Nat.le_trans HLN.out.2 (by decide)) HKR.out)
      simp only at C
      rw [HVO.out] at C
      go_wp2_with (first
        | (refine load_B rfl (.tmp 9) rfl w4.heap.size rfl 23 (rtd f sd n) r3 HRL.out ?_)
        | (refine load_B rfl (.tmp 7) rfl (w.heap.size + 1) rfl 23 m r2 HM.out ?_)
        | (refine load_L rfl (.tmp 11) rfl w6.heap.size _ rfl r5 ?_))
      refine C.out.mono ?_
      rintro e w10 ⟨rfl, hb⟩
      have F5 := Lib.hid (F5.out.keep (hb.block _ F5.out.lt))
      have HB := Lib.hid (HB.out.trans (hb.mono HB.out.size))
      have c0 := F5.out.c0
      simp only at c0
      clear C r2 r3 r5 hb
      have hq1 : ((i : Int) == (i : Int)) = true := by simp
      go_wp2_with fail
      go_ret
      exact ⟨by simp, HB.out⟩
end Go.Proofs.YteicbdjennjcdaaDoor
