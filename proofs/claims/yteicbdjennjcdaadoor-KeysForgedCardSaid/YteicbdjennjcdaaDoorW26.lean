/- Keys: KeysVerifySpec, KeysForgedSpec, KeysSpec. -/
import Derived.Test.YteicbdjennjcdaaDoorW25
namespace Go.Proofs.YteicbdjennjcdaaDoor
set_option maxRecDepth 100000
open Go.RowKit

theorem enters_rVerify : Enters Tryd.prog 20 := enters_of Tryd.func20 (by kernel_rfl) rfl
theorem enters_rSame : Enters Tryd.prog 18 := enters_of Tryd.func18 (by kernel_rfl) rfl
theorem box3L (w : World) (r m : List UInt8) (s : Lf) (W1 : World) (h : ((w.alloc (.cells (U r).toArray 23)).alloc (.cells (U m).toArray 23)).alloc (.cells s.cs 28) = W1) :
    RowB W1 w.heap.size 23 r ∧ RowB W1 (w.heap.size + 1) 23 m ∧ BxL W1 (w.heap.size + 2) s ∧ Below w.heap.size w W1 ∧ w.heap.size + 3 ≤ W1.heap.size := by
  obtain ⟨h1, h2, h3, h4, h5⟩ := box3 w _ _ _ _ _ _ W1 h
  exact ⟨h1, h2, h3, h4, by omega⟩

set_option maxHeartbeats 3200000 in
theorem versp_all (r : List UInt8) (n : Int) (m : List UInt8) (s : Lf) (w : World) (_h1 : -9223372036854775808 ≤ n) (_h2 : n ≤ 9223372036854775807) (hr : r.length = 32) (hm : m.length = 32) (hok : s.ok w (· < w.heap.size)) (hk : KR w Kt) :
    Calls Tryd.prog 4 #[.agg (U r).toArray, .int .i64 n, .agg (U m).toArray, .agg s.cs] w fun e w' => e = .returned (.bool true) ∧ Below w.heap.size w w' := by
  obtain ⟨f, hf⟩ : ∃ f, f = 1099511627776 := ⟨_, rfl⟩
  have HR := Lib.hid hr
  have HM := Lib.hid hm
  have HF := Lib.hid hf
  have hlt0 := hk.lt
  go_enter Tryd.func4, Tryd.ntmps4
  go_upto_region 1 with fail
  generalize hW1 : ((w.alloc _).alloc _).alloc _ = W1
  obtain ⟨b1, b2, b3, hb1, hz1⟩ := box3L w r m s W1 hW1
  have HB1 := Lib.hid hb1
  have KEEP := Lib.hid (show ∀ ww, Below W1.heap.size W1 ww → RowB ww w.heap.size 23 r ∧ RowB ww (w.heap.size + 1) 23 m ∧ BxL ww (w.heap.size + 2) s ∧ KR ww Kt ∧ s.ok ww (· < ww.heap.size) ∧ Below w.heap.size w ww from fun ww h =>
    ⟨(h.block _ (by omega)).trans b1, (h.block _ (by omega)).trans b2, b3.keep (h.block _ (by omega)), hk.keep ((h.block 0 (by omega)).trans (hb1.block 0 hlt0)), hok1 (hok1 hok hb1) h, hb1.trans (h.mono hb1.size)⟩)
  have STEP := Lib.hid (show ∀ ww w', Below W1.heap.size W1 ww → Below ww.heap.size ww w' → Below W1.heap.size W1 w' from fun ww w' h1 h2 => h1.trans (h2.mono h1.size))
  have hx1 : Below W1.heap.size W1 W1 := Below.refl _ _
  clear hW1 b1 b2 b3 hb1 hz1 hr hm hf hok hk HB1
  go_wp2_with fail
  refine (sane_all f HF.out W1 (KEEP.out _ hx1).2.2.2.1).mono ?_
  rintro e w2 ⟨rfl, hb2⟩
  have hx2 := STEP.out _ _ hx1 hb2
  have HB2 := Lib.hid (KEEP.out _ hx2).2.2.2.2.2
  clear hb2 hx1
  have c1 := (KEEP.out _ hx2).2.2.1.c1
  have c2 := (KEEP.out _ hx2).2.2.1.c2
  by_cases h1 : (30 : Int) < s.C.length
  · go_wp2_with fail
    go_ret
    exact ⟨rfl, HB2.out⟩
  by_cases h2 : (12 : Int) < s.P.length
  · go_wp2_with fail
    go_ret
    exact ⟨rfl, HB2.out⟩
  have hP : s.P.length ≤ 1099511627776 := by omega
  go_upto_region 5 with fail
  clear c1 c2 h1 h2
  have h0 : Below W1.heap.size W1 w2.drew := hx2.drew
  refine wp_region_noPanic ?_
  refine wp_region_held_drew (S := fun ww => Below W1.heap.size W1 ww) (by kernel_rfl) h0 (fun _ => ?_)
  generalize w2.drew = V0 at h0 ⊢
  refine tk_load 0 21 (.tmp 4) w.heap.size (0) r rfl (by kernel_rfl) (by kernel_rfl) (by kernel_rfl) (fun _ _ _ _ h => h) rfl rfl rfl rfl (fun ww h => (KEEP.out ww h).1.range) HR.out h0 ?_
  simp only [Act.put, List.setIfInBounds_toArray, List.set_cons_zero, List.set_cons_succ]
  refine tk_move 1 22 (.tmp 1) (.int .i64 n) rfl (by kernel_rfl) (by kernel_rfl) (by kernel_rfl) (fun _ _ _ _ h => h) rfl rfl rfl rfl h0 ?_
  simp only [Act.put, List.setIfInBounds_toArray, List.set_cons_zero, List.set_cons_succ]
  refine tk_load 2 23 (.tmp 6) (w.heap.size + 1) (0) m rfl (by kernel_rfl) (by kernel_rfl) (by kernel_rfl) (fun _ _ _ _ h => h) rfl rfl rfl rfl (fun ww h => (KEEP.out ww h).2.1.range) HM.out h0 ?_
  simp only [Act.put, List.setIfInBounds_toArray, List.set_cons_zero, List.set_cons_succ]
  refine tk_val 3 24 (.agg s.cs) rfl (by kernel_rfl) (by kernel_rfl) (by kernel_rfl) (fun _ _ _ _ h => h) rfl rfl (fun ww h => ev_loadL (.tmp 7) (w.heap.size + 2) s rfl rfl (KEEP.out ww h).2.2.1) h0 ?_
  simp only [Act.put, List.setIfInBounds_toArray, List.set_cons_zero, List.set_cons_succ]
  refine tk_load 5 26 (.tmp 4) w.heap.size (0) r rfl (by kernel_rfl) (by kernel_rfl) (by kernel_rfl) (fun _ _ _ _ h => h) rfl rfl rfl rfl (fun ww h => (KEEP.out ww h).1.range) HR.out h0 ?_
  simp only [Act.put, List.setIfInBounds_toArray, List.set_cons_zero, List.set_cons_succ]
  refine tk_move 6 27 (.tmp 1) (.int .i64 n) rfl (by kernel_rfl) (by kernel_rfl) (by kernel_rfl) (fun _ _ _ _ h => h) rfl rfl rfl rfl h0 ?_
  simp only [Act.put, List.setIfInBounds_toArray, List.set_cons_zero, List.set_cons_succ]
  refine tk_load 7 28 (.tmp 6) (w.heap.size + 1) (0) m rfl (by kernel_rfl) (by kernel_rfl) (by kernel_rfl) (fun _ _ _ _ h => h) rfl rfl rfl rfl (fun ww h => (KEEP.out ww h).2.1.range) HM.out h0 ?_
  simp only [Act.put, List.setIfInBounds_toArray, List.set_cons_zero, List.set_cons_succ]
  refine tk_val 8 29 (.agg s.cs) rfl (by kernel_rfl) (by kernel_rfl) (by kernel_rfl) (fun _ _ _ _ h => h) rfl rfl (fun ww h => ev_loadL (.tmp 7) (w.heap.size + 2) s rfl rfl (KEEP.out ww h).2.2.1) h0 ?_
  simp only [Act.put, List.setIfInBounds_toArray, List.set_cons_zero, List.set_cons_succ]
  refine lone 4 (by kernel_rfl) rfl (fun K hK => to_call 19 25 _ _ #[.agg (U r).toArray, .int .i64 n, .agg (U m).toArray, .agg s.cs] _ rfl rfl rfl rfl enters_Verify (Verify_all f HF.out r m n s V0 HR.out HM.out (KEEP.out _ h0).2.2.2.2.1 hP (KEEP.out _ h0).2.2.2.1) (fun e w3 hq => ?_))
  refine ⟨_, hq.1, ?_⟩
  have h3 := STEP.out _ _ h0 hq.2
  refine hK _ _ h3 ?_
  simp only [Act.put, List.setIfInBounds_toArray, List.set_cons_zero, List.set_cons_succ]
  clear hK hq
  refine lone 9 (by kernel_rfl) rfl (fun K hK => to_call 20 30 _ _ #[.agg (U r).toArray, .int .i64 n, .agg (U m).toArray, .agg s.cs] _ rfl rfl rfl rfl enters_rVerify (rVerify_all f HF.out r m n s w3 HR.out HM.out (KEEP.out _ h3).2.2.2.2.1 hP) (fun e w4 hq => ?_))
  refine ⟨_, hq.1, ?_⟩
  have h4 := STEP.out _ _ h3 hq.2
  refine hK _ _ h4 ?_
  simp only [Act.put, List.setIfInBounds_toArray, List.set_cons_zero, List.set_cons_succ]
  clear hK hq
  refine tk_val 10 31 (.bool true) rfl (by kernel_rfl) (by kernel_rfl) (by kernel_rfl) (fun _ _ _ _ h => h) rfl rfl (fun _ _ => ev_eqE (.tmp 25) (.tmp 30) _ _ true (by simp) rfl rfl rfl) h4 ?_
  simp only [Act.put, List.setIfInBounds_toArray, List.set_cons_zero, List.set_cons_succ]
  refine tk_assign 11 8 (.tmp 31) (.bool true) rfl (by kernel_rfl) (by kernel_rfl) (by kernel_rfl) (fun _ _ _ _ h => h) rfl rfl rfl rfl h4 ?_
  simp only [Act.put, List.setIfInBounds_toArray, List.set_cons_zero, List.set_cons_succ]
  refine wpAnyH_done (by kernel_rfl) (NoPanic.normal ?_) _
  have HFIN := Lib.hid (KEEP.out _ h4).2.2.2.2.2
  clear h0 h3 h4
  go_wp2_with fail
  go_ret
  exact ⟨rfl, HFIN.out⟩

set_option maxHeartbeats 3200000 in
theorem fgsp_all (sd : List UInt8) (n : Int) (G : List (List UInt8)) (gA : Option Addr) (gc : Nat) (m : List UInt8) (s : Lf) (w : World) (_h1 : -9223372036854775808 ≤ n) (_h2 : n ≤ 9223372036854775807) (hs : sd.length = 32) (hG : DL w (· < w.heap.size) G gA gc) (hm : m.length = 32) (hi : -9223372036854775808 ≤ s.i ∧ s.i ≤ 9223372036854775807) (hok : s.ok w (· < w.heap.size)) (hk : KR w Kt) :
    Calls Tryd.prog 5 #[.agg (U sd).toArray, .int .i64 n, .slice gA G.length gc, .agg (U m).toArray, .agg s.cs] w fun e w' => e = .returned (.bool true) ∧ Below w.heap.size w w' := by
  obtain ⟨f, hf⟩ : ∃ f, f = 1099511627776 := ⟨_, rfl⟩
  have HS := Lib.hid hs
  have HM := Lib.hid hm
  have HF := Lib.hid hf
  have HI := Lib.hid hi
  have hlt0 := hk.lt
  go_enter Tryd.func5, Tryd.ntmps5
  go_upto_region 1 with fail
  generalize hW1 : ((w.alloc _).alloc _).alloc _ = W1
  obtain ⟨b1, b2, b3, hb1, hz1⟩ := box3L w sd m s W1 hW1
  have KEEP := Lib.hid (show ∀ ww, Below W1.heap.size W1 ww → RowB ww w.heap.size 23 sd ∧ RowB ww (w.heap.size + 1) 23 m ∧ BxL ww (w.heap.size + 2) s ∧ KR ww Kt ∧ s.ok ww (· < ww.heap.size) ∧ DL ww (· < ww.heap.size) G gA gc ∧ Below w.heap.size w ww from fun ww h =>
    ⟨(h.block _ (by omega)).trans b1, (h.block _ (by omega)).trans b2, b3.keep (h.block _ (by omega)), hk.keep ((h.block 0 (by omega)).trans (hb1.block 0 hlt0)), hok1 (hok1 hok hb1) h, hG.keep fun i hi => ⟨by have := h.size; omega, (h.block i (by omega)).trans (hb1.block i hi)⟩, hb1.trans (h.mono hb1.size)⟩)
  have STEP := Lib.hid (show ∀ ww w', Below W1.heap.size W1 ww → Below ww.heap.size ww w' → Below W1.heap.size W1 w' from fun ww w' h1 h2 => h1.trans (h2.mono h1.size))
  have hx1 : Below W1.heap.size W1 W1 := Below.refl _ _
  clear hW1 b1 b2 b3 hb1 hz1 hs hm hf hok hk hG hi
  go_wp2_with fail
  refine (sane_all f HF.out W1 (KEEP.out _ hx1).2.2.2.1).mono ?_
  rintro e w2 ⟨rfl, hb2⟩
  have hx2 := STEP.out _ _ hx1 hb2
  clear hb2 hx1
  have r3 := (KEEP.out _ hx2).2.2.1
  go_wp2_with (refine load_L rfl (.tmp 9) rfl (w.heap.size + 2) s rfl r3 ?_)
  refine (rFew_all n s w2).mono ?_
  rintro e w3 ⟨rfl, hb3⟩
  have hx3 := STEP.out _ _ hx2 hb3
  have HB3 := Lib.hid (KEEP.out _ hx3).2.2.2.2.2.2
  clear hb3 r3 hx2
  obtain ⟨fw, hfw⟩ : ∃ fw, fewB n s = fw := ⟨_, rfl⟩
  rw [hfw]
  cases fw with
  | false =>
    go_wp2_with fail
    go_ret
    exact ⟨rfl, HB3.out⟩
  | true =>
    obtain ⟨_, _, hPl⟩ := few_len hfw
    have hP : s.P.length ≤ 1099511627776 := by omega
    clear hfw
    by_cases h2 : (20 : Int) < G.length
    · go_wp2_with fail
      go_ret
      exact ⟨rfl, HB3.out⟩
    obtain ⟨p1, p2, p3, p4, p5, p6, _⟩ := KEEP.out _ hx3
    have C := Lib.hid (Forged_all f HF.out sd m n G gA gc s w3 HS.out HM.out HI.out p6 p5 hP p4)
    clear p4 p5 p6
    go_wp2_with (first
      | (refine load_B rfl (.tmp 5) rfl w.heap.size rfl 23 sd p1 HS.out ?_)
      | (refine load_B rfl (.tmp 8) rfl (w.heap.size + 1) rfl 23 m p2 HM.out ?_)
      | (refine load_L rfl (.tmp 9) rfl (w.heap.size + 2) s rfl p3 ?_))
    refine C.out.mono ?_
    rintro e w4 ⟨rfl, hb4⟩
    have hx4 := STEP.out _ _ hx3 hb4
    clear hb4 hx3 p1 p2 p3 C
    obtain ⟨p1, p2, p3, p4, p5, p6, _⟩ := KEEP.out _ hx4
    have C := Lib.hid (rForged_all f HF.out sd m n G gA gc s w4 HS.out HM.out HI.out p6 p5 hP)
    clear p4 p5 p6
    generalize ((fgF f sd n G m s.i s.C s.P).1 : Int) = x1 at *
    generalize ((fgF f sd n G m s.i s.C s.P).2 : Int) = x2 at *
    go_wp2_with (first
      | (refine load_B rfl (.tmp 5) rfl w.heap.size rfl 23 sd p1 HS.out ?_)
      | (refine load_B rfl (.tmp 8) rfl (w.heap.size + 1) rfl 23 m p2 HM.out ?_)
      | (refine load_L rfl (.tmp 9) rfl (w.heap.size + 2) s rfl p3 ?_))
    refine C.out.mono ?_
    rintro e w5 ⟨rfl, hb5⟩
    have HB5 := Lib.hid (KEEP.out _ (STEP.out _ _ hx4 hb5)).2.2.2.2.2.2
    clear hb5 hx4 p1 p2 p3 C
    have hq1 : (x1 == x1) = true := by simp
    have hq2 : (x2 == x2) = true := by simp
    go_wp2_with fail
    go_ret
    exact ⟨by simp, HB5.out⟩

set_option maxHeartbeats 6400000 in
theorem keysp_all (sd : List UInt8) (n i : Int) (m : List UInt8) (w : World) (_h1 : -9223372036854775808 ≤ n) (_h2 : n ≤ 9223372036854775807) (hi1 : -9223372036854775808 ≤ i) (hi2 : i ≤ 9223372036854775807) (hs : sd.length = 32) (hm : m.length = 32) (hk : KR w Kt) :
    Calls Tryd.prog 3 #[.agg (U sd).toArray, .int .i64 n, .int .i64 i, .agg (U m).toArray] w fun e w' => e = .returned (.bool true) ∧ Below w.heap.size w w' := by
  obtain ⟨f, hf⟩ : ∃ f, f = 1099511627776 := ⟨_, rfl⟩
  have HS := Lib.hid hs
  have HM := Lib.hid hm
  have HF := Lib.hid hf
  have hlt0 := hk.lt
  go_enter Tryd.func3, Tryd.ntmps3
  go_upto_region 1 with fail
  generalize hW1 : (w.alloc _).alloc _ = W1
  obtain ⟨b1, b2, hb1, hz1⟩ := box2 w (U sd).toArray (U m).toArray 23 23 W1 hW1
  have F1 := Lib.hid (show RowB W1 w.heap.size 23 sd from b1)
  have F2 := Lib.hid (show RowB W1 (w.heap.size + 1) 23 m from b2)
  have HKR := Lib.hid (hk.keep (hb1.block 0 hlt0))
  have HB := Lib.hid hb1
  clear hW1 b1 b2 hb1 hz1 hs hm hf hk
  go_wp2_with fail
  refine (sane_all f HF.out W1 HKR.out).mono ?_
  rintro e w2 ⟨rfl, hb⟩
  have F1 := Lib.hid (F1.out.keep (hb.block _ F1.out.lt))
  have F2 := Lib.hid (F2.out.keep (hb.block _ F2.out.lt))
  have HKR := Lib.hid (HKR.out.keep (hb.block 0 HKR.out.lt))
  have HB := Lib.hid (HB.out.trans (hb.mono HB.out.size))
  clear hb
  go_wp2_with fail
  refine (rFew_all n Lf.zero w2).mono ?_
  rintro e w3 ⟨rfl, hb⟩
  have F1 := Lib.hid (F1.out.keep (hb.block _ F1.out.lt))
  have F2 := Lib.hid (F2.out.keep (hb.block _ F2.out.lt))
  have HKR := Lib.hid (HKR.out.keep (hb.block 0 HKR.out.lt))
  have HB := Lib.hid (HB.out.trans (hb.mono HB.out.size))
  clear hb
  obtain ⟨fw, hfw⟩ : ∃ fw, fewB n Lf.zero = fw := ⟨_, rfl⟩
  rw [hfw]
  cases fw with
  | false =>
    go_wp2_with fail
    go_ret
    exact ⟨rfl, HB.out⟩
  | true =>
    have hnn := (few_len hfw).1
    clear hfw
    have HRL := Lib.hid (rtd_len f sd n)
    have r1 := F1.out
    have C := Lib.hid (Root_all f HF.out sd n w3 HS.out HKR.out)
    go_wp2_with (refine load_B rfl (.tmp 4) rfl w.heap.size rfl 23 sd r1 HS.out ?_)
    refine C.out.mono ?_
    rintro e w4 ⟨rfl, hb⟩
    clear C r1
    have F1 := Lib.hid (F1.out.keep (hb.block _ F1.out.lt))
    have F2 := Lib.hid (F2.out.keep (hb.block _ F2.out.lt))
    have HKR := Lib.hid (HKR.out.keep (hb.block 0 HKR.out.lt))
    have HB := Lib.hid (HB.out.trans (hb.mono HB.out.size))
    clear hb
    have n0 := newD0 w4
    have HG := Lib.hid (newD w4 (rtd f sd n))
    go_upto_region 6 with (refine store_B rfl (.tmp 9) (.tmp 27) rfl w4.heap.size (flb 32 []) (rtd f sd n) rfl rfl 23 n0 HRL.out (by simp [flb]) ?_)
    generalize hW : World.setRow _ _ _ = w5
    obtain ⟨r0, hb⟩ := HG.out w5 hW
    have F1 := Lib.hid (F1.out.keep (hb.block _ F1.out.lt))
    have F2 := Lib.hid (F2.out.keep (hb.block _ F2.out.lt))
    have HKR := Lib.hid (HKR.out.keep (hb.block 0 HKR.out.lt))
    have HB := Lib.hid (HB.out.trans (hb.mono HB.out.size))
    clear hb
    have F3 := Lib.hid r0
    clear hW HG n0 r0
    have r1 := F1.out
    have C := Lib.hid (rRoot_all f HF.out sd n w5 HS.out)
    go_wp2_with (refine load_B rfl (.tmp 4) rfl w.heap.size rfl 23 sd r1 HS.out ?_)
    refine C.out.mono ?_
    rintro e w6 ⟨rfl, hb⟩
    clear C r1
    have F1 := Lib.hid (F1.out.keep (hb.block _ F1.out.lt))
    have F2 := Lib.hid (F2.out.keep (hb.block _ F2.out.lt))
    have F3 := Lib.hid (F3.out.keep (hb.block _ F3.out.lt))
    have HKR := Lib.hid (HKR.out.keep (hb.block 0 HKR.out.lt))
    have HB := Lib.hid (HB.out.trans (hb.mono HB.out.size))
    clear hb
    have n0 := newD0 w6
    have HG := Lib.hid (newD w6 (rtd f sd n))
    go_upto_region 7 with (refine store_B rfl (.tmp 11) (.tmp 33) rfl w6.heap.size (flb 32 []) (rtd f sd n) rfl rfl 23 n0 HRL.out (by simp [flb]) ?_)
    generalize hW : World.setRow _ _ _ = w7
    obtain ⟨r0, hb⟩ := HG.out w7 hW
    have F1 := Lib.hid (F1.out.keep (hb.block _ F1.out.lt))
    have F2 := Lib.hid (F2.out.keep (hb.block _ F2.out.lt))
    have F3 := Lib.hid (F3.out.keep (hb.block _ F3.out.lt))
    have HKR := Lib.hid (HKR.out.keep (hb.block 0 HKR.out.lt))
    have HB := Lib.hid (HB.out.trans (hb.mono HB.out.size))
    clear hb
    have F4 := Lib.hid r0
    clear hW HG n0 r0
    have r1 := F1.out
    have r2 := F2.out
    have C := Lib.hid (Sign_any f HF.out sd m n i w7 HS.out HM.out HKR.out)
    go_wp2_with (first | (refine load_B rfl (.tmp 4) rfl w.heap.size rfl 23 sd r1 HS.out ?_) | (refine load_B rfl (.tmp 7) rfl (w.heap.size + 1) rfl 23 m r2 HM.out ?_))
    refine C.out.mono ?_
    rintro e w8 ⟨t, x, rfl, hsg, hb⟩
    clear C r1 r2
    have F1 := Lib.hid (F1.out.keep (hb.block _ F1.out.lt))
    have F2 := Lib.hid (F2.out.keep (hb.block _ F2.out.lt))
    have F3 := Lib.hid (F3.out.keep (hb.block _ F3.out.lt))
    have F4 := Lib.hid (F4.out.keep (hb.block _ F4.out.lt))
    have HKR := Lib.hid (HKR.out.keep (hb.block 0 HKR.out.lt))
    have HB := Lib.hid (HB.out.trans (hb.mono HB.out.size))
    clear hb
    have HOt := Lib.hid hsg.ok
    have SG1 := Lib.hid hsg
    clear hsg
    have n0 := newL0 w8
    have HG := Lib.hid (newL w8 t)
    go_upto_region 8 with (refine store_L rfl (.tmp 13) (.tmp 41) rfl w8.heap.size Lf.zero t rfl rfl n0 ?_)
    generalize hW : World.setRow _ _ _ = w9
    obtain ⟨r0, hb⟩ := HG.out w9 hW
    have F1 := Lib.hid (F1.out.keep (hb.block _ F1.out.lt))
    have F2 := Lib.hid (F2.out.keep (hb.block _ F2.out.lt))
    have F3 := Lib.hid (F3.out.keep (hb.block _ F3.out.lt))
    have F4 := Lib.hid (F4.out.keep (hb.block _ F4.out.lt))
    have HOt := Lib.hid (hok1 HOt.out hb)
    have HKR := Lib.hid (HKR.out.keep (hb.block 0 HKR.out.lt))
    have HB := Lib.hid (HB.out.trans (hb.mono HB.out.size))
    clear hb
    have F5 := Lib.hid r0
    clear hW HG n0 r0
    have r1 := F1.out
    have r2 := F2.out
    have C := Lib.hid (rSign_any f HF.out sd m n i w9 HS.out HM.out)
    go_wp2_with (first | (refine load_B rfl (.tmp 4) rfl w.heap.size rfl 23 sd r1 HS.out ?_) | (refine load_B rfl (.tmp 7) rfl (w.heap.size + 1) rfl 23 m r2 HM.out ?_))
    refine C.out.mono ?_
    rintro e w10 ⟨u, y, rfl, hsg, hb⟩
    clear C r1 r2
    have F1 := Lib.hid (F1.out.keep (hb.block _ F1.out.lt))
    have F2 := Lib.hid (F2.out.keep (hb.block _ F2.out.lt))
    have F3 := Lib.hid (F3.out.keep (hb.block _ F3.out.lt))
    have F4 := Lib.hid (F4.out.keep (hb.block _ F4.out.lt))
    have F5 := Lib.hid (F5.out.keep (hb.block _ F5.out.lt))
    have HOt := Lib.hid (hok1 HOt.out hb)
    have HKR := Lib.hid (HKR.out.keep (hb.block 0 HKR.out.lt))
    have HB := Lib.hid (HB.out.trans (hb.mono HB.out.size))
    clear hb
    have HOu := Lib.hid hsg.ok
    have SG2 := Lib.hid hsg
    clear hsg
    have n0 := newL0 w10
    have HG := Lib.hid (newL w10 u)
    go_upto_region 9 with (refine store_L rfl (.tmp 15) (.tmp 49) rfl w10.heap.size Lf.zero u rfl rfl n0 ?_)
    generalize hW : World.setRow _ _ _ = w11
    obtain ⟨r0, hb⟩ := HG.out w11 hW
    have F1 := Lib.hid (F1.out.keep (hb.block _ F1.out.lt))
    have F2 := Lib.hid (F2.out.keep (hb.block _ F2.out.lt))
    have F3 := Lib.hid (F3.out.keep (hb.block _ F3.out.lt))
    have F4 := Lib.hid (F4.out.keep (hb.block _ F4.out.lt))
    have F5 := Lib.hid (F5.out.keep (hb.block _ F5.out.lt))
    have HOt := Lib.hid (hok1 HOt.out hb)
    have HOu := Lib.hid (hok1 HOu.out hb)
    have HKR := Lib.hid (HKR.out.keep (hb.block 0 HKR.out.lt))
    have HB := Lib.hid (HB.out.trans (hb.mono HB.out.size))
    clear hb
    have F6 := Lib.hid r0
    clear hW HG n0 r0
    obtain ⟨q1, q2, q3, rfl⟩ := SG1.out.same SG2.out
    have HQ := Lib.hid (And.intro q1 (And.intro q2 q3))
    have HLN := Lib.hid (SG1.out.lens hnn)
    clear q1 q2 q3
    have KEEP := Lib.hid (show ∀ ww, Below w11.heap.size w11 ww → RowB ww w.heap.size 23 sd ∧ RowB ww w4.heap.size 23 (rtd f sd n) ∧ RowB ww w6.heap.size 23 (rtd f sd n) ∧ BxL ww w8.heap.size t ∧ BxL ww w10.heap.size u ∧ KR ww Kt ∧ t.ok ww (· < ww.heap.size) ∧ u.ok ww (· < ww.heap.size) ∧ Below w.heap.size w ww from fun ww h => ⟨F1.out.keep (h.block _ F1.out.lt), F3.out.keep (h.block _ F3.out.lt), F4.out.keep (h.block _ F4.out.lt), F5.out.keep (h.block _ F5.out.lt), F6.out.keep (h.block _ F6.out.lt), HKR.out.keep (h.block 0 HKR.out.lt), hok1 HOt.out h, hok1 HOu.out h, HB.out.trans (h.mono HB.out.size)⟩)
    have STEP := Lib.hid (show ∀ ww w', Below w11.heap.size w11 ww → Below ww.heap.size ww w' → Below w11.heap.size w11 w' from fun ww w' h1 h2 => h1.trans (h2.mono h1.size))
    have h0 : Below w11.heap.size w11 w11.drew := (Below.refl _ _).drew
    refine wp_region_noPanic ?_
    refine wp_region_held_drew (S := fun ww => Below w11.heap.size w11 ww) (by kernel_rfl) h0 (fun _ => ?_)
    generalize w11.drew = V0 at h0 ⊢
    refine tk_load 0 51 (.tmp 4) w.heap.size (0) sd rfl (by kernel_rfl) (by kernel_rfl) (by kernel_rfl) (fun _ _ _ _ h => h) rfl rfl rfl rfl (fun ww h => (KEEP.out ww h).1.range) HS.out h0 ?_
    simp only [Act.put, List.setIfInBounds_toArray, List.set_cons_zero, List.set_cons_succ]
    refine tk_move 1 52 (.tmp 2) (.int .i64 i) rfl (by kernel_rfl) (by kernel_rfl) (by kernel_rfl) (fun _ _ _ _ h => h) rfl rfl rfl rfl h0 ?_
    simp only [Act.put, List.setIfInBounds_toArray, List.set_cons_zero, List.set_cons_succ]
    refine tk_load 3 54 (.tmp 4) w.heap.size (0) sd rfl (by kernel_rfl) (by kernel_rfl) (by kernel_rfl) (fun _ _ _ _ h => h) rfl rfl rfl rfl (fun ww h => (KEEP.out ww h).1.range) HS.out h0 ?_
    simp only [Act.put, List.setIfInBounds_toArray, List.set_cons_zero, List.set_cons_succ]
    refine tk_move 4 55 (.tmp 2) (.int .i64 i) rfl (by kernel_rfl) (by kernel_rfl) (by kernel_rfl) (fun _ _ _ _ h => h) rfl rfl rfl rfl h0 ?_
    simp only [Act.put, List.setIfInBounds_toArray, List.set_cons_zero, List.set_cons_succ]
    refine lone 2 (by kernel_rfl) rfl (fun K hK => to_call 16 53 _ _ #[.agg (U sd).toArray, .int .i64 i] _ rfl rfl rfl rfl enters_Seed (Seed_all sd i V0 HS.out hi1 hi2 (KEEP.out _ h0).2.2.2.2.2.1) (fun e V1 hq => ?_))
    refine ⟨_, hq.1, ?_⟩
    have h1 := STEP.out _ _ h0 hq.2
    refine hK _ _ h1 ?_
    simp only [Act.put, List.setIfInBounds_toArray, List.set_cons_zero, List.set_cons_succ]
    clear hK hq
    refine lone 5 (by kernel_rfl) rfl (fun K hK => to_call 17 56 _ _ #[.agg (U sd).toArray, .int .i64 i] _ rfl rfl rfl rfl enters_rSeed (rSeed_all sd i V1 HS.out hi1 hi2) (fun e V2 hq => ?_))
    refine ⟨_, hq.1, ?_⟩
    have h2 := STEP.out _ _ h1 hq.2
    refine hK _ _ h2 ?_
    simp only [Act.put, List.setIfInBounds_toArray, List.set_cons_zero, List.set_cons_succ]
    clear hK hq
    refine tk_val 6 57 (.bool true) rfl (by kernel_rfl) (by kernel_rfl) (by kernel_rfl) (fun _ _ _ _ h => h) rfl rfl (fun _ _ => ev_eqDq (.tmp 53) (.tmp 56) (sdK sd i) (sdK sd i) true (decide_eq_true rfl) (sdK_len _ _) (sdK_len _ _) rfl rfl rfl) h2 ?_
    simp only [Act.put, List.setIfInBounds_toArray, List.set_cons_zero, List.set_cons_succ]
    refine tk_move 7 58 (.tmp 57) (.bool true) rfl (by kernel_rfl) (by kernel_rfl) (by kernel_rfl) (fun _ _ _ _ h => h) rfl rfl rfl rfl h2 ?_
    simp only [Act.put, List.setIfInBounds_toArray, List.set_cons_zero, List.set_cons_succ]
    refine tkw_load 8 59 (.tmp 9) w4.heap.size (0) (rtd f sd n) rfl (by kernel_rfl) (by kernel_rfl) (by kernel_rfl) (fun _ _ _ _ h => h) (by kernel_rfl) rfl rfl rfl (fun ww h => (KEEP.out ww h).2.1.range) HRL.out h2 ?_
    simp only [Act.put, List.setIfInBounds_toArray, List.set_cons_zero, List.set_cons_succ]
    refine tkw_load 9 60 (.tmp 11) w6.heap.size (0) (rtd f sd n) rfl (by kernel_rfl) (by kernel_rfl) (by kernel_rfl) (fun _ _ _ _ h => h) (by kernel_rfl) rfl rfl rfl (fun ww h => (KEEP.out ww h).2.2.1.range) HRL.out h2 ?_
    simp only [Act.put, List.setIfInBounds_toArray, List.set_cons_zero, List.set_cons_succ]
    refine tkw_val 10 61 (.bool true) rfl (by kernel_rfl) (by kernel_rfl) (by kernel_rfl) (fun _ _ _ _ h => h) (by kernel_rfl) rfl (fun _ _ => ev_eqDq (.tmp 59) (.tmp 60) (rtd f sd n) (rtd f sd n) true (decide_eq_true rfl) HRL.out HRL.out rfl rfl rfl) h2 ?_
    simp only [Act.put, List.setIfInBounds_toArray, List.set_cons_zero, List.set_cons_succ]
    refine tk_val 11 62 (.bool true) rfl (by kernel_rfl) (by kernel_rfl) (by kernel_rfl) (fun _ _ _ _ h => h) rfl rfl (fun _ _ => ev_pickT (.tmp 58) (.tmp 61) _ _ rfl rfl rfl) h2 ?_
    simp only [Act.put, List.setIfInBounds_toArray, List.set_cons_zero, List.set_cons_succ]
    refine tk_move 12 63 (.tmp 62) (.bool true) rfl (by kernel_rfl) (by kernel_rfl) (by kernel_rfl) (fun _ _ _ _ h => h) rfl rfl rfl rfl h2 ?_
    simp only [Act.put, List.setIfInBounds_toArray, List.set_cons_zero, List.set_cons_succ]
    refine tkw_val 13 64 (.int .i64 (rte n)) rfl (by kernel_rfl) (by kernel_rfl) (by kernel_rfl) (fun _ _ _ _ h => h) (by kernel_rfl) rfl (fun _ _ => ev_move (.tmp 10) (.int .i64 (rte n)) rfl rfl) h2 ?_
    simp only [Act.put, List.setIfInBounds_toArray, List.set_cons_zero, List.set_cons_succ]
    refine tkw_val 14 65 (.int .i64 (rte n)) rfl (by kernel_rfl) (by kernel_rfl) (by kernel_rfl) (fun _ _ _ _ h => h) (by kernel_rfl) rfl (fun _ _ => ev_move (.tmp 12) (.int .i64 (rte n)) rfl rfl) h2 ?_
    simp only [Act.put, List.setIfInBounds_toArray, List.set_cons_zero, List.set_cons_succ]
    refine tkw_val 15 66 (.bool true) rfl (by kernel_rfl) (by kernel_rfl) (by kernel_rfl) (fun _ _ _ _ h => h) (by kernel_rfl) rfl (fun _ _ => ev_eqE (.tmp 64) (.tmp 65) (rte n) (rte n) true (by simp) rfl rfl rfl) h2 ?_
    simp only [Act.put, List.setIfInBounds_toArray, List.set_cons_zero, List.set_cons_succ]
    refine tk_val 16 67 (.bool true) rfl (by kernel_rfl) (by kernel_rfl) (by kernel_rfl) (fun _ _ _ _ h => h) rfl rfl (fun _ _ => ev_pickT (.tmp 63) (.tmp 66) _ _ rfl rfl rfl) h2 ?_
    simp only [Act.put, List.setIfInBounds_toArray, List.set_cons_zero, List.set_cons_succ]
    refine tk_move 17 68 (.tmp 67) (.bool true) rfl (by kernel_rfl) (by kernel_rfl) (by kernel_rfl) (fun _ _ _ _ h => h) rfl rfl rfl rfl h2 ?_
    simp only [Act.put, List.setIfInBounds_toArray, List.set_cons_zero, List.set_cons_succ]
    refine tkw_val 18 69 (.agg t.cs) rfl (by kernel_rfl) (by kernel_rfl) (by kernel_rfl) (fun _ _ _ _ h => h) (by kernel_rfl) rfl (fun ww h => ev_loadL (.tmp 13) w8.heap.size t rfl rfl (KEEP.out ww h).2.2.2.1) h2 ?_
    simp only [Act.put, List.setIfInBounds_toArray, List.set_cons_zero, List.set_cons_succ]
    refine tkw_val 19 70 (.agg u.cs) rfl (by kernel_rfl) (by kernel_rfl) (by kernel_rfl) (fun _ _ _ _ h => h) (by kernel_rfl) rfl (fun ww h => ev_loadL (.tmp 15) w10.heap.size u rfl rfl (KEEP.out ww h).2.2.2.2.1) h2 ?_
    simp only [Act.put, List.setIfInBounds_toArray, List.set_cons_zero, List.set_cons_succ]
    refine lone 20 (by kernel_rfl) rfl (fun K hK => ?_)
    rw [if_pos (show Region.wanted _ _ = true from rfl)]
    refine wp_call 18 71 _ _ #[.agg t.cs, .agg u.cs] _ rfl rfl rfl enters_rSame (rSameL_all t u V2 HQ.out.1 HQ.out.2.1 HQ.out.2.2 (KEEP.out _ h2).2.2.2.2.2.2.1 (KEEP.out _ h2).2.2.2.2.2.2.2.1 (by have := HLN.out; omega) (by have := HLN.out; omega)) (fun e V3 hq => ?_)
    refine ⟨_, hq.1, ?_⟩
    have h3 := STEP.out _ _ h2 hq.2
    refine hK _ _ h3 ?_
    simp only [Act.put, List.setIfInBounds_toArray, List.set_cons_zero, List.set_cons_succ]
    clear hK hq
    refine tk_val 21 72 (.bool true) rfl (by kernel_rfl) (by kernel_rfl) (by kernel_rfl) (fun _ _ _ _ h => h) rfl rfl (fun _ _ => ev_pickT (.tmp 68) (.tmp 71) _ _ rfl rfl rfl) h3 ?_
    simp only [Act.put, List.setIfInBounds_toArray, List.set_cons_zero, List.set_cons_succ]
    refine tk_move 22 73 (.tmp 72) (.bool true) rfl (by kernel_rfl) (by kernel_rfl) (by kernel_rfl) (fun _ _ _ _ h => h) rfl rfl rfl rfl h3 ?_
    simp only [Act.put, List.setIfInBounds_toArray, List.set_cons_zero, List.set_cons_succ]
    refine tkw_val 23 74 (.int .i64 x) rfl (by kernel_rfl) (by kernel_rfl) (by kernel_rfl) (fun _ _ _ _ h => h) (by kernel_rfl) rfl (fun _ _ => ev_move (.tmp 14) (.int .i64 x) rfl rfl) h3 ?_
    simp only [Act.put, List.setIfInBounds_toArray, List.set_cons_zero, List.set_cons_succ]
    refine tkw_val 24 75 (.int .i64 x) rfl (by kernel_rfl) (by kernel_rfl) (by kernel_rfl) (fun _ _ _ _ h => h) (by kernel_rfl) rfl (fun _ _ => ev_move (.tmp 16) (.int .i64 x) rfl rfl) h3 ?_
    simp only [Act.put, List.setIfInBounds_toArray, List.set_cons_zero, List.set_cons_succ]
    refine tkw_val 25 76 (.bool true) rfl (by kernel_rfl) (by kernel_rfl) (by kernel_rfl) (fun _ _ _ _ h => h) (by kernel_rfl) rfl (fun _ _ => ev_eqE (.tmp 74) (.tmp 75) x x true (by simp) rfl rfl rfl) h3 ?_
    simp only [Act.put, List.setIfInBounds_toArray, List.set_cons_zero, List.set_cons_succ]
    refine tk_val 26 77 (.bool true) rfl (by kernel_rfl) (by kernel_rfl) (by kernel_rfl) (fun _ _ _ _ h => h) rfl rfl (fun _ _ => ev_pickT (.tmp 73) (.tmp 76) _ _ rfl rfl rfl) h3 ?_
    simp only [Act.put, List.setIfInBounds_toArray, List.set_cons_zero, List.set_cons_succ]
    refine tk_assign 27 8 (.tmp 77) (.bool true) rfl (by kernel_rfl) (by kernel_rfl) (by kernel_rfl) (fun _ _ _ _ h => h) rfl rfl rfl rfl h3 ?_
    simp only [Act.put, List.setIfInBounds_toArray, List.set_cons_zero, List.set_cons_succ]
    refine wpAnyH_done (by kernel_rfl) (NoPanic.normal ?_) _
    have HFIN := Lib.hid (KEEP.out _ h3).2.2.2.2.2.2.2.2
    clear h0 h1 h2 h3
    go_wp2_with fail
    go_ret
    exact ⟨rfl, HFIN.out⟩
end Go.Proofs.YteicbdjennjcdaaDoor
