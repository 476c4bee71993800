/- Keys: the law's own examples. -/
import Derived.Test.YteicbdjennjcdaaDoorW23
namespace Go.Proofs.YteicbdjennjcdaaDoor
set_option maxRecDepth 100000
open Go.RowKit

theorem enters_Verify : Enters Tryd.prog 19 := enters_of Tryd.func19 (by kernel_rfl) rfl
theorem enters_Public : Enters Tryd.prog 27 := enters_of Tryd.func27 (by kernel_rfl) rfl
theorem enters_Tree : Enters Tryd.prog 28 := enters_of Tryd.func28 (by kernel_rfl) rfl
theorem ev_loadL {o : Oper} {a : Act} {w : World} (x : Operand) (g : Nat) (s : Lf) (ho : o.op = .load 28 x) (hx : a.eval x = .pointer (some ⟨g, 0, none⟩)) (h : BxL w g s) :
    (execOp a.eval o).run Tryd.prog w = .ok (.value (.agg s.cs)) w := by
  unfold execOp
  simp only [ho, hx, Instr.loadAt, Instr.sureAddr, Sem.run_bind, Sem.run_pure, Result.andThen_ok, run_loadVar_row (P := Tryd.prog) w g 28 28 _ (0, 0) _ h Tryd.underlying28 rfl szL]
theorem ev_buildL0 {o : Oper} {a : Act} {w : World} (ho : o.op = .build 28 #[]) : (execOp a.eval o).run Tryd.prog w = .ok (.value (.agg Lf.zero.cs)) w := by
  have hb : (Instr.build 28 #[]).run Tryd.prog w = .ok (.agg Lf.zero.cs) w := run_build w 28 _ _ (by kernel_rfl)
  simp [execOp, ho, hb, Result.andThen]
theorem ev_eqE {o : Oper} {a : Act} {w : World} (x y : Operand) (p q : Int) (r : Bool) (hr : (p == q) = r) (ho : o.op = .binOp .eql 29 x y 29) (hx : a.eval x = .int .i64 p) (hy : a.eval y = .int .i64 q) :
    (execOp a.eval o).run Tryd.prog w = .ok (.value (.bool r)) w := by
  subst hr
  unfold execOp
  simp only [ho, hx, hy]
  go_simp
theorem ev_eqI {o : Oper} {a : Act} {w : World} (x y : Operand) (p q : Int) (r : Bool) (hr : (p == q) = r) (ho : o.op = .binOp .eql 3 x y 3) (hx : a.eval x = .int .i64 p) (hy : a.eval y = .int .i64 q) :
    (execOp a.eval o).run Tryd.prog w = .ok (.value (.bool r)) w := by
  subst hr
  unfold execOp
  simp only [ho, hx, hy]
  go_simp
theorem ev_lssI {o : Oper} {a : Act} {w : World} (x y : Operand) (p q : Int) (r : Bool) (hr : decide (p < q) = r) (ho : o.op = .binOp .lss 3 x y 3) (hx : a.eval x = .int .i64 p) (hy : a.eval y = .int .i64 q) :
    (execOp a.eval o).run Tryd.prog w = .ok (.value (.bool r)) w := by
  subst hr
  unfold execOp
  simp only [ho, hx, hy]
  go_simp
theorem ev_geqI {o : Oper} {a : Act} {w : World} (x y : Operand) (p q : Int) (r : Bool) (hr : decide (q ≤ p) = r) (ho : o.op = .binOp .geq 3 x y 3) (hx : a.eval x = .int .i64 p) (hy : a.eval y = .int .i64 q) :
    (execOp a.eval o).run Tryd.prog w = .ok (.value (.bool r)) w := by
  subst hr
  unfold execOp
  simp only [ho, hx, hy]
  go_simp
/-- a new box with a digest -/
theorem newD (w : World) (d : List UInt8) : ∀ W5, (w.alloc (.cells (U (flb 32 [])).toArray 23)).setRow w.heap.size (U d).toArray = W5 → RowB W5 w.heap.size 23 d ∧ Below w.heap.size w W5 := fun W5 h => by
  have n : RowB (w.alloc (.cells (U (flb 32 [])).toArray 23)) w.heap.size 23 (flb 32 []) := heap_alloc_new w _
  subst h
  exact ⟨n.setRow _, below_setRow ((Below.refl _ _).alloc (Nat.le_refl _) _) (Nat.le_refl _) _⟩
theorem newL (w : World) (t : Lf) : ∀ W5, (w.alloc (.cells #[.int .i64 0, .slice none 0 0, .slice none 0 0] 28)).setRow w.heap.size t.cs = W5 → BxL W5 w.heap.size t ∧ Below w.heap.size w W5 := fun W5 h => by
  have n : BxL (w.alloc (.cells #[.int .i64 0, .slice none 0 0, .slice none 0 0] 28)) w.heap.size Lf.zero := heap_alloc_new w _
  subst h
  exact ⟨n.setRow _, below_setRow ((Below.refl _ _).alloc (Nat.le_refl _) _) (Nat.le_refl _) _⟩
theorem newD0 (w : World) : RowB (w.alloc (.cells (U (flb 32 [])).toArray 23)) w.heap.size 23 (flb 32 []) := heap_alloc_new w _
theorem newL0 (w : World) : BxL (w.alloc (.cells #[.int .i64 0, .slice none 0 0, .slice none 0 0] 28)) w.heap.size Lf.zero := heap_alloc_new w _

set_option maxHeartbeats 6400000 in
theorem sane_all (f : Nat) (hf : f = 1099511627776) (w : World) (hk : KR w Kt) : Calls Tryd.prog 10 #[] w fun e w' => e = .returned (.bool true) ∧ Below w.heap.size w w' := by
  have HK := Lib.hid hk
  have HF := Lib.hid hf
  obtain ⟨h0, h1, hb1, hz1⟩ := box2 w (U (flb 32 [])).toArray (U (flb 32 [])).toArray 23 23 _ rfl
  have r0 : RowB ((w.alloc (.cells (U (flb 32 [])).toArray 23)).alloc (.cells (U (flb 32 [])).toArray 23)) w.heap.size 23 (flb 32 []) := h0
  have r0' := r0.setRow seedK
  have r1' : RowB (((w.alloc (.cells (U (flb 32 [])).toArray 23)).alloc (.cells (U (flb 32 [])).toArray 23)).setRow w.heap.size (U seedK).toArray) (w.heap.size + 1) 23 (flb 32 []) := (setRow_other _ _ _ _ (by omega)).trans h1
  have HG := Lib.hid (show ∀ W, (((w.alloc (.cells (U (flb 32 [])).toArray 23)).alloc (.cells (U (flb 32 [])).toArray 23)).setRow w.heap.size (U seedK).toArray).setRow (w.heap.size + 1) (U msgK).toArray = W → RowB W w.heap.size 23 seedK ∧ RowB W (w.heap.size + 1) 23 msgK ∧ Below w.heap.size w W from fun W h => by
    subst h
    exact ⟨(setRow_other _ _ _ _ (by omega)).trans r0', r1'.setRow msgK, below_setRow (below_setRow hb1 (Nat.le_refl _) _) (by omega) _⟩)
  have hlt0 := hk.lt
  clear h0 h1 hb1 hz1 r0' hk hf
  go_enter Tryd.func10, Tryd.ntmps10
  go_upto_region 2 with (first
    | (refine store_B rfl (.tmp 1) (.tmp 19) rfl w.heap.size (flb 32 []) seedK rfl rfl 23 r0 rfl rfl ?_)
    | (refine store_B rfl (.tmp 2) (.tmp 20) rfl (w.heap.size + 1) (flb 32 []) msgK rfl rfl 23 r1' rfl rfl ?_))
  generalize hW : World.setRow _ _ _ = W0
  obtain ⟨q0, q1, q2⟩ := HG.out W0 hW
  have F1 := Lib.hid q0
  have F2 := Lib.hid q1
  have HB := Lib.hid q2
  have HKR := Lib.hid (HK.out.keep (q2.block 0 hlt0))
  clear hW r0 r1' HG q0 q1 q2 HK
  have HS : Hid (seedK.length = 32) := Lib.hid rfl
  have HM : Hid (msgK.length = 32) := Lib.hid rfl
  have r1 := F1.out
  have C := Lib.hid (show Calls Tryd.prog 12 #[.agg (U seedK).toArray, .int .i64 1] W0 _ from Root_all f HF.out seedK 1 W0 HS.out HKR.out)
  go_wp2_with (refine load_B rfl (.tmp 1) rfl w.heap.size rfl 23 seedK r1 HS.out ?_)
  refine C.out.mono ?_
  rintro e W1 ⟨rfl, hb⟩
  clear C r1
  rw [show rte 1 = 0 from rfl]
  have F1 := Lib.hid (F1.out.keep (hb.block _ F1.out.lt))
  have F2 := Lib.hid (F2.out.keep (hb.block _ F2.out.lt))
  have HKR := Lib.hid (HKR.out.keep (hb.block 0 HKR.out.lt))
  have HB := Lib.hid (HB.out.trans (hb.mono HB.out.size))
  clear hb
  have HRL := Lib.hid (rtd_len f seedK 1)
  have n0 := newD0 W1
  have HG := Lib.hid (newD W1 (rtd f seedK 1))
  go_upto_region 3 with (refine store_B rfl (.tmp 3) (.tmp 24) rfl W1.heap.size (flb 32 []) (rtd f seedK 1) rfl rfl 23 n0 HRL.out (by simp [flb]) ?_)
  generalize hW : World.setRow _ _ _ = W2
  obtain ⟨r0, hb⟩ := HG.out W2 hW
  have F1 := Lib.hid (F1.out.keep (hb.block _ F1.out.lt))
  have F2 := Lib.hid (F2.out.keep (hb.block _ F2.out.lt))
  have HKR := Lib.hid (HKR.out.keep (hb.block 0 HKR.out.lt))
  have HB := Lib.hid (HB.out.trans (hb.mono HB.out.size))
  clear hb
  have F3 := Lib.hid r0
  clear hW HG n0 r0
  have HRT := HRL
  clear HRL
  have r1 := F1.out
  have C := Lib.hid (show Calls Tryd.prog 12 #[.agg (U seedK).toArray, .int .i64 0] W2 _ from Root_all f HF.out seedK 0 W2 HS.out HKR.out)
  go_wp2_with (refine load_B rfl (.tmp 1) rfl w.heap.size rfl 23 seedK r1 HS.out ?_)
  refine C.out.mono ?_
  rintro e W3 ⟨rfl, hb⟩
  clear C r1
  rw [show rte 0 = 60 from rfl]
  have F1 := Lib.hid (F1.out.keep (hb.block _ F1.out.lt))
  have F2 := Lib.hid (F2.out.keep (hb.block _ F2.out.lt))
  have F3 := Lib.hid (F3.out.keep (hb.block _ F3.out.lt))
  have HKR := Lib.hid (HKR.out.keep (hb.block 0 HKR.out.lt))
  have HB := Lib.hid (HB.out.trans (hb.mono HB.out.size))
  clear hb
  have HRL := Lib.hid (rtd_len f seedK 0)
  have n0 := newD0 W3
  have HG := Lib.hid (newD W3 (rtd f seedK 0))
  go_upto_region 4 with (refine store_B rfl (.tmp 5) (.tmp 29) rfl W3.heap.size (flb 32 []) (rtd f seedK 0) rfl rfl 23 n0 HRL.out (by simp [flb]) ?_)
  generalize hW : World.setRow _ _ _ = W4
  obtain ⟨r0, hb⟩ := HG.out W4 hW
  have F1 := Lib.hid (F1.out.keep (hb.block _ F1.out.lt))
  have F2 := Lib.hid (F2.out.keep (hb.block _ F2.out.lt))
  have F3 := Lib.hid (F3.out.keep (hb.block _ F3.out.lt))
  have HKR := Lib.hid (HKR.out.keep (hb.block 0 HKR.out.lt))
  have HB := Lib.hid (HB.out.trans (hb.mono HB.out.size))
  clear hb
  clear hW HG n0 r0 HRL
  have r1 := F1.out
  have C := Lib.hid (show Calls Tryd.prog 12 #[.agg (U seedK).toArray, .int .i64 257] W4 _ from Root_all f HF.out seedK 257 W4 HS.out HKR.out)
  go_wp2_with (refine load_B rfl (.tmp 1) rfl w.heap.size rfl 23 seedK r1 HS.out ?_)
  refine C.out.mono ?_
  rintro e W5 ⟨rfl, hb⟩
  clear C r1
  rw [show rte 257 = 60 from rfl]
  have F1 := Lib.hid (F1.out.keep (hb.block _ F1.out.lt))
  have F2 := Lib.hid (F2.out.keep (hb.block _ F2.out.lt))
  have F3 := Lib.hid (F3.out.keep (hb.block _ F3.out.lt))
  have HKR := Lib.hid (HKR.out.keep (hb.block 0 HKR.out.lt))
  have HB := Lib.hid (HB.out.trans (hb.mono HB.out.size))
  clear hb
  have HRL := Lib.hid (rtd_len f seedK 257)
  have n0 := newD0 W5
  have HG := Lib.hid (newD W5 (rtd f seedK 257))
  go_upto_region 5 with (refine store_B rfl (.tmp 7) (.tmp 34) rfl W5.heap.size (flb 32 []) (rtd f seedK 257) rfl rfl 23 n0 HRL.out (by simp [flb]) ?_)
  generalize hW : World.setRow _ _ _ = W6
  obtain ⟨r0, hb⟩ := HG.out W6 hW
  have F1 := Lib.hid (F1.out.keep (hb.block _ F1.out.lt))
  have F2 := Lib.hid (F2.out.keep (hb.block _ F2.out.lt))
  have F3 := Lib.hid (F3.out.keep (hb.block _ F3.out.lt))
  have HKR := Lib.hid (HKR.out.keep (hb.block 0 HKR.out.lt))
  have HB := Lib.hid (HB.out.trans (hb.mono HB.out.size))
  clear hb
  clear hW HG n0 r0 HRL
  have r1 := F1.out
  have r2 := F2.out
  have C := Lib.hid (show Calls Tryd.prog 14 #[.agg (U seedK).toArray, .int .i64 1, .int .i64 0, .agg (U msgK).toArray] W6 _ from Sign_yes f HF.out seedK msgK 1 0 W6 (by omega) (by omega) (by omega) HS.out HM.out HKR.out)
  go_wp2_with (first
    | (refine load_B rfl (.tmp 1) rfl w.heap.size rfl 23 seedK r1 HS.out ?_)
    | (refine load_B rfl (.tmp 2) rfl (w.heap.size + 1) rfl 23 msgK r2 HM.out ?_))
  refine C.out.mono ?_
  rintro e W7 ⟨⟨ti, tC, tP, tcA, tcc, tpA, tpc⟩, rfl, ⟨ht1, ht2, ht3, hok⟩, hb⟩
  clear C r1 r2
  simp only at ht1 ht2 ht3
  rw [pubs_one, pth_one] at ht3
  obtain rfl : ti = 0 := ht1
  obtain rfl := ht3
  have HOK := Lib.hid (Lf.ok.keep (w' := W7) (S' := (· < W7.heap.size)) hok fun i hi => ⟨hi.2, rfl⟩)
  have HTC := Lib.hid ht2
  clear hok ht2
  have F1 := Lib.hid (F1.out.keep (hb.block _ F1.out.lt))
  have F2 := Lib.hid (F2.out.keep (hb.block _ F2.out.lt))
  have F3 := Lib.hid (F3.out.keep (hb.block _ F3.out.lt))
  have HKR := Lib.hid (HKR.out.keep (hb.block 0 HKR.out.lt))
  have HB := Lib.hid (HB.out.trans (hb.mono HB.out.size))
  clear hb
  have n0 := newL0 W7
  have HG := Lib.hid (newL W7 ⟨0, tC, [], tcA, tcc, tpA, tpc⟩)
  go_upto_region 6 with (refine store_L rfl (.tmp 9) (.tmp 40) rfl W7.heap.size Lf.zero ⟨0, tC, [], tcA, tcc, tpA, tpc⟩ rfl rfl n0 ?_)
  generalize hW : World.setRow _ _ _ = W8
  obtain ⟨r0, hb⟩ := HG.out W8 hW
  have HOK := Lib.hid (hok1 HOK.out hb)
  have F1 := Lib.hid (F1.out.keep (hb.block _ F1.out.lt))
  have F2 := Lib.hid (F2.out.keep (hb.block _ F2.out.lt))
  have F3 := Lib.hid (F3.out.keep (hb.block _ F3.out.lt))
  have HKR := Lib.hid (HKR.out.keep (hb.block 0 HKR.out.lt))
  have HB := Lib.hid (HB.out.trans (hb.mono HB.out.size))
  clear hb
  have F9 := Lib.hid r0
  clear hW HG n0 r0
  have r1 := F1.out
  have r2 := F2.out
  have C := Lib.hid (Sign_no seedK msgK 4 4 W8 (by omega))
  go_wp2_with (first
    | (refine load_B rfl (.tmp 1) rfl w.heap.size rfl 23 seedK r1 HS.out ?_)
    | (refine load_B rfl (.tmp 2) rfl (w.heap.size + 1) rfl 23 msgK r2 HM.out ?_))
  refine C.out.mono ?_
  rintro e W9 ⟨rfl, hb⟩
  clear C r1 r2
  have HOK := Lib.hid (hok1 HOK.out hb)
  have F1 := Lib.hid (F1.out.keep (hb.block _ F1.out.lt))
  have F2 := Lib.hid (F2.out.keep (hb.block _ F2.out.lt))
  have F3 := Lib.hid (F3.out.keep (hb.block _ F3.out.lt))
  have F9 := Lib.hid (F9.out.keep (hb.block _ F9.out.lt))
  have HKR := Lib.hid (HKR.out.keep (hb.block 0 HKR.out.lt))
  have HB := Lib.hid (HB.out.trans (hb.mono HB.out.size))
  clear hb
  have n0 := newL0 W9
  have HG := Lib.hid (newL W9 Lf.zero)
  go_upto_region 7 with (refine store_L rfl (.tmp 11) (.tmp 46) rfl W9.heap.size Lf.zero Lf.zero rfl rfl n0 ?_)
  generalize hW : World.setRow _ _ _ = W10
  obtain ⟨r0, hb⟩ := HG.out W10 hW
  clear r0
  have HOK := Lib.hid (hok1 HOK.out hb)
  have F1 := Lib.hid (F1.out.keep (hb.block _ F1.out.lt))
  have F2 := Lib.hid (F2.out.keep (hb.block _ F2.out.lt))
  have F3 := Lib.hid (F3.out.keep (hb.block _ F3.out.lt))
  have F9 := Lib.hid (F9.out.keep (hb.block _ F9.out.lt))
  have HKR := Lib.hid (HKR.out.keep (hb.block 0 HKR.out.lt))
  have HB := Lib.hid (HB.out.trans (hb.mono HB.out.size))
  clear hb
  clear hW HG n0
  have r1 := F1.out
  have r2 := F2.out
  have r9 := F9.out
  have hbn : Below W10.heap.size W10 (W10.alloc (.cells (U msgK).toArray 23)) := (Below.refl _ _).alloc (Nat.le_refl _) _
  have HN := Lib.hid hbn
  have HN1 := Lib.hid (F1.out.keep (hbn.block _ F1.out.lt))
  have HN2 := Lib.hid (F2.out.keep (hbn.block _ F2.out.lt))
  have HN9 := Lib.hid (F9.out.keep (hbn.block _ F9.out.lt))
  have hgd : DL (W10.alloc (.cells (U msgK).toArray 23)) (· < (W10.alloc (.cells (U msgK).toArray 23)).heap.size) [msgK] (some ⟨W10.heap.size, 0, none⟩) 1 := (DL.one (t := 23) (heap_alloc_new W10 _) HM.out).keep fun i hi => ⟨by subst hi; simp, rfl⟩
  have C := Lib.hid (show Calls Tryd.prog 21 #[.agg (U seedK).toArray, .int .i64 1, .slice (some ⟨W10.heap.size, 0, none⟩) 1 1, .agg (U msgK).toArray, .agg (Lf.cs ⟨0, tC, [], tcA, tcc, tpA, tpc⟩)] _ _ from Forged_all f HF.out seedK msgK 1 [msgK] (some ⟨W10.heap.size, 0, none⟩) 1 ⟨0, tC, [], tcA, tcc, tpA, tpc⟩ _ HS.out HM.out ⟨(by decide : (-9223372036854775808 : Int) ≤ 0), (by decide : (0 : Int) ≤ 9223372036854775807)⟩ hgd (hok1 HOK.out hbn) (by simp) (HKR.out.keep (hbn.block 0 HKR.out.lt)))
  rw [fg_same f seedK msgK _ _ (by decide +kernel)] at C
  clear hbn hgd
  have q1 := HN1.out
  have q2 := HN2.out
  have q9 := HN9.out
  go_wp2_with (first
    | (refine load_B rfl (.tmp 1) rfl w.heap.size rfl 23 seedK r1 HS.out ?_)
    | (refine load_B rfl (.tmp 2) rfl (w.heap.size + 1) rfl 23 msgK r2 HM.out ?_)
    | (refine bs_dig rfl (.tmp 50) rfl msgK rfl HM.out ?_)
    | (refine load_B rfl (.tmp 2) rfl (w.heap.size + 1) rfl 23 msgK q2 HM.out ?_)
    | (refine load_L rfl (.tmp 9) rfl W7.heap.size ⟨0, tC, [], tcA, tcc, tpA, tpc⟩ rfl q9 ?_))
  refine C.out.mono ?_
  rintro e W11 ⟨rfl, hb'⟩
  have hb := HN.out.trans (hb'.mono (by simp))
  clear C r1 r2 r9 q1 q2 q9 HN HN1 HN2 HN9 hb'
  have HOK := Lib.hid (hok1 HOK.out hb)
  have F1 := Lib.hid (F1.out.keep (hb.block _ F1.out.lt))
  have F2 := Lib.hid (F2.out.keep (hb.block _ F2.out.lt))
  have F3 := Lib.hid (F3.out.keep (hb.block _ F3.out.lt))
  have F9 := Lib.hid (F9.out.keep (hb.block _ F9.out.lt))
  have HKR := Lib.hid (HKR.out.keep (hb.block 0 HKR.out.lt))
  have HB := Lib.hid (HB.out.trans (hb.mono HB.out.size))
  clear hb
  have r1 := F1.out
  have r2 := F2.out
  have r9 := F9.out
  have hgd : DL W11 (· < W11.heap.size) [] none 0 := ⟨Nat.le_refl _, Nat.zero_le _, fun _ => rfl, (fun _ h => nomatch h), fun h => absurd h (by simp)⟩
  have C := Lib.hid (show Calls Tryd.prog 21 #[.agg (U seedK).toArray, .int .i64 1, .slice none 0 0, .agg (U msgK).toArray, .agg (Lf.cs ⟨0, tC, [], tcA, tcc, tpA, tpc⟩)] W11 _ from Forged_all f HF.out seedK msgK 1 [] none 0 ⟨0, tC, [], tcA, tcc, tpA, tpc⟩ W11 HS.out HM.out ⟨(by decide : (-9223372036854775808 : Int) ≤ 0), (by decide : (0 : Int) ≤ 9223372036854775807)⟩ hgd (HOK.out) (by simp) HKR.out)
  rw [show fgF f seedK 1 [] msgK (Lf.i ⟨0, tC, [], tcA, tcc, tpA, tpc⟩) (Lf.C ⟨0, tC, [], tcA, tcc, tpA, tpc⟩) (Lf.P ⟨0, tC, [], tcA, tcc, tpA, tpc⟩) = (2, 0) by show fgF f seedK 1 [] msgK 0 tC [] = _; rw [HTC.out]; exact fg_none f HF.out seedK] at C
  clear hgd
  go_wp2_with (first
    | (refine load_B rfl (.tmp 1) rfl w.heap.size rfl 23 seedK r1 HS.out ?_)
    | (refine load_B rfl (.tmp 2) rfl (w.heap.size + 1) rfl 23 msgK r2 HM.out ?_)
    | (refine load_L rfl (.tmp 9) rfl W7.heap.size ⟨0, tC, [], tcA, tcc, tpA, tpc⟩ rfl r9 ?_))
  refine C.out.mono ?_
  rintro e W12 ⟨rfl, hb⟩
  clear C r1 r2 r9
  have HOK := Lib.hid (hok1 HOK.out hb)
  have F1 := Lib.hid (F1.out.keep (hb.block _ F1.out.lt))
  have F2 := Lib.hid (F2.out.keep (hb.block _ F2.out.lt))
  have F3 := Lib.hid (F3.out.keep (hb.block _ F3.out.lt))
  have F9 := Lib.hid (F9.out.keep (hb.block _ F9.out.lt))
  have HKR := Lib.hid (HKR.out.keep (hb.block 0 HKR.out.lt))
  have HB := Lib.hid (HB.out.trans (hb.mono HB.out.size))
  clear hb
  have r1 := F1.out
  have r2 := F2.out
  have r9 := F9.out
  have hgd : DL W12 (· < W12.heap.size) [] none 0 := ⟨Nat.le_refl _, Nat.zero_le _, fun _ => rfl, (fun _ h => nomatch h), fun h => absurd h (by simp)⟩
  have C := Lib.hid (show Calls Tryd.prog 21 #[.agg (U seedK).toArray, .int .i64 0, .slice none 0 0, .agg (U msgK).toArray, .agg (Lf.cs Lf.zero)] W12 _ from Forged_all f HF.out seedK msgK 0 [] none 0 Lf.zero W12 HS.out HM.out ⟨(by decide : (-9223372036854775808 : Int) ≤ 0), (by decide : (0 : Int) ≤ 9223372036854775807)⟩ hgd (⟨hgd, hgd⟩) (by exact Nat.zero_le _) HKR.out)
  rw [fg_zero f seedK msgK] at C
  clear hgd
  go_wp2_with (first
    | (refine load_B rfl (.tmp 1) rfl w.heap.size rfl 23 seedK r1 HS.out ?_)
    | (refine load_B rfl (.tmp 2) rfl (w.heap.size + 1) rfl 23 msgK r2 HM.out ?_)
    | (refine load_L rfl (.tmp 9) rfl W7.heap.size ⟨0, tC, [], tcA, tcc, tpA, tpc⟩ rfl r9 ?_))
  refine C.out.mono ?_
  rintro e W13 ⟨rfl, hb⟩
  clear C r1 r2 r9
  have HOK := Lib.hid (hok1 HOK.out hb)
  have F1 := Lib.hid (F1.out.keep (hb.block _ F1.out.lt))
  have F2 := Lib.hid (F2.out.keep (hb.block _ F2.out.lt))
  have F3 := Lib.hid (F3.out.keep (hb.block _ F3.out.lt))
  have F9 := Lib.hid (F9.out.keep (hb.block _ F9.out.lt))
  have HKR := Lib.hid (HKR.out.keep (hb.block 0 HKR.out.lt))
  have HB := Lib.hid (HB.out.trans (hb.mono HB.out.size))
  clear hb
  have c0 := F9.out.c0
  have c1 := F9.out.c1
  have c2 := F9.out.c2
  simp only at c0 c1 c2
  rw [show tC.length = 19 by rw [HTC.out]; exact sgn_len _ _] at c1
  go_upto_region 12 with fail
  clear c0 c1 c2
  have KEEP := Lib.hid (show ∀ ww, Below W13.heap.size W13 ww → RowB ww w.heap.size 23 seedK ∧ RowB ww (w.heap.size + 1) 23 msgK ∧ RowB ww W1.heap.size 23 (rtd f seedK 1) ∧ BxL ww W7.heap.size ⟨0, tC, [], tcA, tcc, tpA, tpc⟩ ∧ KR ww Kt ∧ Lf.ok ⟨0, tC, [], tcA, tcc, tpA, tpc⟩ ww (· < ww.heap.size) ∧ Below w.heap.size w ww from fun ww h => ⟨F1.out.keep (h.block _ F1.out.lt), F2.out.keep (h.block _ F2.out.lt), F3.out.keep (h.block _ F3.out.lt), F9.out.keep (h.block _ F9.out.lt), HKR.out.keep (h.block 0 HKR.out.lt), hok1 HOK.out h, HB.out.trans (h.mono HB.out.size)⟩)
  have STEP := Lib.hid (show ∀ ww w', Below W13.heap.size W13 ww → Below ww.heap.size ww w' → Below W13.heap.size W13 w' from fun ww w' h1 h2 => h1.trans (h2.mono h1.size))
  have h0 : Below W13.heap.size W13 W13.drew := (Below.refl _ _).drew
  refine wp_region_noPanic ?_
  refine wp_region_held_drew (S := fun ww => Below W13.heap.size W13 ww) (by kernel_rfl) h0 (fun _ => ?_)
  generalize W13.drew = V0 at h0 ⊢
  refine tk_load 0 106 (.tmp 3) W1.heap.size (0) (rtd f seedK 1) rfl (by kernel_rfl) (by kernel_rfl) (by kernel_rfl) (fun _ _ _ _ h => h) rfl rfl rfl rfl (fun ww h => (KEEP.out ww h).2.2.1.range) HRT.out h0 ?_
  simp only [Act.put, List.setIfInBounds_toArray, List.set_cons_zero, List.set_cons_succ]
  refine tk_load 1 107 (.tmp 1) w.heap.size (0) seedK rfl (by kernel_rfl) (by kernel_rfl) (by kernel_rfl) (fun _ _ _ _ h => h) rfl rfl rfl rfl (fun ww h => (KEEP.out ww h).1.range) HS.out h0 ?_
  simp only [Act.put, List.setIfInBounds_toArray, List.set_cons_zero, List.set_cons_succ]
  refine lone 2 (by kernel_rfl) rfl (fun K hK => to_call 16 108 _ _ #[.agg (U seedK).toArray, .int .i64 0] _ rfl rfl rfl rfl enters_Seed (Seed_all seedK 0 V0 HS.out (by decide) (by decide) (KEEP.out _ h0).2.2.2.2.1) (fun e V1 hq => ?_))
  refine ⟨_, hq.1, ?_⟩
  have h1 := STEP.out _ _ h0 hq.2
  refine hK _ _ h1 ?_
  simp only [Act.put, List.setIfInBounds_toArray, List.set_cons_zero, List.set_cons_succ]
  clear hK hq
  refine lone 3 (by kernel_rfl) rfl (fun K hK => to_call 27 109 _ _ #[.agg (U (sdK seedK 0)).toArray] _ rfl rfl rfl rfl enters_Public (Public_all (sdK seedK 0) V1 (sdK_len _ _) (KEEP.out _ h1).2.2.2.2.1) (fun e V2 hq => ?_))
  refine ⟨_, hq.1, ?_⟩
  have h2 := STEP.out _ _ h1 hq.2
  refine hK _ _ h2 ?_
  simp only [Act.put, List.setIfInBounds_toArray, List.set_cons_zero, List.set_cons_succ]
  clear hK hq
  have hbn : Below V2.heap.size V2 (V2.alloc (.cells (U (pubF (sdK seedK 0))).toArray 23)) := (Below.refl _ _).alloc (Nat.le_refl _) _
  have h3 := STEP.out _ _ h2 hbn
  have hgd : DL (V2.alloc (.cells (U (pubF (sdK seedK 0))).toArray 23)) (· < (V2.alloc (.cells (U (pubF (sdK seedK 0))).toArray 23)).heap.size) [pubF (sdK seedK 0)] (some ⟨V2.heap.size, 0, none⟩) 1 := (DL.one (t := 23) (heap_alloc_new V2 _) (pubF_len _)).keep fun i hi => ⟨by subst hi; simp, rfl⟩
  have C := Lib.hid (show Calls Tryd.prog 28 #[.slice (some ⟨V2.heap.size, 0, none⟩) 1 1] (V2.alloc (.cells (U (pubF (sdK seedK 0))).toArray 23)) _ from tree_all f [pubF (sdK seedK 0)] (some ⟨V2.heap.size, 0, none⟩) 1 _ (by rw [HF.out]; decide) (by rw [HF.out]; decide) hgd (KEEP.out _ h3).2.2.2.2.1)
  refine lone 4 (by kernel_rfl) rfl (fun K hK => to_bs1 110 (.tmp 109) (pubF (sdK seedK 0)) rfl rfl rfl rfl (pubF_len _) ?_)
  refine hK _ _ h3 ?_
  simp only [Act.put, List.setIfInBounds_toArray, List.set_cons_zero, List.set_cons_succ]
  clear hK hgd hbn
  generalize V2.alloc _ = V3 at C h3 ⊢
  refine lone 5 (by kernel_rfl) rfl (fun K hK => to_call 28 111 _ _ #[.slice (some ⟨V2.heap.size, 0, none⟩) 1 1] _ rfl rfl rfl rfl enters_Tree (C.out) (fun e V4 hq => ?_))
  refine ⟨_, hq.1, ?_⟩
  have h4 := STEP.out _ _ h3 hq.2
  refine hK _ _ h4 ?_
  simp only [Act.put, List.setIfInBounds_toArray, List.set_cons_zero, List.set_cons_succ]
  clear hK hq
  have HTR := Lib.hid (show tree f [pubF (sdK seedK 0)] = rtd f seedK 1 from rfl)
  rw [HTR.out]
  refine tk_val 6 112 (.bool true) rfl (by kernel_rfl) (by kernel_rfl) (by kernel_rfl) (fun _ _ _ _ h => h) rfl rfl (fun _ _ => ev_eqDq (.tmp 106) (.tmp 111) (rtd f seedK 1) (rtd f seedK 1) true (decide_eq_true rfl) HRT.out HRT.out rfl rfl rfl) h4 ?_
  simp only [Act.put, List.setIfInBounds_toArray, List.set_cons_zero, List.set_cons_succ]
  refine tk_move 7 113 (.tmp 112) (.bool true) rfl (by kernel_rfl) (by kernel_rfl) (by kernel_rfl) (fun _ _ _ _ h => h) rfl rfl rfl rfl h4 ?_
  simp only [Act.put, List.setIfInBounds_toArray, List.set_cons_zero, List.set_cons_succ]
  refine tkw_load 8 114 (.tmp 3) W1.heap.size (0) (rtd f seedK 1) rfl (by kernel_rfl) (by kernel_rfl) (by kernel_rfl) (fun _ _ _ _ h => h) (by kernel_rfl) rfl rfl rfl (fun ww h => (KEEP.out ww h).2.2.1.range) HRT.out h4 ?_
  simp only [Act.put, List.setIfInBounds_toArray, List.set_cons_zero, List.set_cons_succ]
  refine tkw_load 9 115 (.tmp 2) (w.heap.size + 1) (0) msgK rfl (by kernel_rfl) (by kernel_rfl) (by kernel_rfl) (fun _ _ _ _ h => h) (by kernel_rfl) rfl rfl rfl (fun ww h => (KEEP.out ww h).2.1.range) HM.out h4 ?_
  simp only [Act.put, List.setIfInBounds_toArray, List.set_cons_zero, List.set_cons_succ]
  refine tkw_val 10 116 (.agg (Lf.cs ⟨0, tC, [], tcA, tcc, tpA, tpc⟩)) rfl (by kernel_rfl) (by kernel_rfl) (by kernel_rfl) (fun _ _ _ _ h => h) (by kernel_rfl) rfl (fun ww h => ev_loadL (.tmp 9) W7.heap.size ⟨0, tC, [], tcA, tcc, tpA, tpc⟩ rfl rfl (KEEP.out ww h).2.2.2.1) h4 ?_
  simp only [Act.put, List.setIfInBounds_toArray, List.set_cons_zero, List.set_cons_succ]
  have C := Lib.hid (show Calls Tryd.prog 19 #[.agg (U (rtd f seedK 1)).toArray, .int .i64 1, .agg (U msgK).toArray, .agg (Lf.cs ⟨0, tC, [], tcA, tcc, tpA, tpc⟩)] V4 _ from Verify_all f HF.out (rtd f seedK 1) msgK 1 ⟨0, tC, [], tcA, tcc, tpA, tpc⟩ V4 HRT.out HM.out (KEEP.out _ h4).2.2.2.2.2.1 (by simp) (KEEP.out _ h4).2.2.2.2.1)
  rw [show verF f (rtd f seedK 1) msgK 1 (Lf.i ⟨0, tC, [], tcA, tcc, tpA, tpc⟩) (Lf.C ⟨0, tC, [], tcA, tcc, tpA, tpc⟩) (Lf.P ⟨0, tC, [], tcA, tcc, tpA, tpc⟩) = 0 by show verF f (rtd f seedK 1) msgK 1 0 tC [] = 0; rw [HTC.out]; exact ver_one f HF.out seedK msgK] at C
  refine lone 11 (by kernel_rfl) rfl (fun K hK => ?_)
  rw [if_pos (show Region.wanted _ _ = true from rfl)]
  refine wp_call 19 117 _ _ #[.agg (U (rtd f seedK 1)).toArray, .int .i64 1, .agg (U msgK).toArray, .agg (Lf.cs ⟨0, tC, [], tcA, tcc, tpA, tpc⟩)] _ rfl rfl rfl enters_Verify (C.out) (fun e V5 hq => ?_)
  refine ⟨_, hq.1, ?_⟩
  have h5 := STEP.out _ _ h4 hq.2
  refine hK _ _ h5 ?_
  simp only [Act.put, List.setIfInBounds_toArray, List.set_cons_zero, List.set_cons_succ]
  clear hK hq
  refine tkw_val 12 118 (.bool true) rfl (by kernel_rfl) (by kernel_rfl) (by kernel_rfl) (fun _ _ _ _ h => h) (by kernel_rfl) rfl (fun _ _ => ev_eqE (.tmp 117) _ 0 0 true rfl rfl rfl rfl) h5 ?_
  simp only [Act.put, List.setIfInBounds_toArray, List.set_cons_zero, List.set_cons_succ]
  refine tk_val 13 119 (.bool true) rfl (by kernel_rfl) (by kernel_rfl) (by kernel_rfl) (fun _ _ _ _ h => h) rfl rfl (fun _ _ => ev_pickT (.tmp 113) (.tmp 118) _ _ rfl rfl rfl) h5 ?_
  simp only [Act.put, List.setIfInBounds_toArray, List.set_cons_zero, List.set_cons_succ]
  refine tk_move 14 120 (.tmp 119) (.bool true) rfl (by kernel_rfl) (by kernel_rfl) (by kernel_rfl) (fun _ _ _ _ h => h) rfl rfl rfl rfl h5 ?_
  simp only [Act.put, List.setIfInBounds_toArray, List.set_cons_zero, List.set_cons_succ]
  refine tkw_load 15 121 (.tmp 3) W1.heap.size (0) (rtd f seedK 1) rfl (by kernel_rfl) (by kernel_rfl) (by kernel_rfl) (fun _ _ _ _ h => h) (by kernel_rfl) rfl rfl rfl (fun ww h => (KEEP.out ww h).2.2.1.range) HRT.out h5 ?_
  simp only [Act.put, List.setIfInBounds_toArray, List.set_cons_zero, List.set_cons_succ]
  refine tkw_load 16 122 (.tmp 2) (w.heap.size + 1) (0) msgK rfl (by kernel_rfl) (by kernel_rfl) (by kernel_rfl) (fun _ _ _ _ h => h) (by kernel_rfl) rfl rfl rfl (fun ww h => (KEEP.out ww h).2.1.range) HM.out h5 ?_
  simp only [Act.put, List.setIfInBounds_toArray, List.set_cons_zero, List.set_cons_succ]
  refine tkw_val 17 123 (.agg Lf.zero.cs) rfl (by kernel_rfl) (by kernel_rfl) (by kernel_rfl) (fun _ _ _ _ h => h) (by kernel_rfl) rfl (fun _ _ => ev_buildL0 rfl) h5 ?_
  simp only [Act.put, List.setIfInBounds_toArray, List.set_cons_zero, List.set_cons_succ]
  have C := Lib.hid (show Calls Tryd.prog 19 #[.agg (U (rtd f seedK 1)).toArray, .int .i64 1, .agg (U msgK).toArray, .agg Lf.zero.cs] V5 _ from Verify_all f HF.out (rtd f seedK 1) msgK 1 Lf.zero V5 HRT.out HM.out ⟨⟨Nat.le_refl _, Nat.zero_le _, fun _ => rfl, (fun _ h => nomatch h), fun h => absurd h (by simp [Lf.zero])⟩, ⟨Nat.le_refl _, Nat.zero_le _, fun _ => rfl, (fun _ h => nomatch h), fun h => absurd h (by simp [Lf.zero])⟩⟩ (Nat.zero_le _) (KEEP.out _ h5).2.2.2.2.1)
  rw [show verF f (rtd f seedK 1) msgK 1 Lf.zero.i Lf.zero.C Lf.zero.P = 60 from ver_none f _ _] at C
  refine lone 18 (by kernel_rfl) rfl (fun K hK => ?_)
  rw [if_pos (show Region.wanted _ _ = true from rfl)]
  refine wp_call 19 124 _ _ #[.agg (U (rtd f seedK 1)).toArray, .int .i64 1, .agg (U msgK).toArray, .agg Lf.zero.cs] _ rfl rfl rfl enters_Verify (C.out) (fun e V6 hq => ?_)
  refine ⟨_, hq.1, ?_⟩
  have h6 := STEP.out _ _ h5 hq.2
  refine hK _ _ h6 ?_
  simp only [Act.put, List.setIfInBounds_toArray, List.set_cons_zero, List.set_cons_succ]
  clear hK hq
  refine tkw_val 19 125 (.bool true) rfl (by kernel_rfl) (by kernel_rfl) (by kernel_rfl) (fun _ _ _ _ h => h) (by kernel_rfl) rfl (fun _ _ => ev_eqE (.tmp 124) _ 60 60 true rfl rfl rfl rfl) h6 ?_
  simp only [Act.put, List.setIfInBounds_toArray, List.set_cons_zero, List.set_cons_succ]
  refine tk_val 20 126 (.bool true) rfl (by kernel_rfl) (by kernel_rfl) (by kernel_rfl) (fun _ _ _ _ h => h) rfl rfl (fun _ _ => ev_pickT (.tmp 120) (.tmp 125) _ _ rfl rfl rfl) h6 ?_
  simp only [Act.put, List.setIfInBounds_toArray, List.set_cons_zero, List.set_cons_succ]
  refine tk_move 21 127 (.tmp 126) (.bool true) rfl (by kernel_rfl) (by kernel_rfl) (by kernel_rfl) (fun _ _ _ _ h => h) rfl rfl rfl rfl h6 ?_
  simp only [Act.put, List.setIfInBounds_toArray, List.set_cons_zero, List.set_cons_succ]
  refine tkw_val 22 128 (.int .i64 0) rfl (by kernel_rfl) (by kernel_rfl) (by kernel_rfl) (fun _ _ _ _ h => h) (by kernel_rfl) rfl (fun _ _ => ev_move (.tmp 13) (.int .i64 0) rfl rfl) h6 ?_
  simp only [Act.put, List.setIfInBounds_toArray, List.set_cons_zero, List.set_cons_succ]
  refine tkw_val 23 129 (.bool true) rfl (by kernel_rfl) (by kernel_rfl) (by kernel_rfl) (fun _ _ _ _ h => h) (by kernel_rfl) rfl (fun _ _ => ev_eqI (.tmp 128) _ 0 0 true (by decide) rfl rfl rfl) h6 ?_
  simp only [Act.put, List.setIfInBounds_toArray, List.set_cons_zero, List.set_cons_succ]
  refine tk_val 24 130 (.bool true) rfl (by kernel_rfl) (by kernel_rfl) (by kernel_rfl) (fun _ _ _ _ h => h) rfl rfl (fun _ _ => ev_pickT (.tmp 127) (.tmp 129) _ _ rfl rfl rfl) h6 ?_
  simp only [Act.put, List.setIfInBounds_toArray, List.set_cons_zero, List.set_cons_succ]
  refine tk_move 25 131 (.tmp 130) (.bool true) rfl (by kernel_rfl) (by kernel_rfl) (by kernel_rfl) (fun _ _ _ _ h => h) rfl rfl rfl rfl h6 ?_
  simp only [Act.put, List.setIfInBounds_toArray, List.set_cons_zero, List.set_cons_succ]
  refine tkw_val 26 132 (.int .i64 0) rfl (by kernel_rfl) (by kernel_rfl) (by kernel_rfl) (fun _ _ _ _ h => h) (by kernel_rfl) rfl (fun _ _ => ev_move (.tmp 14) (.int .i64 0) rfl rfl) h6 ?_
  simp only [Act.put, List.setIfInBounds_toArray, List.set_cons_zero, List.set_cons_succ]
  refine tkw_val 27 133 (.bool true) rfl (by kernel_rfl) (by kernel_rfl) (by kernel_rfl) (fun _ _ _ _ h => h) (by kernel_rfl) rfl (fun _ _ => ev_eqI (.tmp 132) _ 0 0 true (by decide) rfl rfl rfl) h6 ?_
  simp only [Act.put, List.setIfInBounds_toArray, List.set_cons_zero, List.set_cons_succ]
  refine tk_val 28 134 (.bool true) rfl (by kernel_rfl) (by kernel_rfl) (by kernel_rfl) (fun _ _ _ _ h => h) rfl rfl (fun _ _ => ev_pickT (.tmp 131) (.tmp 133) _ _ rfl rfl rfl) h6 ?_
  simp only [Act.put, List.setIfInBounds_toArray, List.set_cons_zero, List.set_cons_succ]
  refine tk_move 29 135 (.tmp 134) (.bool true) rfl (by kernel_rfl) (by kernel_rfl) (by kernel_rfl) (fun _ _ _ _ h => h) rfl rfl rfl rfl h6 ?_
  simp only [Act.put, List.setIfInBounds_toArray, List.set_cons_zero, List.set_cons_succ]
  refine tkw_val 30 136 (.int .i64 2) rfl (by kernel_rfl) (by kernel_rfl) (by kernel_rfl) (fun _ _ _ _ h => h) (by kernel_rfl) rfl (fun _ _ => ev_move (.tmp 15) (.int .i64 2) rfl rfl) h6 ?_
  simp only [Act.put, List.setIfInBounds_toArray, List.set_cons_zero, List.set_cons_succ]
  refine tkw_val 31 137 (.bool true) rfl (by kernel_rfl) (by kernel_rfl) (by kernel_rfl) (fun _ _ _ _ h => h) (by kernel_rfl) rfl (fun _ _ => ev_eqI (.tmp 136) _ 2 2 true (by decide) rfl rfl rfl) h6 ?_
  simp only [Act.put, List.setIfInBounds_toArray, List.set_cons_zero, List.set_cons_succ]
  refine tk_val 32 138 (.bool true) rfl (by kernel_rfl) (by kernel_rfl) (by kernel_rfl) (fun _ _ _ _ h => h) rfl rfl (fun _ _ => ev_pickT (.tmp 135) (.tmp 137) _ _ rfl rfl rfl) h6 ?_
  simp only [Act.put, List.setIfInBounds_toArray, List.set_cons_zero, List.set_cons_succ]
  refine tk_move 33 139 (.tmp 138) (.bool true) rfl (by kernel_rfl) (by kernel_rfl) (by kernel_rfl) (fun _ _ _ _ h => h) rfl rfl rfl rfl h6 ?_
  simp only [Act.put, List.setIfInBounds_toArray, List.set_cons_zero, List.set_cons_succ]
  refine tkw_val 34 140 (.int .i64 0) rfl (by kernel_rfl) (by kernel_rfl) (by kernel_rfl) (fun _ _ _ _ h => h) (by kernel_rfl) rfl (fun _ _ => ev_move (.tmp 16) (.int .i64 0) rfl rfl) h6 ?_
  simp only [Act.put, List.setIfInBounds_toArray, List.set_cons_zero, List.set_cons_succ]
  refine tkw_val 35 141 (.bool true) rfl (by kernel_rfl) (by kernel_rfl) (by kernel_rfl) (fun _ _ _ _ h => h) (by kernel_rfl) rfl (fun _ _ => ev_geqI (.tmp 140) _ 0 0 true (by decide) rfl rfl rfl) h6 ?_
  simp only [Act.put, List.setIfInBounds_toArray, List.set_cons_zero, List.set_cons_succ]
  refine tk_val 36 142 (.bool true) rfl (by kernel_rfl) (by kernel_rfl) (by kernel_rfl) (fun _ _ _ _ h => h) rfl rfl (fun _ _ => ev_pickT (.tmp 139) (.tmp 141) _ _ rfl rfl rfl) h6 ?_
  simp only [Act.put, List.setIfInBounds_toArray, List.set_cons_zero, List.set_cons_succ]
  refine tk_move 37 143 (.tmp 142) (.bool true) rfl (by kernel_rfl) (by kernel_rfl) (by kernel_rfl) (fun _ _ _ _ h => h) rfl rfl rfl rfl h6 ?_
  simp only [Act.put, List.setIfInBounds_toArray, List.set_cons_zero, List.set_cons_succ]
  refine tkw_val 38 144 (.int .i64 0) rfl (by kernel_rfl) (by kernel_rfl) (by kernel_rfl) (fun _ _ _ _ h => h) (by kernel_rfl) rfl (fun _ _ => ev_move (.tmp 16) (.int .i64 0) rfl rfl) h6 ?_
  simp only [Act.put, List.setIfInBounds_toArray, List.set_cons_zero, List.set_cons_succ]
  refine tkw_val 39 145 (.bool true) rfl (by kernel_rfl) (by kernel_rfl) (by kernel_rfl) (fun _ _ _ _ h => h) (by kernel_rfl) rfl (fun _ _ => ev_lssI (.tmp 144) _ 0 19 true (by decide) rfl rfl rfl) h6 ?_
  simp only [Act.put, List.setIfInBounds_toArray, List.set_cons_zero, List.set_cons_succ]
  refine tk_val 40 146 (.bool true) rfl (by kernel_rfl) (by kernel_rfl) (by kernel_rfl) (fun _ _ _ _ h => h) rfl rfl (fun _ _ => ev_pickT (.tmp 143) (.tmp 145) _ _ rfl rfl rfl) h6 ?_
  simp only [Act.put, List.setIfInBounds_toArray, List.set_cons_zero, List.set_cons_succ]
  refine tk_move 41 147 (.tmp 146) (.bool true) rfl (by kernel_rfl) (by kernel_rfl) (by kernel_rfl) (fun _ _ _ _ h => h) rfl rfl rfl rfl h6 ?_
  simp only [Act.put, List.setIfInBounds_toArray, List.set_cons_zero, List.set_cons_succ]
  refine tkw_val 42 148 (.int .i64 0) rfl (by kernel_rfl) (by kernel_rfl) (by kernel_rfl) (fun _ _ _ _ h => h) (by kernel_rfl) rfl (fun _ _ => ev_move (.tmp 17) (.int .i64 0) rfl rfl) h6 ?_
  simp only [Act.put, List.setIfInBounds_toArray, List.set_cons_zero, List.set_cons_succ]
  refine tkw_val 43 149 (.bool true) rfl (by kernel_rfl) (by kernel_rfl) (by kernel_rfl) (fun _ _ _ _ h => h) (by kernel_rfl) rfl (fun _ _ => ev_eqI (.tmp 148) _ 0 0 true (by decide) rfl rfl rfl) h6 ?_
  simp only [Act.put, List.setIfInBounds_toArray, List.set_cons_zero, List.set_cons_succ]
  refine tk_val 44 150 (.bool true) rfl (by kernel_rfl) (by kernel_rfl) (by kernel_rfl) (fun _ _ _ _ h => h) rfl rfl (fun _ _ => ev_pickT (.tmp 147) (.tmp 149) _ _ rfl rfl rfl) h6 ?_
  simp only [Act.put, List.setIfInBounds_toArray, List.set_cons_zero, List.set_cons_succ]
  refine tk_move 45 151 (.tmp 150) (.bool true) rfl (by kernel_rfl) (by kernel_rfl) (by kernel_rfl) (fun _ _ _ _ h => h) rfl rfl rfl rfl h6 ?_
  simp only [Act.put, List.setIfInBounds_toArray, List.set_cons_zero, List.set_cons_succ]
  refine tkw_val 46 152 (.int .i64 0) rfl (by kernel_rfl) (by kernel_rfl) (by kernel_rfl) (fun _ _ _ _ h => h) (by kernel_rfl) rfl (fun _ _ => ev_move (.tmp 18) (.int .i64 0) rfl rfl) h6 ?_
  simp only [Act.put, List.setIfInBounds_toArray, List.set_cons_zero, List.set_cons_succ]
  refine tkw_val 47 153 (.bool true) rfl (by kernel_rfl) (by kernel_rfl) (by kernel_rfl) (fun _ _ _ _ h => h) (by kernel_rfl) rfl (fun _ _ => ev_eqI (.tmp 152) _ 0 0 true (by decide) rfl rfl rfl) h6 ?_
  simp only [Act.put, List.setIfInBounds_toArray, List.set_cons_zero, List.set_cons_succ]
  refine tk_val 48 154 (.bool true) rfl (by kernel_rfl) (by kernel_rfl) (by kernel_rfl) (fun _ _ _ _ h => h) rfl rfl (fun _ _ => ev_pickT (.tmp 151) (.tmp 153) _ _ rfl rfl rfl) h6 ?_
  simp only [Act.put, List.setIfInBounds_toArray, List.set_cons_zero, List.set_cons_succ]
  refine tk_assign 49 0 (.tmp 154) (.bool true) rfl (by kernel_rfl) (by kernel_rfl) (by kernel_rfl) (fun _ _ _ _ h => h) rfl rfl rfl rfl h6 ?_
  simp only [Act.put, List.setIfInBounds_toArray, List.set_cons_zero]
  refine wpAnyH_done (by kernel_rfl) (NoPanic.normal ?_) _
  have HFIN := Lib.hid (KEEP.out _ h6).2.2.2.2.2.2
  clear h0 h1 h2 h3 h4 h5 h6
  go_wp2_with fail
  go_ret
  exact ⟨rfl, HFIN.out⟩
end Go.Proofs.YteicbdjennjcdaaDoor
