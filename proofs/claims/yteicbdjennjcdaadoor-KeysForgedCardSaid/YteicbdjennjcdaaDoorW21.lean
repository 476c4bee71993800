/- Several texts joined: parts MN MO. -/
import Derived.Test.YteicbdjennjcdaaDoorW20
import Derived.Test.YteicbdjennjcdaaDoorW17
namespace Go.Proofs.YteicbdjennjcdaaDoor
section
set_option maxRecDepth 100000
open Go.RowKit

/-- how a signature of a message that was not signed came about -/
def fgF (f : Nat) (sd : List UInt8) (n : Int) (G : List (List UInt8)) (m : List UInt8) (i : Int) (C P : List (List UInt8)) : Nat × Nat :=
  if rte n = 0 ∧ verF f (rtd f sd n) m n i C P = 0 then
    (if ¬ mgF G i = z32 ∧ mgF G i = m then (0, 0) else exF (dgl m) (rvF (mgF G i) (!decide (mgF G i = z32))) (!decide (mgF G i = z32)) C (sgn (sdK sd i) m))
  else (0, 0)
theorem load_Lb {ops : Array Oper} {rest : List Oper} {o : Oper} {a : Act} {w : World} {Q : Exit → Act → World → Prop} (hw : Region.wanted o (yielded ops a.tmps) = true) (x : Operand) (ho : o.op = .load 28 x) (g : Nat) (s : Lf) (hx : a.eval x = .pointer (some ⟨g, 0, none⟩)) (h : BxL w g s)
    (hK : wpList Tryd.prog ops Q rest (a.put o.dst (.agg s.cs)) w) : wpList Tryd.prog ops Q (o :: rest) a w := load_Lw hw x ho g s hx h hK
theorem ev_fieldL0 {o : Oper} {a : Act} {w : World} (x : Operand) (g : Nat) (s : Lf) (ho : o.op = .fieldAddr 28 x 0) (hx : a.eval x = .pointer (some ⟨g, 0, none⟩)) (h : BxL w g s) :
    (execOp a.eval o).run Tryd.prog w = .ok (.value (.pointer (some ⟨g, 0, none⟩))) w := by
  have c0 := h.c0
  unfold execOp
  simp only [ho, hx]
  go_simp
theorem VerOk_of {f : Nat} {r m : List UInt8} {n i : Int} {C P : List (List UInt8)} (h : verF f r m n i C P = 0) : VerOk f r m n i C P := by
  unfold verF at h
  by_cases hv : VerOk f r m n i C P
  · exact hv
  · rw [if_neg hv] at h; cases h

set_option maxHeartbeats 6400000 in
theorem Forged_all (f : Nat) (hf : f = 1099511627776) (sd m : List UInt8) (n : Int) (G : List (List UInt8)) (gA : Option Addr) (gc : Nat) (s : Lf) (w : World) (hs32 : sd.length = 32) (hm32 : m.length = 32) (hi : -9223372036854775808 ≤ s.i ∧ s.i ≤ 9223372036854775807) (hG : DL w (· < w.heap.size) G gA gc) (hok : s.ok w (· < w.heap.size)) (hP2 : s.P.length ≤ 1099511627776) (hk : KR w Kt) :
    Calls Tryd.prog 21 #[.agg (U sd).toArray, .int .i64 n, .slice gA G.length gc, .agg (U m).toArray, .agg s.cs] w fun e w' =>
      e = .returned (.tuple #[.int .i64 ((fgF f sd n G m s.i s.C s.P).1 : Nat), .int .i64 ((fgF f sd n G m s.i s.C s.P).2 : Nat)]) ∧ Below w.heap.size w w' := by
  have HS := Lib.hid hs32
  have HM := Lib.hid hm32
  have HF := Lib.hid hf
  have HI := Lib.hid hi
  have hlt0 := hk.lt
  obtain ⟨k1, k2, k3, hb1, hz1⟩ := box3 w (U sd).toArray (U m).toArray s.cs 23 23 28 _ rfl
  obtain ⟨W1, hW1⟩ : ∃ W1, ((w.alloc (.cells (U sd).toArray 23)).alloc (.cells (U m).toArray 23)).alloc (.cells s.cs 28) = W1 := ⟨_, rfl⟩
  rw [hW1] at k1 k2 k3 hb1 hz1
  have KEEP := Lib.hid (show ∀ ww, Below W1.heap.size W1 ww → RowB ww w.heap.size 23 sd ∧ RowB ww (w.heap.size + 1) 23 m ∧ BxL ww (w.heap.size + 2) s ∧ KR ww Kt ∧ s.ok ww (· < ww.heap.size) ∧ DL ww (· < ww.heap.size) G gA gc ∧ Below w.heap.size w ww from fun ww h =>
    ⟨(h.block _ (by omega)).trans k1, (h.block _ (by omega)).trans k2, (h.block _ (by omega)).trans k3, hk.keep ((h.block 0 (by omega)).trans (hb1.block 0 hlt0)), hok.keep fun i hi => ⟨by have := h.size; omega, (h.block i (by omega)).trans (hb1.block i hi)⟩, hG.keep fun i hi => ⟨by have := h.size; omega, (h.block i (by omega)).trans (hb1.block i hi)⟩, hb1.trans (h.mono hb1.size)⟩)
  have STEP := Lib.hid (show ∀ ww w', Below W1.heap.size W1 ww → Below ww.heap.size ww w' → Below W1.heap.size W1 w' from fun ww w' h1 h2 => h1.trans (h2.mono h1.size))
  have HW1 := Lib.hid hW1
  clear hW1 hs32 hm32 hi hf hok hG hk k1 k2 k3 hb1 hz1
  have hx1 : Below W1.heap.size W1 W1 := Below.refl _ _
  go_enter Tryd.func21, Tryd.ntmps21
  go_upto_region 1 with fail
  generalize hW1' : ((w.alloc _).alloc _).alloc _ = W1'
  have e9 : W1' = W1 := hW1'.symm.trans HW1.out
  clear hW1'
  rw [e9]
  clear e9 W1' HW1
  have r1 := (KEEP.out _ hx1).1
  go_wp2_with (refine load_B rfl (.tmp 5) rfl w.heap.size rfl 23 sd r1 HS.out ?_)
  refine (Root_all f HF.out sd n W1 HS.out (KEEP.out _ hx1).2.2.2.1).mono ?_
  rintro e w2 ⟨rfl, hb2⟩
  have hx2 := STEP.out _ _ hx1 hb2
  clear r1 hb2
  have HRL := Lib.hid (rtd_len f sd n)
  have n2 : RowB (w2.alloc (.cells (U (flb 32 [])).toArray 23)) w2.heap.size 23 (flb 32 []) := heap_alloc_new w2 _
  have HG2 := Lib.hid (show ∀ W5, (w2.alloc (.cells (U (flb 32 [])).toArray 23)).setRow w2.heap.size (U (rtd f sd n)).toArray = W5 → RowB W5 w2.heap.size 23 (rtd f sd n) ∧ Below W1.heap.size W1 W5 ∧ w2.heap.size + 1 = W5.heap.size from fun W5 h => by
    subst h
    exact ⟨n2.setRow _, STEP.out _ _ hx2 (below_setRow ((Below.refl _ _).alloc (Nat.le_refl _) _) (Nat.le_refl _) _), by simp⟩)
  go_upto_region 2 with (refine store_B rfl (.tmp 12) (.tmp 21) rfl w2.heap.size (flb 32 []) (rtd f sd n) rfl rfl 23 n2 HRL.out (by simp [flb]) ?_)
  generalize hW3 : (w2.alloc _).setRow _ _ = W3
  obtain ⟨r3, hx3, hz3⟩ := HG2.out W3 hW3
  clear hW3 HG2 n2 hx1 hx2
  have hx3 := hx3
  by_cases hE : rte n = 0
  case neg =>
    have HV := Lib.hid (show fgF f sd n G m s.i s.C s.P = (0, 0) from if_neg fun h => hE h.1)
    have HB3 := Lib.hid (KEEP.out _ hx3).2.2.2.2.2.2
    go_wp2_with fail
    exact bodyPost_ret (results_tmp2 (t := 10) (u := 11) rfl _ _ _) rfl ⟨by rw [HV.out]; rfl, HB3.out⟩
  have HE := Lib.hid hE
  rw [hE]
  clear hE
  obtain ⟨q1, q2, q3, q4, q5, q6, q7⟩ := KEEP.out _ hx3
  have CV := Lib.hid (Verify_all f HF.out (rtd f sd n) m n s W3 HRL.out HM.out q5 hP2 q4)
  have HB3 := Lib.hid q7
  clear q1 q4 q5 q6 q7
  go_upto_if 1 with (first
    | (refine load_Bw (by kernel_rfl) (.tmp 12) rfl w2.heap.size rfl 23 (rtd f sd n) r3 HRL.out ?_)
    | (refine load_Bw (by kernel_rfl) (.tmp 8) rfl (w.heap.size + 1) rfl 23 m q2 HM.out ?_)
    | (refine load_Lb (by kernel_rfl) (.tmp 9) rfl (w.heap.size + 2) s rfl q3 ?_))
  refine CV.out.mono ?_
  rintro e w4 ⟨rfl, hb4⟩
  have hx4 := STEP.out _ _ hx3 hb4
  have hz4 := hb4.size
  have R4 := Lib.hid (r3.keep (hb4.block _ (by omega)))
  clear CV hb4 r3 q2 q3 HB3
  by_cases hV : verF f (rtd f sd n) m n s.i s.C s.P = 0
  case neg =>
    have HV := Lib.hid (show fgF f sd n G m s.i s.C s.P = (0, 0) from if_neg fun h => hV h.2)
    have HB4 := Lib.hid (KEEP.out _ hx4).2.2.2.2.2.2
    generalize verF f (rtd f sd n) m n s.i s.C s.P = V at *
    go_wp2_with fail
    exact bodyPost_ret (results_tmp2 (t := 10) (u := 11) rfl _ _ _) rfl ⟨by rw [HV.out]; rfl, HB4.out⟩
  have HFG := Lib.hid (show fgF f sd n G m s.i s.C s.P = if ¬ mgF G s.i = z32 ∧ mgF G s.i = m then (0, 0) else exF (dgl m) (rvF (mgF G s.i) (!decide (mgF G s.i = z32))) (!decide (mgF G s.i = z32)) s.C (sgn (sdK sd s.i) m) from if_pos ⟨HE.out, hV⟩)
  obtain ⟨_, ⟨hi0, _⟩, hC19, _, _⟩ := VerOk_of hV
  rw [hV]
  clear hV
  obtain ⟨q1, q2, q3, q4, q5, q6, q7⟩ := KEEP.out _ hx4
  have CB := Lib.hid (signedBy_all G gA gc s.i hi0 w4 q6)
  have HGL := Lib.hid (mgF_len G s.i q6.2.2.2.1 hi0)
  have c0 := q3.c0
  have HC19 := Lib.hid hC19
  clear q1 q2 q3 q4 q5 q6 q7 hC19
  go_wp2_with fail
  refine CB.out.mono ?_
  rintro e w5 ⟨rfl, hb5⟩
  have hx5 := STEP.out _ _ hx4 hb5
  clear CB hb5 c0
  obtain ⟨g, hg⟩ : ∃ g, mgF G s.i = g := ⟨_, rfl⟩
  rw [hg] at HGL HFG ⊢
  clear hg
  have n5 : RowB (w5.alloc (.cells (U (flb 32 [])).toArray 23)) w5.heap.size 23 (flb 32 []) := heap_alloc_new w5 _
  have HG5 := Lib.hid (show ∀ W5, (w5.alloc (.cells (U (flb 32 [])).toArray 23)).setRow w5.heap.size (U g).toArray = W5 → RowB W5 w5.heap.size 23 g ∧ Below W1.heap.size W1 W5 ∧ w5.heap.size + 1 = W5.heap.size from fun W5 h => by
    subst h
    exact ⟨n5.setRow _, STEP.out _ _ hx5 (below_setRow ((Below.refl _ _).alloc (Nat.le_refl _) _) (Nat.le_refl _) _), by simp⟩)
  go_upto_region 5 with (refine store_B rfl (.tmp 14) (.tmp 38) rfl w5.heap.size (flb 32 []) g rfl rfl 23 n5 HGL.out (by simp [flb]) ?_)
  generalize hW6 : (w5.alloc _).setRow _ _ = W6
  obtain ⟨r6, hx6, hz6⟩ := HG5.out W6 hW6
  have R6 := Lib.hid r6
  clear hW6 HG5 n5 hx4 hx5
  obtain ⟨hs, hhs⟩ : ∃ hs, (!decide (g = z32)) = hs := ⟨_, rfl⟩
  rw [hhs] at HFG ⊢
  have HHS := Lib.hid hhs
  clear hhs
  obtain ⟨q1, q2, q3, q4, q5, q6, q7⟩ := KEEP.out _ hx6
  have HB6 := Lib.hid q7
  have Q1 := Lib.hid q1
  have Q2 := Lib.hid q2
  have Q3 := Lib.hid q3
  clear q1 q3 q4 q5 q6 q7
  have hltg := r6.lt
  by_cases hgm : hs = true ∧ g = m
  · obtain ⟨rfl, hgm⟩ := hgm
    have HV := Lib.hid (show fgF f sd n G m s.i s.C s.P = (0, 0) by rw [HFG.out, if_pos ⟨by have := HHS.out; simpa using this, hgm⟩])
    have e1 := eq_dig g m HGL.out HM.out
    rw [decide_eq_true hgm] at e1
    clear hgm
    go_wp2_with (first
      | (refine load_Bw (by kernel_rfl) (.tmp 14) rfl w5.heap.size rfl 23 g r6 HGL.out ?_)
      | (refine load_Bw (by kernel_rfl) (.tmp 8) rfl (w.heap.size + 1) rfl 23 m q2 HM.out ?_))
    exact bodyPost_ret (results_tmp2 (t := 10) (u := 11) rfl _ _ _) rfl ⟨by rw [HV.out]; rfl, HB6.out⟩
  have HNG := Lib.hid (show fgF f sd n G m s.i s.C s.P = exF (dgl m) (rvF g hs) hs s.C (sgn (sdK sd s.i) m) by rw [HFG.out, if_neg fun h => hgm ⟨by rw [← HHS.out]; simp [h.1], h.2⟩])
  go_cut [45] from 40 to 45 (fun c wx => c = .bool false ∧ wx = W6)
  case first =>
    cases hs with
    | false =>
      clear hgm
      go_wp2_with fail
      go_meet
      exact ⟨rfl, rfl⟩
    | true =>
      have e1 := eq_dig g m HGL.out HM.out
      rw [decide_eq_false fun h => hgm ⟨rfl, h⟩] at e1
      clear hgm
      go_wp2_with (first
        | (refine load_Bw (by kernel_rfl) (.tmp 14) rfl w5.heap.size rfl 23 g r6 HGL.out ?_)
        | (refine load_Bw (by kernel_rfl) (.tmp 8) rfl (w.heap.size + 1) rfl 23 m q2 HM.out ?_))
      go_meet
      exact ⟨rfl, rfl⟩
  case rest =>
    obtain ⟨rfl, rfl⟩ := hcut
    clear hgm
    go_upto_region 7 with fail
    have hx7 : Below W1.heap.size W1 wc.drew := hx6.drew
    have SB := Lib.hid (show ∀ ww, Below W1.heap.size W1 ww → RowB ww w.heap.size 23 sd ∧ RowB ww (w.heap.size + 1) 23 m ∧ BxL ww (w.heap.size + 2) s from fun ww h => ⟨(KEEP.out ww h).1, (KEEP.out ww h).2.1, (KEEP.out ww h).2.2.1⟩)
    have HSG := Lib.hid (show Below wc.heap.size wc wc.drew from (Below.refl _ _).drew)
    clear Q1 Q2 Q3 q2 r6
    refine wp_region_noPanic ?_
    refine wp_region_held_drew (S := fun ww => RowB ww w.heap.size 23 sd ∧ RowB ww (w.heap.size + 1) 23 m ∧ BxL ww (w.heap.size + 2) s) (by kernel_rfl) (SB.out _ hx7) (fun h0 => ?_)
    refine tk_load 0 46 (.tmp 5) w.heap.size (0) sd rfl (by kernel_rfl) (by kernel_rfl) (by kernel_rfl) (fun _ _ _ _ h => h) rfl rfl rfl rfl (fun ww h => h.1.range) HS.out h0 ?_
    simp only [Act.put, List.setIfInBounds_toArray, List.set_cons_zero, List.set_cons_succ]
    refine tk_val 1 47 (.pointer (some ⟨w.heap.size + 2, 0, none⟩)) rfl (by kernel_rfl) (by kernel_rfl) (by kernel_rfl) (fun _ _ _ _ h => h) rfl rfl (fun ww h => ev_fieldL0 (.tmp 9) (w.heap.size + 2) s rfl rfl h.2.2) h0 ?_
    simp only [Act.put, List.setIfInBounds_toArray, List.set_cons_zero, List.set_cons_succ]
    refine tk_val 2 48 (.int .i64 s.i) rfl (by kernel_rfl) (by kernel_rfl) (by kernel_rfl) (fun _ _ _ _ h => h) rfl rfl (fun ww h => ev_load_int (.tmp 47) (w.heap.size + 2) 0 s.i rfl rfl h.2.2.c0) h0 ?_
    simp only [Act.put, List.setIfInBounds_toArray, List.set_cons_zero, List.set_cons_succ]
    refine tk_load 4 50 (.tmp 8) (w.heap.size + 1) (0) m rfl (by kernel_rfl) (by kernel_rfl) (by kernel_rfl) (fun _ _ _ _ h => h) rfl rfl rfl rfl (fun ww h => h.2.1.range) HM.out h0 ?_
    simp only [Act.put, List.setIfInBounds_toArray, List.set_cons_zero, List.set_cons_succ]
    clear h0
    generalize wc.drew = V0 at hx7 HSG ⊢
    refine lone 3 (by kernel_rfl) rfl (fun K hK => to_call 16 49 _ _ #[.agg (U sd).toArray, .int .i64 s.i] _ rfl rfl rfl rfl enters_Seed (Seed_all sd s.i V0 HS.out HI.out.1 HI.out.2 (KEEP.out _ hx7).2.2.2.1) (fun e w8 hq => ?_))
    obtain ⟨h81, hb8⟩ := hq
    refine ⟨_, h81, ?_⟩
    have hx8 := STEP.out _ _ hx7 hb8
    refine hK _ _ (SB.out _ hx8) ?_
    simp only [Act.put, List.setIfInBounds_toArray, List.set_cons_zero, List.set_cons_succ]
    clear hK
    refine lone 5 (by kernel_rfl) rfl (fun K hK => to_call 38 51 _ _ #[.agg (U (sdK sd s.i)).toArray, .agg (U m).toArray] _ rfl rfl rfl rfl enters_cSign (sign_all (sdK sd s.i) m w8 (sdK_len _ _) HM.out (KEEP.out _ hx8).2.2.2.1) (fun e w9 hq => ?_))
    obtain ⟨v9, h91, hO9, hb9⟩ := hq
    refine ⟨_, h91, ?_⟩
    have hx9 := STEP.out _ _ hx8 hb9
    refine hK _ _ (SB.out _ hx9) ?_
    simp only [Act.put, List.setIfInBounds_toArray, List.set_cons_zero, List.set_cons_succ]
    clear hK
    obtain ⟨A9, c9, rfl⟩ := hO9.slice
    rw [sgn_len] at h91 hO9 ⊢
    refine tk_assign 6 16 (.tmp 51) (.slice A9 19 c9) rfl (by kernel_rfl) (by kernel_rfl) (by kernel_rfl) (fun _ _ _ _ h => h) rfl rfl rfl rfl (SB.out _ hx9) ?_
    simp only [Act.put, List.setIfInBounds_toArray, List.set_cons_zero, List.set_cons_succ]
    refine wpAnyH_done (by kernel_rfl) (NoPanic.normal ?_) _
    have HSG9 := Lib.hid (HSG.out.trans ((hb8.trans (hb9.mono hb8.size)).mono HSG.out.size))
    have R9 := R6.out.keep (HSG9.out.block _ hltg)
    obtain ⟨q1, q2, q3, q4, q5, q6, q7⟩ := KEEP.out _ hx9
    have c1 := q3.c1
    rw [HC19.out] at c1
    have CX := Lib.hid (explain_all g m hs s.C (sgn (sdK sd s.i) m) s.cA A9 s.cc c9 w9 HGL.out HM.out HC19.out (sgn_len _ _) q5.1 (hO9.dlw (sgn_len _ _)))
    have HB9 := Lib.hid q7
    clear q1 q4 q5 q6 q7 hb8 hb9 hO9 HSG HSG9 hx8 hx7 hx9 h81 h91
    go_wp2_with (first
      | (refine load_B rfl (.tmp 14) rfl w5.heap.size rfl 23 g R9 HGL.out ?_)
      | (refine load_B rfl (.tmp 8) rfl (w.heap.size + 1) rfl 23 m q2 HM.out ?_))
    refine CX.out.mono ?_
    rintro e w10 ⟨rfl, hb10⟩
    have HB10 := Lib.hid (HB9.out.trans (hb10.mono HB9.out.size))
    clear CX hb10 c1 R9 q2 q3
    go_wp2_with fail
    exact bodyPost_ret (results_tmp2 (t := 10) (u := 11) rfl _ _ _) rfl ⟨by rw [HNG.out]; rfl, HB10.out⟩
end
section
set_option maxRecDepth 100000
open Go.RowKit

set_option maxHeartbeats 3200000 in
theorem rElement_all (x : List UInt8) (i k : Nat) (w : World) (hx : x.length = 32) (hi : i < 256) (hk : k ≤ 1000) :
    Calls Tryd.prog 55 #[.agg (U x).toArray, .int .i64 i, .int .i64 k] w fun e w' => e = .returned (.agg (U (sn k (fst5 x i))).toArray) ∧ Below w.heap.size w w' := by
  have HX := Lib.hid hx
  clear hx
  obtain ⟨h0, h1, hb1, hz1⟩ := box2 w (U x).toArray (U (flb 32 [])).toArray 23 23 _ rfl
  have oe := own_empty ((w.alloc (.cells (U x).toArray 23)).alloc (.cells (U (flb 32 [])).toArray 23))
  have bx := ((show RowB _ w.heap.size 23 x from h0).b32 HX.out).keep (w' := ((w.alloc (.cells (U x).toArray 23)).alloc (.cells (U (flb 32 [])).toArray 23)).alloc (.cells #[] 5)) (S' := (· < w.heap.size + 2)) fun j hj => ⟨by omega, Below.heap_alloc _ _ j (by omega)⟩
  rw [hz1] at oe
  have OE := Lib.hid oe
  have BX := Lib.hid bx
  have HB2 := Lib.hid (hb1.alloc hb1.size (.cells #[] 5))
  have R1 := Lib.hid (show RowB (((w.alloc (.cells (U x).toArray 23)).alloc (.cells (U (flb 32 [])).toArray 23)).alloc (.cells #[] 5)) (w.heap.size + 1) 23 (flb 32 []) from (Below.heap_alloc _ _ _ (by omega)).trans h1)
  have HZ := Lib.hid (show (((w.alloc (.cells (U x).toArray 23)).alloc (.cells (U (flb 32 [])).toArray 23)).alloc (.cells #[] 5)).heap.size = w.heap.size + 3 by rw [World.size_alloc, hz1])
  have HZ2 := Lib.hid (Nat.le_of_eq HZ.out.symm)
  have HZ3 := Lib.hid (Nat.le_trans (show w.heap.size + 2 ≤ w.heap.size + 3 by omega) HZ2.out)
  clear h0 h1 hb1 hz1 oe bx
  have HBY := Lib.hid (fun w3 : World => byt_one w3 (UInt8.ofNat i) (i : Int) (by rw [UInt8.toNat_ofNat', Nat.mod_eq_of_lt hi]))
  go_enter Tryd.func55, Tryd.ntmps55
  go_wp2_with (first
    | (at_builtin; refine app_byt rfl (.tmp 9) (.tmp 10) rfl (w.heap.size + 2) _ _ _ _ [] x rfl (by rw [HX.out]; rfl) OE.out BX.out (by rw [HX.out]; simp) HZ3.out ?_; intro v3 w3 ho3 hg3; rw [List.nil_append] at ho3; obtain ⟨A3, c3, e3⟩ := ho3.slice; subst e3; have HB3 := Lib.hid (below_own HB2.out hg3 OE.out (by omega) (Nat.le_trans (by omega) HZ2.out)); have HR3 := Lib.hid (R1.out.grown hg3 (fun e => by have := (World.ownsRow.lt OE.out _ e).1; omega)); have hsz3 := Nat.le_trans HZ2.out hg3.size; have HO3 := Lib.hid (show Own (w3.alloc (.cells #[.int .u8 i] 5)) (w.heap.size + 2) (.slice A3 x.length c3) x from World.ownsRow.alloc ho3 _); clear ho3 hg3)
    | (at_builtin; refine app_byt rfl (.tmp 11) (.tmp 14) rfl (w.heap.size + 2) _ _ _ _ x [UInt8.ofNat i] rfl rfl HO3.out (HBY.out _) (by rw [HX.out]; simp) (by simp; omega) ?_; intro v4 w4 ho4 hg4; obtain ⟨A4, c4, e4, hy4⟩ := ho4.byt; subst e4; have HY4 := Lib.hid hy4; have HB4 := Lib.hid (below_own (HB3.out.alloc (by omega) _) hg4 HO3.out (by omega) (by simp; omega)); have HR4 := Lib.hid ((show RowB (w3.alloc (.cells #[.int .u8 i] 5)) (w.heap.size + 1) 23 (flb 32 []) from (Below.heap_alloc _ _ _ (by omega)).trans HR3.out).grown hg4 (fun e => by have := (World.ownsRow.lt HO3.out _ e).1; omega)); clear ho4 hg4 hy4))
  have C := rtagged_all chainT (x ++ [UInt8.ofNat i]) A4 c4 w4 (by decide) (by rw [List.length_append, HX.out]; simp) (HY4.out.keep fun j hj => ⟨hj.2, rfl⟩)
  rw [show (x ++ [UInt8.ofNat i]).length = x.length + 1 by simp] at C
  refine C.mono ?_
  rintro e w5 ⟨rfl, hb5⟩
  have R5 := Lib.hid (HR4.out.keep (hb5.block _ HR4.out.lt))
  have HB5 := Lib.hid (HB4.out.trans (hb5.mono HB4.out.size))
  have hsz5 : w.heap.size + 2 ≤ w5.heap.size := by have := R5.out.lt; omega
  have n5 : RowB (w5.alloc (.cells (U (flb 32 [])).toArray 23)) w5.heap.size 23 (flb 32 []) := heap_alloc_new w5 _
  have HG5 := Lib.hid (show ∀ W6, (w5.alloc (.cells (U (flb 32 [])).toArray 23)).setRow w5.heap.size (U (fst5 x i)).toArray = W6 → RowB W6 w5.heap.size 23 (sn 0 (fst5 x i)) ∧ Below w5.heap.size w5 W6 ∧ w5.heap.size + 1 = W6.heap.size from fun W6 h => by
    subst h
    exact ⟨n5.setRow _, below_setRow ((Below.refl _ _).alloc (Nat.le_refl _) _) (Nat.le_refl _) _, by simp⟩)
  have HFL := Lib.hid (fst5_len x i)
  clear hb5 C
  go_upto_region 2 with (refine store_B rfl (.tmp 7) (.tmp 16) rfl w5.heap.size (flb 32 []) (fst5 x i) rfl rfl 23 n5 HFL.out (by simp [flb]) ?_)
  generalize hW6 : (w5.alloc _).setRow _ _ = W6
  obtain ⟨r6, hb6, hz6⟩ := HG5.out W6 hW6
  have R6 := Lib.hid r6
  have R7 := Lib.hid (R5.out.keep (hb6.block _ (by omega)))
  have HB6 := Lib.hid (HB5.out.trans (hb6.mono HB5.out.size))
  clear hW6 HG5 n5 hb6 r6
  go_wp2_with fail
  go_loopw [8] (fun y wr => ∃ j : Nat, y = .int .i64 j ∧ j ≤ k ∧ Hid (RowB wr w5.heap.size 23 (sn j (fst5 x i))) ∧ Hid (RowB wr (w.heap.size + 1) 23 (flb 32 [])) ∧ Hid (Below w.heap.size w wr)) (fun y _ => k - (intOf y).toNat)
  case atStart => exact ⟨0, rfl, by omega, R6, R7, HB6⟩
  case round =>
    obtain ⟨j, rfl, hj, H0, H1, HB⟩ := hrel
    have HSN := Lib.hid (sn_len j _ HFL.out)
    have hl1 := H1.out.lt
    have hl0 := H0.out.lt
    by_cases hjk : j < k
    · have C := rtagged_all stepT (sn j (fst5 x i)) (some ⟨w5.heap.size, 0, none⟩) 32 wr (by decide) (by rw [HSN.out]; omega) ((H0.out.b32 HSN.out).keep fun i hi => ⟨by subst hi; exact hl0, rfl⟩)
      rw [HSN.out] at C
      have CC := Lib.hid C
      clear C
      go_wp2_with fail
      refine CC.out.mono ?_
      rintro e w6 ⟨rfl, hb6⟩
      have r6 := H0.out.keep (hb6.block _ hl0)
      have HR7 := Lib.hid (r6.setRow (sn (j + 1) (fst5 x i)))
      have HR8 := Lib.hid (show RowB (w6.setRow w5.heap.size (U (sn (j + 1) (fst5 x i))).toArray) (w.heap.size + 1) 23 (flb 32 []) from (setRow_other _ _ _ _ (by omega)).trans (H1.out.keep (hb6.block _ hl1)))
      have HB7 := Lib.hid (below_setRow (HB.out.trans (hb6.mono HB.out.size)) (show w.heap.size ≤ w5.heap.size by omega) (U (sn (j + 1) (fst5 x i))).toArray)
      clear hb6 CC
      go_wp2_with (refine store_B rfl (.tmp 7) (.tmp 23) rfl w5.heap.size (sn j (fst5 x i)) (sn (j + 1) (fst5 x i)) rfl rfl 23 r6 (sd_len _) HSN.out ?_)
      go_roundw
      case rel => exact ⟨j + 1, rfl, by omega, HR7, HR8, HB7⟩
      case measure => simp [intOf]; omega
    · have hjk2 : j = k := by omega
      rw [hjk2] at H0 HSN ⊢
      have r0 := H0.out
      have r1 := H1.out
      have r2 := r1.setRow (sn k (fst5 x i))
      clear hjk2 hjk hj
      go_wp2_with (first
        | (refine load_B rfl (.tmp 7) rfl w5.heap.size rfl 23 (sn k (fst5 x i)) r0 HSN.out ?_)
        | (refine store_B rfl (.tmp 6) (.tmp 24) rfl (w.heap.size + 1) (flb 32 []) (sn k (fst5 x i)) rfl rfl 23 r1 HSN.out (by simp [flb]) ?_))
      exact bodyPost_ret (res_B rfl _ _ _ _ _ rfl r2 HSN.out) rfl ⟨rfl, below_setRow HB.out (by omega) _⟩

set_option maxHeartbeats 1600000 in
theorem rLast_all (w : World) : Calls Tryd.prog 53 #[] w fun e w' => ∃ A c, e = .returned (.slice A 19 c) ∧ OwnN w' w.heap.size (.slice A 19 c) (List.replicate 19 3) ∧ Below w.heap.size w w' := by
  have OE := Lib.hid (ownN_empty w)
  go_enter Tryd.func53, Tryd.ntmps53
  go_wp2_with fail
  go_loopw [1, 2] (fun v y wr => ∃ (k : Nat) (A : Option Addr) (c : Nat), v = .slice A k c ∧ y = .int .i64 k ∧ k ≤ 19 ∧ Hid (OwnN wr w.heap.size (.slice A k c) (List.replicate k 3)) ∧ Hid (Below w.heap.size w wr)) (fun _ y _ => 19 - (intOf y).toNat)
  case atStart => exact ⟨0, _, _, rfl, rfl, by omega, OE, Lib.hid ((Below.refl _ _).alloc (Nat.le_refl _) _)⟩
  case round =>
    obtain ⟨k, A, c, rfl, rfl, hk, HO, HB⟩ := hrel
    have hz := HB.out.size
    by_cases hlt : k < 19
    · have b1 : (k : Int) < 19 := by omega
      have ho : OwnN (wr.alloc (.cells #[.int .i64 (3 : Int)] 3)) w.heap.size (.slice A k c) (List.replicate k 3) := World.ownsRow.alloc HO.out _
      have HL := Lib.hid (show (List.replicate k 3 : List Nat).length = k by simp)
      go_wp2_with (first
        | (at_builtin; refine app_int rfl (.tmp 8) (.tmp 9) rfl w.heap.size wr.heap.size 1 _ (List.replicate k 3) [3] rfl rfl rfl ho (one_int wr 3 3) (by rw [HL.out]; omega) (by simp; omega) ?_; intro v7 w7 hO7 hg7; obtain ⟨A7, c7, rfl⟩ := hO7.slice))
      go_roundw
      case rel =>
        have e : List.replicate k 3 ++ [3] = List.replicate (k + 1) 3 := by rw [List.replicate_succ']
        rw [e, List.length_replicate] at hO7
        exact ⟨k + 1, A7, c7, rfl, by go_num, by omega, Lib.hid hO7, Lib.hid (below_ownN (HB.out.alloc hz _) hg7 ho (Nat.le_refl _) (by simp; omega))⟩
      case measure => simp [intOf]; omega
    · obtain rfl : k = 19 := by omega
      go_wp2_with fail
      go_ret
      exact ⟨A, c, rfl, HO.out, HB.out⟩

set_option maxHeartbeats 1600000 in
theorem rSigned_all (L : List (List UInt8)) (A : Option Addr) (cap : Nat) (i : Int) (hi : 0 ≤ i) (w : World) (hl : DL w (· < w.heap.size) L A cap) :
    Calls Tryd.prog 51 #[.slice A L.length cap, .int .i64 i] w fun e w' => e = .returned (.agg (U (mgF L i)).toArray) ∧ Below w.heap.size w w' := by
  have HL := Lib.hid hl
  have hcap := hl.1
  have hcm : cap ≤ 9223372036854775807 := hl.2.1
  clear hl
  have n1 : RowB (w.alloc (.cells (U (flb 32 [])).toArray 23)) w.heap.size 23 (flb 32 []) := heap_alloc_new w _
  have hb1 : Below w.heap.size w (w.alloc (.cells (U (flb 32 [])).toArray 23)) := (Below.refl _ _).alloc (Nat.le_refl _) _
  have HB1 := Lib.hid hb1
  have hi0 : ¬ i < 0 := by omega
  by_cases h : i < L.length
  · obtain ⟨k, rfl⟩ : ∃ k : Nat, i = k := ⟨i.toNat, by omega⟩
    have hk : k < L.length := by omega
    obtain ⟨x, hx⟩ : ∃ x, L[k]? = some x := ⟨_, List.getElem?_eq_getElem hk⟩
    have hx32 := HL.out.2.2.2.1 x (List.mem_of_getElem? hx)
    obtain ⟨b, ofs, rfl, hS, hc⟩ := HL.out.2.2.2.2 (by omega)
    have HR := Lib.hid (show (w.alloc (.cells (U (flb 32 [])).toArray 23)).rangeAt b (ofs + k * 32) (U x) from fun j u hu => (World.cell?_of_block (hb1.block b hS)).trans (hc k x hx j u hu))
    have HX := Lib.hid hx32
    have HM := Lib.hid (show mgF L k = x by rw [mgF, if_pos h, Int.toNat_natCast, List.getD_eq_getElem?_getD, hx]; rfl)
    rw [HM.out]
    have hle : ¬ ((L.length : Int) ≤ (k : Int)) := by omega
    have r2 := n1.setRow x
    clear hx hx32 hc hb1
    go_enter Tryd.func51, Tryd.ntmps51
    go_wp2_with (first
      | (refine load_D rfl (.tmp 16) rfl b (ofs + k * 32) x rfl HR.out HX.out ?_)
      | (refine store_B rfl (.tmp 4) (.tmp 17) rfl w.heap.size (flb 32 []) x rfl rfl 23 n1 HX.out (by simp [flb]) ?_))
    exact bodyPost_ret (res_B rfl _ _ _ _ _ rfl r2 HX.out) rfl ⟨rfl, below_setRow HB1.out (Nat.le_refl _) _⟩
  · have HM := Lib.hid (show mgF L i = z32 by rw [mgF, if_neg h])
    rw [HM.out]
    have hle : (L.length : Int) ≤ i := by omega
    have r2 := n1.setRow z32
    clear hb1
    go_enter Tryd.func51, Tryd.ntmps51
    go_wp2_with (refine store_B rfl (.tmp 4) (.tmp 13) rfl w.heap.size (flb 32 []) z32 rfl rfl 23 n1 rfl (by simp [flb]) ?_)
    exact bodyPost_ret (res_B rfl _ _ _ _ _ rfl r2 rfl) rfl ⟨rfl, below_setRow HB1.out (Nat.le_refl _) _⟩
end
end Go.Proofs.YteicbdjennjcdaaDoor
