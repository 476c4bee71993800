/- Keys: the reference's Forged. -/
import Derived.Test.YteicbdjennjcdaaDoorW21
import Derived.Test.YteicbdjennjcdaaDoorW15
namespace Go.Proofs.YteicbdjennjcdaaDoor
set_option maxRecDepth 100000
open Go.RowKit

theorem tkw_skip {md : Region.Mode} {ops : Array Oper} {Q : Exit → Act → World → Prop} {S : World → Prop} {fuel : Nat} {listed : Array Bool} {a : Act} {w : World} (i n : Nat) {oi : Oper} (hi : ops[i]? = some oi)
    (hs : Region.noSelect ops = true) (hf : Region.free md ops listed i = true) (hr : (Region.ready md ops listed).contains i = true) (hQ : ∀ c a v w, Q (.panic c) (a.put (some n) v) w → Q (.panic c) a w)
    (hw : Region.wanted oi (yielded ops a.tmps) = false) (hd : oi.dst = some n) (h0 : S w)
    (h : wpAnyH Tryd.prog md ops Q S fuel (listed.setIfInBounds i true) (a.put (some n) undef) w) : wpAnyH Tryd.prog md ops Q S (fuel + 1) listed a w :=
  wpAnyH_take (i := i) (oi := oi) (v := undef) hi hs hf hr (fun c a w hq => hQ c a _ w (by rw [hd] at hq; exact hq)) (.inr ⟨hw, rfl⟩) h0 (by rw [hd]; exact h)
theorem wl_eqD {ops : Array Oper} {rest : List Oper} {o : Oper} {a : Act} {w : World} {Q : Exit → Act → World → Prop} (hgd : o.guard = none) (x y : Operand) (l m : List UInt8) (hl : l.length = 32) (hm : m.length = 32) (ho : o.op = .binOp .eql 23 x y 23) (hx : a.eval x = .agg (U l).toArray) (hy : a.eval y = .agg (U m).toArray)
    (h : wpList Tryd.prog ops Q rest (a.put o.dst (.bool (decide (l = m)))) w) : wpList Tryd.prog ops Q (o :: rest) a w := by
  refine wpList_plain hgd fun K hK => ?_
  have hrun := ev_eqD (w := w) x y l m hl hm ho hx hy
  unfold Oper.wp
  rw [hrun]
  exact hK _ _ h
theorem ev_lssN {o : Oper} {a : Act} {w : World} (x y : Operand) (p q : Nat) (ho : o.op = .binOp .lss 3 x y 3) (hx : a.eval x = .int .i64 (p : Int)) (hy : a.eval y = .int .i64 (q : Int)) :
    (execOp a.eval o).run Tryd.prog w = .ok (.value (.bool (decide (p < q)))) w := by
  have e : decide ((p : Int) < q) = decide (p < q) := by
    by_cases h : p < q
    · rw [decide_eq_true h, decide_eq_true (by omega)]
    · rw [decide_eq_false h, decide_eq_false (by omega)]
  rw [← e]
  unfold execOp
  simp only [ho, hx, hy]
  go_simp
theorem ev_pickT {o : Oper} {a : Act} {w : World} (c x y : Operand) (v : Value) (ho : o.op = .pick c x y) (hc : a.eval c = .bool true) (hx : a.eval x = v) :
    (execOp a.eval o).run Tryd.prog w = .ok (.value v) w := by
  unfold execOp
  simp only [ho, hc, hx]
  go_simp
theorem ev_pickF {o : Oper} {a : Act} {w : World} (c x y : Operand) (v : Value) (ho : o.op = .pick c x y) (hc : a.eval c = .bool false) (hy : a.eval y = v) :
    (execOp a.eval o).run Tryd.prog w = .ok (.value v) w := by
  unfold execOp
  simp only [ho, hc, hy]
  go_simp
theorem ev_fieldL1 {o : Oper} {a : Act} {w : World} (x : Operand) (g : Nat) (s : Lf) (ho : o.op = .fieldAddr 28 x 1) (hx : a.eval x = .pointer (some ⟨g, 0, none⟩)) (h : BxL w g s) :
    (execOp a.eval o).run Tryd.prog w = .ok (.value (.pointer (some ⟨g, 1, none⟩))) w := by
  have c0 := h.c0
  unfold execOp
  simp only [ho, hx]
  go_simp
theorem ev_loadS1 {o : Oper} {a : Act} {w : World} (x : Operand) (b f : Nat) (A : Option Addr) (n c : Nat) (ho : o.op = .load 26 x) (hx : a.eval x = .pointer (some ⟨b, f, none⟩)) (h : w.cell? ⟨b, f, none⟩ = some (.slice A n c)) :
    (execOp a.eval o).run Tryd.prog w = .ok (.value (.slice A n c)) w := by
  unfold execOp
  simp only [ho, hx]
  go_simp
theorem erl_split (D K : List Nat) : ∀ i : Nat, i ≤ 19 → ∃ pre, erl D K 0 = pre ++ erl D K i ∧ ∀ j ∈ pre, j.val < i ∧ D.getD j.val 0 < K.getD j.val 0
  | 0, _ => ⟨[], rfl, fun _ h => by cases h⟩
  | i + 1, h => by
    obtain ⟨pre, h1, h2⟩ := erl_split D K i (by omega)
    rw [erl_drop D K i (by omega), ← List.append_assoc] at h1
    refine ⟨_, h1, fun j hj => ?_⟩
    rcases List.mem_append.1 hj with hj | hj
    · exact ⟨by have := (h2 j hj).1; omega, (h2 j hj).2⟩
    · by_cases hd : D.getD i 0 < K.getD i 0
      · rw [if_pos hd] at hj
        rw [List.mem_singleton.1 hj]
        exact ⟨Nat.lt_succ_self i, hd⟩
      · rw [if_neg hd] at hj
        cases hj
theorem exF_at (D K : List Nat) (has : Bool) (C O : List (List UInt8)) (h : (has && decide (D = K)) = false) (i : Nat) (hi : i < 19) (hn : ∀ j < i, D.getD j 0 < K.getD j 0 → C.getD j [] ≠ O.getD j []) (hd : D.getD i 0 < K.getD i 0) (he : C.getD i [] = O.getD i []) : exF D K has C O = (2, i) := by
  obtain ⟨pre, h1, h2⟩ := erl_split D K i (by omega)
  rw [erl_drop D K i hi, if_pos hd, ← List.append_assoc] at h1
  have := exF_some D K has C O h (pre ++ [⟨i, hi⟩]) ⟨_, h1.symm⟩ ⟨pre, ⟨i, hi⟩, rfl, fun j hj => hn j.val (h2 j hj).1 (h2 j hj).2, he⟩
  rw [this]
  simp [lastV]
theorem exF_end (D K : List Nat) (has : Bool) (C O : List (List UInt8)) (h : (has && decide (D = K)) = false) (hn : ∀ j < 19, D.getD j 0 < K.getD j 0 → C.getD j [] ≠ O.getD j []) : exF D K has C O = (3, 0) :=
  exF_none D K has C O h fun j hj => hn j.val j.isLt ((erl_mem D K j 19 0 rfl).1 hj).2
theorem sgn_get (s m : List UInt8) (i d : Nat) (hi : i < 19) (hd : (dgl m)[i]? = some d) : (sgn s m).getD i [] = sn d (fst5 s i) := by
  rw [sgn, rc, List.getD_eq_getElem?_getD, List.getElem?_map, List.getElem?_range hi]
  simp [List.getD_eq_getElem?_getD, hd, fsts_at s i hi]
theorem enters_rElement : Enters Tryd.prog 55 := enters_of Tryd.func55 (by kernel_rfl) rfl

set_option maxHeartbeats 6400000 in
theorem rForged_all (f : Nat) (hf : f = 1099511627776) (sd m : List UInt8) (n : Int) (G : List (List UInt8)) (gA : Option Addr) (gc : Nat) (s : Lf) (w : World) (hs32 : sd.length = 32) (hm32 : m.length = 32) (hi : -9223372036854775808 ≤ s.i ∧ s.i ≤ 9223372036854775807) (hG : DL w (· < w.heap.size) G gA gc) (hok : s.ok w (· < w.heap.size)) (hP2 : s.P.length ≤ 1099511627776) :
    Calls Tryd.prog 22 #[.agg (U sd).toArray, .int .i64 n, .slice gA G.length gc, .agg (U m).toArray, .agg s.cs] w fun e w' =>
      e = .returned (.tuple #[.int .i64 ((fgF f sd n G m s.i s.C s.P).1 : Nat), .int .i64 ((fgF f sd n G m s.i s.C s.P).2 : Nat)]) ∧ Below w.heap.size w w' := by
  have HS := Lib.hid hs32
  have HM := Lib.hid hm32
  have HF := Lib.hid hf
  have HI := Lib.hid hi
  obtain ⟨k1, k2, k3, hb1, hz1⟩ := box3 w (U sd).toArray (U m).toArray s.cs 23 23 28 _ rfl
  obtain ⟨W1, hW1⟩ : ∃ W1, ((w.alloc (.cells (U sd).toArray 23)).alloc (.cells (U m).toArray 23)).alloc (.cells s.cs 28) = W1 := ⟨_, rfl⟩
  rw [hW1] at k1 k2 k3 hb1 hz1
  have KEEP := Lib.hid (show ∀ ww, Below W1.heap.size W1 ww → RowB ww w.heap.size 23 sd ∧ RowB ww (w.heap.size + 1) 23 m ∧ BxL ww (w.heap.size + 2) s ∧ s.ok ww (· < ww.heap.size) ∧ DL ww (· < ww.heap.size) G gA gc ∧ Below w.heap.size w ww from fun ww h =>
    ⟨(h.block _ (by omega)).trans k1, (h.block _ (by omega)).trans k2, (h.block _ (by omega)).trans k3, hok.keep fun i hi => ⟨by have := h.size; omega, (h.block i (by omega)).trans (hb1.block i hi)⟩, hG.keep fun i hi => ⟨by have := h.size; omega, (h.block i (by omega)).trans (hb1.block i hi)⟩, hb1.trans (h.mono hb1.size)⟩)
  have STEP := Lib.hid (show ∀ ww w', Below W1.heap.size W1 ww → Below ww.heap.size ww w' → Below W1.heap.size W1 w' from fun ww w' h1 h2 => h1.trans (h2.mono h1.size))
  have HW1 := Lib.hid hW1
  clear hW1 hs32 hm32 hi hf hok hG k1 k2 k3 hb1 hz1
  have hx1 : Below W1.heap.size W1 W1 := Below.refl _ _
  go_enter Tryd.func22, Tryd.ntmps22
  go_upto_region 1 with fail
  generalize hW1' : ((w.alloc _).alloc _).alloc _ = W1'
  have e9 : W1' = W1 := hW1'.symm.trans HW1.out
  clear hW1'
  rw [e9]
  clear e9 W1' HW1
  have r1 := (KEEP.out _ hx1).1
  go_wp2_with (refine load_B rfl (.tmp 5) rfl w.heap.size rfl 23 sd r1 HS.out ?_)
  refine (rRoot_all f HF.out sd n W1 HS.out).mono ?_
  rintro e w2 ⟨rfl, hb2⟩
  have hx2 := STEP.out _ _ hx1 hb2
  clear r1 hb2
  have HRL := Lib.hid (rtd_len f sd n)
  have n2 : RowB (w2.alloc (.cells (U (flb 32 [])).toArray 23)) w2.heap.size 23 (flb 32 []) := heap_alloc_new w2 _
  have HG2 := Lib.hid (show ∀ W5, (w2.alloc (.cells (U (flb 32 [])).toArray 23)).setRow w2.heap.size (U (rtd f sd n)).toArray = W5 → RowB W5 w2.heap.size 23 (rtd f sd n) ∧ Below W1.heap.size W1 W5 ∧ w2.heap.size + 1 = W5.heap.size from fun W5 h => by
    subst h
    exact ⟨n2.setRow _, STEP.out _ _ hx2 (below_setRow ((Below.refl _ _).alloc (Nat.le_refl _) _) (Nat.le_refl _) _), by simp⟩)
  go_upto_region 2 with (refine store_B rfl (.tmp 12) (.tmp 24) rfl w2.heap.size (flb 32 []) (rtd f sd n) rfl rfl 23 n2 HRL.out (by simp [flb]) ?_)
  generalize hW3 : (w2.alloc _).setRow _ _ = W3
  obtain ⟨r3, hx3, hz3⟩ := HG2.out W3 hW3
  clear hW3 HG2 n2 hx1 hx2
  have hx3 := hx3
  by_cases hE : rte n = 0
  case neg =>
    have HV := Lib.hid (show fgF f sd n G m s.i s.C s.P = (0, 0) from if_neg fun h => hE h.1)
    have HB3 := Lib.hid (KEEP.out _ hx3).2.2.2.2.2
    go_wp2_with fail
    exact bodyPost_ret (results_tmp2 (t := 10) (u := 11) rfl _ _ _) rfl ⟨by rw [HV.out]; rfl, HB3.out⟩
  have HE := Lib.hid hE
  rw [hE]
  clear hE
  obtain ⟨q1, q2, q3, q5, q6, q7⟩ := KEEP.out _ hx3
  have CV := Lib.hid (rVerify_all f HF.out (rtd f sd n) m n s W3 HRL.out HM.out q5 hP2)
  have HB3 := Lib.hid q7
  clear q1 q5 q6 q7
  go_upto_if 1 with (first
    | (refine load_Bw (by kernel_rfl) (.tmp 12) rfl w2.heap.size rfl 23 (rtd f sd n) r3 HRL.out ?_)
    | (refine load_Bw (by kernel_rfl) (.tmp 8) rfl (w.heap.size + 1) rfl 23 m q2 HM.out ?_)
    | (refine load_Lb (by kernel_rfl) (.tmp 9) rfl (w.heap.size + 2) s rfl q3 ?_))
  refine CV.out.mono ?_
  rintro e w4 ⟨rfl, hb4⟩
  have hx4 := STEP.out _ _ hx3 hb4
  have hz4 := hb4.size
  have R4 := Lib.hid (r3.keep (hb4.block _ (by omega)))
  clear CV hb4 r3 q2 q3 HB3
  by_cases hV : verF f (rtd f sd n) m n s.i s.C s.P = 0
  case neg =>
    have HV := Lib.hid (show fgF f sd n G m s.i s.C s.P = (0, 0) from if_neg fun h => hV h.2)
    have HB4 := Lib.hid (KEEP.out _ hx4).2.2.2.2.2
    generalize verF f (rtd f sd n) m n s.i s.C s.P = V at *
    go_wp2_with fail
    exact bodyPost_ret (results_tmp2 (t := 10) (u := 11) rfl _ _ _) rfl ⟨by rw [HV.out]; rfl, HB4.out⟩
  have HFG := Lib.hid (show fgF f sd n G m s.i s.C s.P = if ¬ mgF G s.i = z32 ∧ mgF G s.i = m then (0, 0) else exF (dgl m) (rvF (mgF G s.i) (!decide (mgF G s.i = z32))) (!decide (mgF G s.i = z32)) s.C (sgn (sdK sd s.i) m) from if_pos ⟨HE.out, hV⟩)
  obtain ⟨_, ⟨hi0, _⟩, hC19, _, _⟩ := VerOk_of hV
  rw [hV]
  clear hV
  obtain ⟨q1, q2, q3, q5, q6, q7⟩ := KEEP.out _ hx4
  have CB := Lib.hid (rSigned_all G gA gc s.i hi0 w4 q6)
  have HGL := Lib.hid (mgF_len G s.i q6.2.2.2.1 hi0)
  have c0 := q3.c0
  have HC19 := Lib.hid hC19
  clear q1 q2 q3 q5 q6 q7 hC19
  go_wp2_with fail
  refine CB.out.mono ?_
  rintro e w5 ⟨rfl, hb5⟩
  have hx5 := STEP.out _ _ hx4 hb5
  clear CB hb5 c0
  obtain ⟨g, hg⟩ : ∃ g, mgF G s.i = g := ⟨_, rfl⟩
  rw [hg] at HGL HFG ⊢
  clear hg
  have n5 : RowB (w5.alloc (.cells (U (flb 32 [])).toArray 23)) w5.heap.size 23 (flb 32 []) := heap_alloc_new w5 _
  have HG5 := Lib.hid (show ∀ W5, (w5.alloc (.cells (U (flb 32 [])).toArray 23)).setRow w5.heap.size (U g).toArray = W5 → RowB W5 w5.heap.size 23 g ∧ Below W1.heap.size W1 W5 ∧ w5.heap.size + 1 = W5.heap.size from fun W5 h => by
    subst h
    exact ⟨n5.setRow _, STEP.out _ _ hx5 (below_setRow ((Below.refl _ _).alloc (Nat.le_refl _) _) (Nat.le_refl _) _), by simp⟩)
  go_upto_region 5 with (refine store_B rfl (.tmp 14) (.tmp 39) rfl w5.heap.size (flb 32 []) g rfl rfl 23 n5 HGL.out (by simp [flb]) ?_)
  generalize hW6 : (w5.alloc _).setRow _ _ = W6
  obtain ⟨r6, hx6, hz6⟩ := HG5.out W6 hW6
  have R6 := Lib.hid r6
  clear hW6 HG5 n5 hx4 hx5
  obtain ⟨q1, q2, q3, q5, q6, q7⟩ := KEEP.out _ hx6
  have HB6 := Lib.hid q7
  clear q1 q3 q5 q6 q7
  have hltg := r6.lt
  have HZ : Hid (z32.length = 32) := Lib.hid rfl
  go_upto_region 6 with (first
    | (refine load_B rfl (.tmp 14) rfl w5.heap.size rfl 23 g r6 HGL.out ?_)
    | (refine wl_eqD rfl (.tmp 40) (.tmp 41) g z32 HGL.out HZ.out rfl rfl rfl ?_))
  have e1 := eq_dig g m HGL.out HM.out
  by_cases hz : g = z32
  case pos =>
    have HZG := Lib.hid hz
    rw [decide_eq_true hz]
    have HNG := Lib.hid (show fgF f sd n G m s.i s.C s.P = exF (dgl m) (List.replicate 19 3) false s.C (sgn (sdK sd s.i) m) by
      rw [HFG.out, if_neg fun h => h.1 HZG.out, decide_eq_true HZG.out]
      rfl)
    clear hz
    go_cut [49] from 43 to 49 (fun c wx => c = .bool false ∧ wx = W6)
    case first =>
      by_cases hgm : g = m
      · have HGM := Lib.hid hgm
        rw [decide_eq_true hgm] at e1
        clear hgm
        go_wp2_with (first
          | (refine load_B rfl (.tmp 14) rfl w5.heap.size rfl 23 g r6 HGL.out ?_)
          | (refine load_B rfl (.tmp 8) rfl (w.heap.size + 1) rfl 23 m q2 HM.out ?_))
        go_meet
        exact ⟨rfl, rfl⟩
      · rw [decide_eq_false hgm] at e1
        clear hgm
        go_wp2_with (first
          | (refine load_B rfl (.tmp 14) rfl w5.heap.size rfl 23 g r6 HGL.out ?_)
          | (refine load_B rfl (.tmp 8) rfl (w.heap.size + 1) rfl 23 m q2 HM.out ?_))
        go_meet
        exact ⟨rfl, rfl⟩
    case rest =>
      obtain ⟨rfl, rfl⟩ := hcut
      clear e1
      go_wp2_with (refine load_B rfl (.tmp 8) rfl (w.heap.size + 1) rfl 23 m q2 HM.out ?_)
      refine (rDigits_all m wc HM.out).mono ?_
      rintro e W7 ⟨Ad, cd, rfl, hod7, hb7⟩
      have hx7 := STEP.out _ _ hx6 hb7
      have HD7 := Lib.hid (hod7.il.keep (w' := W7) (S' := (· < W7.heap.size)) fun i hi => ⟨hi.2, rfl⟩)
      obtain ⟨bd, od, rfl, _⟩ := HD7.out.2.2 (by rw [dgl_len]; omega)
      have r7 := R6.out.keep (hb7.block _ hltg)
      clear hod7 hb7 r6
      go_wp2_with (refine load_B rfl (.tmp 14) rfl w5.heap.size rfl 23 g r7 HGL.out ?_)
      refine (rDigits_all g W7 HGL.out).mono ?_
      rintro e W8 ⟨A0, c0', rfl, hok8, hb8⟩
      have hx8 := STEP.out _ _ hx7 hb8
      have HD8 := Lib.hid (HD7.out.keep (w' := W8) (S' := (· < W8.heap.size)) fun i hi => ⟨by have := hb8.size; omega, hb8.block i hi⟩)
      clear hok8 hb8 hx7 hx6 r7 HD7
      go_wp2_with fail
      refine (rLast_all W8).mono ?_
      rintro e W9 ⟨Ak, ck, rfl, hok9, hb9⟩
      have hx9 := STEP.out _ _ hx8 hb9
      have HD9 := Lib.hid (HD8.out.keep (w' := W9) (S' := (· < W9.heap.size)) fun i hi => ⟨by have := hb9.size; omega, hb9.block i hi⟩)
      have HK9 := Lib.hid (hok9.il.keep (w' := W9) (S' := (· < W9.heap.size)) fun i hi => ⟨hi.2, rfl⟩)
      obtain ⟨Kn, hK⟩ : ∃ Kn : List Nat, List.replicate 19 3 = Kn := ⟨_, rfl⟩
      rw [hK] at HK9 HNG
      have HKL := Lib.hid (show Kn.length = 19 by rw [← hK]; rfl)
      have HNE : Hid ((false && decide (dgl m = Kn)) = false) := Lib.hid rfl
      clear hb9 hok9 hx8 HD8 hK
      have hfk := HK9.out.2.2 (by rw [HKL.out]; omega)
      obtain ⟨bk, ok, rfl, _⟩ := hfk
      obtain ⟨q1, q2', q3, q5, q6, q7⟩ := KEEP.out _ hx9
      have c0 := q3.c0
      clear q2' q5 q6 q7
      have HDL := Lib.hid (dgl_len m)
      have HDLE := Lib.hid (dgl_le m)
      go_wp2_with (refine load_B rfl (.tmp 5) rfl w.heap.size rfl 23 sd q1 HS.out ?_)
      refine (rSeed_all sd s.i W9 HS.out HI.out.1 HI.out.2).mono ?_
      rintro e W10 ⟨rfl, hb10⟩
      have hz10 := hb10.size
      have hx10 := STEP.out _ _ hx9 hb10
      have HSL := Lib.hid (sdK_len sd s.i)
      have n10 : RowB (W10.alloc (.cells (U (flb 32 [])).toArray 23)) W10.heap.size 23 (flb 32 []) := heap_alloc_new W10 _
      have HG10 := Lib.hid (show ∀ W6, (W10.alloc (.cells (U (flb 32 [])).toArray 23)).setRow W10.heap.size (U (sdK sd s.i)).toArray = W6 → RowB W6 W10.heap.size 23 (sdK sd s.i) ∧ Below W10.heap.size W10 W6 ∧ W10.heap.size + 1 = W6.heap.size from fun W6 h => by
        subst h
        exact ⟨n10.setRow _, below_setRow ((Below.refl _ _).alloc (Nat.le_refl _) _) (Nat.le_refl _) _, by simp⟩)
      clear c0 q1 q3
      go_upto_region 15 with (refine store_B rfl (.tmp 18) (.tmp 66) rfl W10.heap.size (flb 32 []) (sdK sd s.i) rfl rfl 23 n10 HSL.out (by simp [flb]) ?_)
      generalize hW11 : (W10.alloc _).setRow _ _ = W11
      obtain ⟨r11, hb11, hz11⟩ := HG10.out W11 hW11
      have hx11 := STEP.out _ _ hx10 hb11
      have hb12 := hb10.trans (hb11.mono hz10)
      have hltS := r11.lt
      have HD11 := Lib.hid (HD9.out.keep (w' := W11) (S' := (· < W11.heap.size)) fun i hi => ⟨by omega, hb12.block i hi⟩)
      have HK11 := Lib.hid (HK9.out.keep (w' := W11) (S' := (· < W11.heap.size)) fun i hi => ⟨by omega, hb12.block i hi⟩)
      have KP := Lib.hid (show ∀ ww, Below W11.heap.size W11 ww → BxL ww (w.heap.size + 2) s ∧ RowB ww W10.heap.size 23 (sdK sd s.i) ∧ IL ww (· < W11.heap.size) (dgl m) (some ⟨bd, od, none⟩) cd ∧ IL ww (· < W11.heap.size) Kn (some ⟨bk, ok, none⟩) ck ∧ DL ww (· < ww.heap.size) s.C s.cA s.cc ∧ Below w.heap.size w ww from fun ww h => by
        obtain ⟨q1, q2, q3, q5, q6, q7⟩ := KEEP.out ww (hx11.trans (h.mono hx11.size))
        exact ⟨q3, r11.keep (h.block _ hltS), HD11.out.keep fun i hi => ⟨hi, h.block i hi⟩, HK11.out.keep fun i hi => ⟨hi, h.block i hi⟩, q5.1, q7⟩)
      have H11 : Hid (Below W11.heap.size W11 W11) := Lib.hid (Below.refl _ _)
      clear hW11 HG10 n10 hb10 hb11 hb12 HD9 HK9 hx9 hx10 r11 hx11
      go_wp2_with fail
      go_loopw [19] (fun y wr => ∃ k : Nat, y = .int .i64 k ∧ k ≤ 19 ∧ Hid (Below W11.heap.size W11 wr) ∧ Hid (∀ j < k, (dgl m).getD j 0 < Kn.getD j 0 → s.C.getD j [] ≠ (sgn (sdK sd s.i) m).getD j [])) (fun y _ => 19 - (intOf y).toNat)
      case atStart => exact ⟨0, rfl, by omega, H11, Lib.hid fun j hj => by omega⟩
      case round =>
        obtain ⟨k, rfl, hk, HBr, HQ⟩ := hrel
        by_cases hlt : k < 19
        · have b1 : (k : Int) < 19 := by omega
          obtain ⟨x, hx⟩ : ∃ x, (dgl m)[k]? = some x := ⟨_, List.getElem?_eq_getElem (by rw [HDL.out]; exact hlt)⟩
          obtain ⟨y, hy⟩ : ∃ y, Kn[k]? = some y := ⟨_, List.getElem?_eq_getElem (by rw [HKL.out]; exact hlt)⟩
          obtain ⟨d, hd⟩ : ∃ d, s.C[k]? = some d := ⟨_, List.getElem?_eq_getElem (by rw [HC19.out]; exact hlt)⟩
          have hx3 := HDLE.out x (List.mem_of_getElem? hx)
          have HGD := Lib.hid (show (dgl m).getD k 0 = x by rw [List.getD_eq_getElem?_getD, hx]; rfl)
          have HGK := Lib.hid (show Kn.getD k 0 = y by rw [List.getD_eq_getElem?_getD, hy]; rfl)
          have HGC := Lib.hid (show s.C.getD k [] = d by rw [List.getD_eq_getElem?_getD, hd]; rfl)
          have HGO := Lib.hid (sgn_get (sdK sd s.i) m k x hlt hx)
          have hcA := (KP.out _ HBr.out).2.2.2.2.1.2.2.2.2 (by rw [HC19.out]; omega)
          obtain ⟨cb, co, hcA, _⟩ := hcA
          have HCA := Lib.hid hcA
          have HCC := Lib.hid (show ∀ ww, Below W11.heap.size W11 ww → ww.cell? ⟨bd, od + k, none⟩ = some (.int .i64 (x : Int)) ∧ ww.cell? ⟨bk, ok + k, none⟩ = some (.int .i64 (y : Int)) ∧ ww.cell? ⟨w.heap.size + 2, 1, none⟩ = some (.slice (some ⟨cb, co, none⟩) 19 s.cc) ∧ ww.rangeAt cb (co + k * 32) (U d) ∧ d.length = 32 from fun ww h => by
            obtain ⟨q1, q2, q3, q4, q5, q6⟩ := KP.out ww h
            obtain ⟨b', o', e', _, hc'⟩ := q3.2.2 (by rw [HDL.out]; omega)
            injection e' with e'
            injection e' with e1 e2
            subst e1 e2
            obtain ⟨b'', o'', e', _, hc''⟩ := q4.2.2 (by rw [HKL.out]; omega)
            injection e' with e'
            injection e' with e1 e2
            subst e1 e2
            obtain ⟨b3, o3, e', _, hc3⟩ := q5.2.2.2.2 (by rw [HC19.out]; omega)
            rw [HCA.out] at e'
            injection e' with e'
            injection e' with e1 e2
            subst e1 e2
            have q1c := q1.c1
            rw [HCA.out, HC19.out] at q1c
            exact ⟨hc' k x hx, hc'' k y hy, q1c, hc3 k d hd, q5.2.2.2.1 d (List.mem_of_getElem? hd)⟩)
          have hd32 := (HCC.out _ HBr.out).2.2.2.2
          have HD32 := Lib.hid hd32
          clear hx hy hd hcA hd32
          go_wp2_with fail
          refine wp_region_noPanic ?_
          have h0 : Below W11.heap.size W11 wr.drew := HBr.out.drew
          refine wp_region_held_drew (S := fun ww => Below W11.heap.size W11 ww) (by kernel_rfl) h0 (fun _ => ?_)
          generalize wr.drew = V0 at h0 ⊢
          refine tk_move 0 71 (.tmp 16) (.slice (some ⟨bd, od, none⟩) 19 cd) rfl (by kernel_rfl) (by kernel_rfl) (by kernel_rfl) (fun _ _ _ _ h => h) rfl rfl rfl rfl h0 ?_
          simp only [Act.put, List.setIfInBounds_toArray, List.set_cons_zero, List.set_cons_succ]
          refine tk_move 1 72 (.tmp 19) (.int .i64 k) rfl (by kernel_rfl) (by kernel_rfl) (by kernel_rfl) (fun _ _ _ _ h => h) rfl rfl rfl rfl h0 ?_
          simp only [Act.put, List.setIfInBounds_toArray, List.set_cons_zero, List.set_cons_succ]
          refine tk_val 2 73 (.pointer (some ⟨bd, od + k, none⟩)) rfl (by kernel_rfl) (by kernel_rfl) (by kernel_rfl) (fun _ _ _ _ h => h) rfl rfl (fun _ _ => ev_index_int (.tmp 71) (.tmp 72) bd od 19 cd k rfl rfl rfl hlt) h0 ?_
          simp only [Act.put, List.setIfInBounds_toArray, List.set_cons_zero, List.set_cons_succ]
          refine tk_val 3 74 (.int .i64 (x : Int)) rfl (by kernel_rfl) (by kernel_rfl) (by kernel_rfl) (fun _ _ _ _ h => h) rfl rfl (fun ww h => ev_load_int (.tmp 73) bd (od + k) x rfl rfl (HCC.out ww h).1) h0 ?_
          simp only [Act.put, List.setIfInBounds_toArray, List.set_cons_zero, List.set_cons_succ]
          refine tk_move 4 75 (.tmp 17) (.slice (some ⟨bk, ok, none⟩) 19 ck) rfl (by kernel_rfl) (by kernel_rfl) (by kernel_rfl) (fun _ _ _ _ h => h) rfl rfl rfl rfl h0 ?_
          simp only [Act.put, List.setIfInBounds_toArray, List.set_cons_zero, List.set_cons_succ]
          refine tk_move 5 76 (.tmp 19) (.int .i64 k) rfl (by kernel_rfl) (by kernel_rfl) (by kernel_rfl) (fun _ _ _ _ h => h) rfl rfl rfl rfl h0 ?_
          simp only [Act.put, List.setIfInBounds_toArray, List.set_cons_zero, List.set_cons_succ]
          refine tk_val 6 77 (.pointer (some ⟨bk, ok + k, none⟩)) rfl (by kernel_rfl) (by kernel_rfl) (by kernel_rfl) (fun _ _ _ _ h => h) rfl rfl (fun _ _ => ev_index_int (.tmp 75) (.tmp 76) bk ok 19 ck k rfl rfl rfl hlt) h0 ?_
          simp only [Act.put, List.setIfInBounds_toArray, List.set_cons_zero, List.set_cons_succ]
          refine tk_val 7 78 (.int .i64 (y : Int)) rfl (by kernel_rfl) (by kernel_rfl) (by kernel_rfl) (fun _ _ _ _ h => h) rfl rfl (fun ww h => ev_load_int (.tmp 77) bk (ok + k) y rfl rfl (HCC.out ww h).2.1) h0 ?_
          simp only [Act.put, List.setIfInBounds_toArray, List.set_cons_zero, List.set_cons_succ]
          refine tk_val 8 79 (.bool (decide (x < y))) rfl (by kernel_rfl) (by kernel_rfl) (by kernel_rfl) (fun _ _ _ _ h => h) rfl rfl (fun _ _ => ev_lssN (.tmp 74) (.tmp 78) x y rfl rfl rfl) h0 ?_
          simp only [Act.put, List.setIfInBounds_toArray, List.set_cons_zero, List.set_cons_succ]
          refine tk_move 9 80 (.tmp 79) (.bool (decide (x < y))) rfl (by kernel_rfl) (by kernel_rfl) (by kernel_rfl) (fun _ _ _ _ h => h) rfl rfl rfl rfl h0 ?_
          simp only [Act.put, List.setIfInBounds_toArray, List.set_cons_zero, List.set_cons_succ]
          by_cases hxy : x < y
          case neg =>
            rw [decide_eq_false hxy]
            refine tkw_skip 10 81 rfl (by kernel_rfl) (by kernel_rfl) (by kernel_rfl) (fun _ _ _ _ h => h) (by kernel_rfl) rfl h0 ?_
            simp only [Act.put, List.setIfInBounds_toArray, List.set_cons_zero, List.set_cons_succ]
            refine tkw_skip 11 82 rfl (by kernel_rfl) (by kernel_rfl) (by kernel_rfl) (fun _ _ _ _ h => h) (by kernel_rfl) rfl h0 ?_
            simp only [Act.put, List.setIfInBounds_toArray, List.set_cons_zero, List.set_cons_succ]
            refine tkw_skip 12 83 rfl (by kernel_rfl) (by kernel_rfl) (by kernel_rfl) (fun _ _ _ _ h => h) (by kernel_rfl) rfl h0 ?_
            simp only [Act.put, List.setIfInBounds_toArray, List.set_cons_zero, List.set_cons_succ]
            refine tkw_skip 13 84 rfl (by kernel_rfl) (by kernel_rfl) (by kernel_rfl) (fun _ _ _ _ h => h) (by kernel_rfl) rfl h0 ?_
            simp only [Act.put, List.setIfInBounds_toArray, List.set_cons_zero, List.set_cons_succ]
            refine tkw_skip 14 85 rfl (by kernel_rfl) (by kernel_rfl) (by kernel_rfl) (fun _ _ _ _ h => h) (by kernel_rfl) rfl h0 ?_
            simp only [Act.put, List.setIfInBounds_toArray, List.set_cons_zero, List.set_cons_succ]
            refine tkw_skip 15 86 rfl (by kernel_rfl) (by kernel_rfl) (by kernel_rfl) (fun _ _ _ _ h => h) (by kernel_rfl) rfl h0 ?_
            simp only [Act.put, List.setIfInBounds_toArray, List.set_cons_zero, List.set_cons_succ]
            refine tkw_skip 16 87 rfl (by kernel_rfl) (by kernel_rfl) (by kernel_rfl) (fun _ _ _ _ h => h) (by kernel_rfl) rfl h0 ?_
            simp only [Act.put, List.setIfInBounds_toArray, List.set_cons_zero, List.set_cons_succ]
            refine tkw_skip 17 88 rfl (by kernel_rfl) (by kernel_rfl) (by kernel_rfl) (fun _ _ _ _ h => h) (by kernel_rfl) rfl h0 ?_
            simp only [Act.put, List.setIfInBounds_toArray, List.set_cons_zero, List.set_cons_succ]
            refine tkw_skip 18 89 rfl (by kernel_rfl) (by kernel_rfl) (by kernel_rfl) (fun _ _ _ _ h => h) (by kernel_rfl) rfl h0 ?_
            simp only [Act.put, List.setIfInBounds_toArray, List.set_cons_zero, List.set_cons_succ]
            refine tkw_skip 19 90 rfl (by kernel_rfl) (by kernel_rfl) (by kernel_rfl) (fun _ _ _ _ h => h) (by kernel_rfl) rfl h0 ?_
            simp only [Act.put, List.setIfInBounds_toArray, List.set_cons_zero, List.set_cons_succ]
            refine tkw_skip 20 91 rfl (by kernel_rfl) (by kernel_rfl) (by kernel_rfl) (fun _ _ _ _ h => h) (by kernel_rfl) rfl h0 ?_
            simp only [Act.put, List.setIfInBounds_toArray, List.set_cons_zero, List.set_cons_succ]
            refine tkw_skip 21 92 rfl (by kernel_rfl) (by kernel_rfl) (by kernel_rfl) (fun _ _ _ _ h => h) (by kernel_rfl) rfl h0 ?_
            simp only [Act.put, List.setIfInBounds_toArray, List.set_cons_zero, List.set_cons_succ]
            refine tkw_skip 22 93 rfl (by kernel_rfl) (by kernel_rfl) (by kernel_rfl) (fun _ _ _ _ h => h) (by kernel_rfl) rfl h0 ?_
            simp only [Act.put, List.setIfInBounds_toArray, List.set_cons_zero, List.set_cons_succ]
            refine tk_val 23 94 (.bool false) rfl (by kernel_rfl) (by kernel_rfl) (by kernel_rfl) (fun _ _ _ _ h => h) rfl rfl (fun _ _ => ev_pickF (.tmp 80) (.tmp 93) _ (.bool false) rfl rfl rfl) h0 ?_
            simp only [Act.put, List.setIfInBounds_toArray, List.set_cons_zero, List.set_cons_succ]
            refine wpAnyH_done (by kernel_rfl) (NoPanic.normal ?_) _
            have H0 := Lib.hid h0
            have HQ2 := Lib.hid (show ∀ j < k + 1, (dgl m).getD j 0 < Kn.getD j 0 → s.C.getD j [] ≠ (sgn (sdK sd s.i) m).getD j [] from fun j hj hlt' => by
              by_cases e : j = k
              · subst e; rw [HGD.out, HGK.out] at hlt'; exact absurd hlt' hxy
              · exact HQ.out j (by omega) hlt')
            clear h0 hxy
            go_wp2_with fail
            go_roundw
            case rel => exact ⟨k + 1, by go_num, by omega, H0, HQ2⟩
            case measure => simp [intOf]; omega
          rw [decide_eq_true hxy]
          refine tkw_val 10 81 (.pointer (some ⟨w.heap.size + 2, 1, none⟩)) rfl (by kernel_rfl) (by kernel_rfl) (by kernel_rfl) (fun _ _ _ _ h => h) (by kernel_rfl) rfl (fun ww h => ev_fieldL1 (.tmp 9) (w.heap.size + 2) s rfl rfl (KP.out ww h).1) h0 ?_
          simp only [Act.put, List.setIfInBounds_toArray, List.set_cons_zero, List.set_cons_succ]
          refine tkw_val 11 82 (.slice (some ⟨cb, co, none⟩) 19 s.cc) rfl (by kernel_rfl) (by kernel_rfl) (by kernel_rfl) (fun _ _ _ _ h => h) (by kernel_rfl) rfl (fun ww h => ev_loadS1 (.tmp 81) (w.heap.size + 2) 1 _ _ _ rfl rfl (HCC.out ww h).2.2.1) h0 ?_
          simp only [Act.put, List.setIfInBounds_toArray, List.set_cons_zero, List.set_cons_succ]
          refine tkw_val 12 83 (.int .i64 k) rfl (by kernel_rfl) (by kernel_rfl) (by kernel_rfl) (fun _ _ _ _ h => h) (by kernel_rfl) rfl (fun _ _ => ev_move (.tmp 19) (.int .i64 k) rfl rfl) h0 ?_
          simp only [Act.put, List.setIfInBounds_toArray, List.set_cons_zero, List.set_cons_succ]
          refine tkw_val 13 84 (.pointer (some ⟨cb, co + k * 32, none⟩)) rfl (by kernel_rfl) (by kernel_rfl) (by kernel_rfl) (fun _ _ _ _ h => h) (by kernel_rfl) rfl (fun _ _ => ev_index (.tmp 82) (.tmp 83) cb co 19 s.cc k rfl rfl rfl hlt) h0 ?_
          simp only [Act.put, List.setIfInBounds_toArray, List.set_cons_zero, List.set_cons_succ]
          refine tkw_load 14 85 (.tmp 84) cb (co + k * 32) d rfl (by kernel_rfl) (by kernel_rfl) (by kernel_rfl) (fun _ _ _ _ h => h) (by kernel_rfl) rfl rfl rfl (fun ww h => (HCC.out ww h).2.2.2.1) HD32.out h0 ?_
          simp only [Act.put, List.setIfInBounds_toArray, List.set_cons_zero, List.set_cons_succ]
          refine tkw_load 15 86 (.tmp 18) W10.heap.size (0) (sdK sd s.i) rfl (by kernel_rfl) (by kernel_rfl) (by kernel_rfl) (fun _ _ _ _ h => h) (by kernel_rfl) rfl rfl rfl (fun ww h => (KP.out ww h).2.1.range) HSL.out h0 ?_
          simp only [Act.put, List.setIfInBounds_toArray, List.set_cons_zero, List.set_cons_succ]
          refine tkw_val 16 87 (.int .i64 k) rfl (by kernel_rfl) (by kernel_rfl) (by kernel_rfl) (fun _ _ _ _ h => h) (by kernel_rfl) rfl (fun _ _ => ev_move (.tmp 19) (.int .i64 k) rfl rfl) h0 ?_
          simp only [Act.put, List.setIfInBounds_toArray, List.set_cons_zero, List.set_cons_succ]
          refine tkw_val 17 88 (.slice (some ⟨bd, od, none⟩) 19 cd) rfl (by kernel_rfl) (by kernel_rfl) (by kernel_rfl) (fun _ _ _ _ h => h) (by kernel_rfl) rfl (fun _ _ => ev_move (.tmp 16) (.slice (some ⟨bd, od, none⟩) 19 cd) rfl rfl) h0 ?_
          simp only [Act.put, List.setIfInBounds_toArray, List.set_cons_zero, List.set_cons_succ]
          refine tkw_val 18 89 (.int .i64 k) rfl (by kernel_rfl) (by kernel_rfl) (by kernel_rfl) (fun _ _ _ _ h => h) (by kernel_rfl) rfl (fun _ _ => ev_move (.tmp 19) (.int .i64 k) rfl rfl) h0 ?_
          simp only [Act.put, List.setIfInBounds_toArray, List.set_cons_zero, List.set_cons_succ]
          refine tkw_val 19 90 (.pointer (some ⟨bd, od + k, none⟩)) rfl (by kernel_rfl) (by kernel_rfl) (by kernel_rfl) (fun _ _ _ _ h => h) (by kernel_rfl) rfl (fun _ _ => ev_index_int (.tmp 88) (.tmp 89) bd od 19 cd k rfl rfl rfl hlt) h0 ?_
          simp only [Act.put, List.setIfInBounds_toArray, List.set_cons_zero, List.set_cons_succ]
          refine tkw_val 20 91 (.int .i64 (x : Int)) rfl (by kernel_rfl) (by kernel_rfl) (by kernel_rfl) (fun _ _ _ _ h => h) (by kernel_rfl) rfl (fun ww h => ev_load_int (.tmp 90) bd (od + k) x rfl rfl (HCC.out ww h).1) h0 ?_
          simp only [Act.put, List.setIfInBounds_toArray, List.set_cons_zero, List.set_cons_succ]
          have STEP2 := Lib.hid (show ∀ ww w', Below W11.heap.size W11 ww → Below ww.heap.size ww w' → Below W11.heap.size W11 w' from fun ww w' h1 h2 => h1.trans (h2.mono h1.size))
          refine lone 21 (by kernel_rfl) rfl (fun K hK => ?_)
          rw [if_pos (show Region.wanted _ _ = true from rfl)]
          refine wp_call 55 92 _ _ #[.agg (U (sdK sd s.i)).toArray, .int .i64 k, .int .i64 x] _ rfl rfl rfl enters_rElement (rElement_all (sdK sd s.i) k x V0 HSL.out (by omega) (by omega)) (fun e V1 hq => ?_)
          refine ⟨_, hq.1, ?_⟩
          have h1x := STEP2.out _ _ h0 hq.2
          refine hK _ _ h1x ?_
          simp only [Act.put, List.setIfInBounds_toArray, List.set_cons_zero, List.set_cons_succ]
          clear hK hq
          rw [← HGO.out]
          refine tkw_val 22 93 (.bool (decide (d = (sgn (sdK sd s.i) m).getD k []))) rfl (by kernel_rfl) (by kernel_rfl) (by kernel_rfl) (fun _ _ _ _ h => h) (by kernel_rfl) rfl (fun _ _ => ev_eqD (.tmp 85) (.tmp 92) d _ HD32.out (by rw [HGO.out]; exact sn_len _ _ (fst5_len _ _)) rfl rfl rfl) h1x ?_
          simp only [Act.put, List.setIfInBounds_toArray, List.set_cons_zero, List.set_cons_succ]
          refine tk_val 23 94 (.bool (decide (d = (sgn (sdK sd s.i) m).getD k []))) rfl (by kernel_rfl) (by kernel_rfl) (by kernel_rfl) (fun _ _ _ _ h => h) rfl rfl (fun _ _ => ev_pickT (.tmp 80) (.tmp 93) _ _ rfl rfl rfl) h1x ?_
          simp only [Act.put, List.setIfInBounds_toArray, List.set_cons_zero, List.set_cons_succ]
          refine wpAnyH_done (by kernel_rfl) (NoPanic.normal ?_) _
          have H0 := Lib.hid h1x
          have HXY := Lib.hid hxy
          clear h0 h1x hxy STEP2
          by_cases hde : d = (sgn (sdK sd s.i) m).getD k []
          · have HV := Lib.hid (show fgF f sd n G m s.i s.C s.P = (2, k) by rw [HNG.out]; exact exF_at _ _ _ _ _ HNE.out k hlt HQ.out (by rw [HGD.out, HGK.out]; exact HXY.out) (by rw [HGC.out]; exact hde))
            rw [decide_eq_true hde]
            have HBF := Lib.hid (KP.out _ H0.out).2.2.2.2.2
            clear hde
            go_wp2_with fail
            exact bodyPost_ret (results_tmp2 (t := 10) (u := 11) rfl _ _ _) rfl ⟨by rw [HV.out]; rfl, HBF.out⟩
          · rw [decide_eq_false hde]
            have HQ2 := Lib.hid (show ∀ j < k + 1, (dgl m).getD j 0 < Kn.getD j 0 → s.C.getD j [] ≠ (sgn (sdK sd s.i) m).getD j [] from fun j hj hlt' => by
              by_cases e : j = k
              · subst e; rw [HGC.out]; exact hde
              · exact HQ.out j (by omega) hlt')
            clear hde
            go_wp2_with fail
            go_roundw
            case rel => exact ⟨k + 1, by go_num, by omega, H0, HQ2⟩
            case measure => simp [intOf]; omega
        · obtain rfl : k = 19 := by omega
          have HV := Lib.hid (show fgF f sd n G m s.i s.C s.P = (3, 0) by rw [HNG.out]; exact exF_end _ _ _ _ _ HNE.out HQ.out)
          have HBF := Lib.hid (KP.out _ HBr.out).2.2.2.2.2
          go_wp2_with fail
          exact bodyPost_ret (results_tmp2 (t := 10) (u := 11) rfl _ _ _) rfl ⟨by rw [HV.out]; rfl, HBF.out⟩
  rw [decide_eq_false hz]
  have HZG := Lib.hid hz
  clear hz
  by_cases hgm : g = m
  · have HV := Lib.hid (show fgF f sd n G m s.i s.C s.P = (0, 0) by rw [HFG.out, if_pos ⟨HZG.out, hgm⟩])
    rw [decide_eq_true hgm] at e1
    clear hgm
    go_wp2_with (first
      | (refine load_B rfl (.tmp 14) rfl w5.heap.size rfl 23 g r6 HGL.out ?_)
      | (refine load_B rfl (.tmp 8) rfl (w.heap.size + 1) rfl 23 m q2 HM.out ?_))
    exact bodyPost_ret (results_tmp2 (t := 10) (u := 11) rfl _ _ _) rfl ⟨by rw [HV.out]; rfl, HB6.out⟩
  · have HNG := Lib.hid (show fgF f sd n G m s.i s.C s.P = exF (dgl m) (dgl g) true s.C (sgn (sdK sd s.i) m) by
      rw [HFG.out, if_neg fun h => hgm h.2, decide_eq_false HZG.out]
      rfl)
    rw [decide_eq_false hgm] at e1
    clear hgm
    go_upto_region 8 with (first
      | (refine load_B rfl (.tmp 14) rfl w5.heap.size rfl 23 g r6 HGL.out ?_)
      | (refine load_B rfl (.tmp 8) rfl (w.heap.size + 1) rfl 23 m q2 HM.out ?_))
    obtain ⟨wc, hwc⟩ : ∃ wc, W6 = wc := ⟨_, rfl⟩
    rw [hwc] at hx6 R6 HB6 hltg r6 q2 ⊢
    clear hwc e1
    go_wp2_with (refine load_B rfl (.tmp 8) rfl (w.heap.size + 1) rfl 23 m q2 HM.out ?_)
    refine (rDigits_all m wc HM.out).mono ?_
    rintro e W7 ⟨Ad, cd, rfl, hod7, hb7⟩
    have hx7 := STEP.out _ _ hx6 hb7
    have HD7 := Lib.hid (hod7.il.keep (w' := W7) (S' := (· < W7.heap.size)) fun i hi => ⟨hi.2, rfl⟩)
    obtain ⟨bd, od, rfl, _⟩ := HD7.out.2.2 (by rw [dgl_len]; omega)
    have r7 := R6.out.keep (hb7.block _ hltg)
    clear hod7 hb7 r6
    go_wp2_with (refine load_B rfl (.tmp 14) rfl w5.heap.size rfl 23 g r7 HGL.out ?_)
    refine (rDigits_all g W7 HGL.out).mono ?_
    rintro e W8 ⟨Ak, ck, rfl, hok8, hb8⟩
    have hx8 := STEP.out _ _ hx7 hb8
    have HD8 := Lib.hid (HD7.out.keep (w' := W8) (S' := (· < W8.heap.size)) fun i hi => ⟨by have := hb8.size; omega, hb8.block i hi⟩)
    have HK8 := Lib.hid (hok8.il.keep (w' := W8) (S' := (· < W8.heap.size)) fun i hi => ⟨hi.2, rfl⟩)
    clear hok8 hb8 hx7 hx6 r7 HD7
    have C := rSameInts_all (dgl m) (dgl g) (some ⟨bd, od, none⟩) cd Ak ck W8 HD8.out HK8.out (by rw [dgl_len]; omega) (by rw [dgl_len]; omega)
    rw [dgl_len, dgl_len] at C
    have CC := Lib.hid C
    clear C
    go_wp2_with fail
    refine CC.out.mono ?_
    rintro e W9 ⟨rfl, hb9⟩
    clear CC
    have hx9 := STEP.out _ _ hx8 hb9
    have HB9 := Lib.hid (KEEP.out _ hx9).2.2.2.2.2
    by_cases hDK : dgl m = dgl g
    · have HV := Lib.hid (show fgF f sd n G m s.i s.C s.P = (1, 0) by rw [HNG.out]; exact if_pos ⟨rfl, hDK⟩)
      rw [decide_eq_true hDK]
      clear hDK
      go_wp2_with fail
      exact bodyPost_ret (results_tmp2 (t := 10) (u := 11) rfl _ _ _) rfl ⟨by rw [HV.out]; rfl, HB9.out⟩
    · rw [decide_eq_false hDK]
      have HNE : Hid ((true && decide (dgl m = dgl g)) = false) := Lib.hid (by rw [decide_eq_false hDK]; rfl)
      clear hDK HB9
      have HD9 := Lib.hid (HD8.out.keep (w' := W9) (S' := (· < W9.heap.size)) fun i hi => ⟨by have := hb9.size; omega, hb9.block i hi⟩)
      have HK9 := Lib.hid (HK8.out.keep (w' := W9) (S' := (· < W9.heap.size)) fun i hi => ⟨by have := hb9.size; omega, hb9.block i hi⟩)
      obtain ⟨Kn, hK⟩ : ∃ Kn : List Nat, dgl g = Kn := ⟨_, rfl⟩
      have HKL := Lib.hid (show Kn.length = 19 by rw [← hK]; exact dgl_len g)
      rw [hK] at HK9 HNG HNE
      clear hb9 hx8 HD8 HK8 hK
      have hfk := HK9.out.2.2 (by rw [HKL.out]; omega)
      obtain ⟨bk, ok, rfl, _⟩ := hfk
      obtain ⟨q1, q2', q3, q5, q6, q7⟩ := KEEP.out _ hx9
      have c0 := q3.c0
      clear q2' q5 q6 q7
      have HDL := Lib.hid (dgl_len m)
      have HDLE := Lib.hid (dgl_le m)
      go_wp2_with (refine load_B rfl (.tmp 5) rfl w.heap.size rfl 23 sd q1 HS.out ?_)
      refine (rSeed_all sd s.i W9 HS.out HI.out.1 HI.out.2).mono ?_
      rintro e W10 ⟨rfl, hb10⟩
      have hz10 := hb10.size
      have hx10 := STEP.out _ _ hx9 hb10
      have HSL := Lib.hid (sdK_len sd s.i)
      have n10 : RowB (W10.alloc (.cells (U (flb 32 [])).toArray 23)) W10.heap.size 23 (flb 32 []) := heap_alloc_new W10 _
      have HG10 := Lib.hid (show ∀ W6, (W10.alloc (.cells (U (flb 32 [])).toArray 23)).setRow W10.heap.size (U (sdK sd s.i)).toArray = W6 → RowB W6 W10.heap.size 23 (sdK sd s.i) ∧ Below W10.heap.size W10 W6 ∧ W10.heap.size + 1 = W6.heap.size from fun W6 h => by
        subst h
        exact ⟨n10.setRow _, below_setRow ((Below.refl _ _).alloc (Nat.le_refl _) _) (Nat.le_refl _) _, by simp⟩)
      clear c0 q1 q3
      go_upto_region 15 with (refine store_B rfl (.tmp 18) (.tmp 66) rfl W10.heap.size (flb 32 []) (sdK sd s.i) rfl rfl 23 n10 HSL.out (by simp [flb]) ?_)
      generalize hW11 : (W10.alloc _).setRow _ _ = W11
      obtain ⟨r11, hb11, hz11⟩ := HG10.out W11 hW11
      have hx11 := STEP.out _ _ hx10 hb11
      have hb12 := hb10.trans (hb11.mono hz10)
      have hltS := r11.lt
      have HD11 := Lib.hid (HD9.out.keep (w' := W11) (S' := (· < W11.heap.size)) fun i hi => ⟨by omega, hb12.block i hi⟩)
      have HK11 := Lib.hid (HK9.out.keep (w' := W11) (S' := (· < W11.heap.size)) fun i hi => ⟨by omega, hb12.block i hi⟩)
      have KP := Lib.hid (show ∀ ww, Below W11.heap.size W11 ww → BxL ww (w.heap.size + 2) s ∧ RowB ww W10.heap.size 23 (sdK sd s.i) ∧ IL ww (· < W11.heap.size) (dgl m) (some ⟨bd, od, none⟩) cd ∧ IL ww (· < W11.heap.size) Kn (some ⟨bk, ok, none⟩) ck ∧ DL ww (· < ww.heap.size) s.C s.cA s.cc ∧ Below w.heap.size w ww from fun ww h => by
        obtain ⟨q1, q2, q3, q5, q6, q7⟩ := KEEP.out ww (hx11.trans (h.mono hx11.size))
        exact ⟨q3, r11.keep (h.block _ hltS), HD11.out.keep fun i hi => ⟨hi, h.block i hi⟩, HK11.out.keep fun i hi => ⟨hi, h.block i hi⟩, q5.1, q7⟩)
      have H11 : Hid (Below W11.heap.size W11 W11) := Lib.hid (Below.refl _ _)
      clear hW11 HG10 n10 hb10 hb11 hb12 HD9 HK9 hx9 hx10 r11 hx11
      go_wp2_with fail
      go_loopw [19] (fun y wr => ∃ k : Nat, y = .int .i64 k ∧ k ≤ 19 ∧ Hid (Below W11.heap.size W11 wr) ∧ Hid (∀ j < k, (dgl m).getD j 0 < Kn.getD j 0 → s.C.getD j [] ≠ (sgn (sdK sd s.i) m).getD j [])) (fun y _ => 19 - (intOf y).toNat)
      case atStart => exact ⟨0, rfl, by omega, H11, Lib.hid fun j hj => by omega⟩
      case round =>
        obtain ⟨k, rfl, hk, HBr, HQ⟩ := hrel
        by_cases hlt : k < 19
        · have b1 : (k : Int) < 19 := by omega
          obtain ⟨x, hx⟩ : ∃ x, (dgl m)[k]? = some x := ⟨_, List.getElem?_eq_getElem (by rw [HDL.out]; exact hlt)⟩
          obtain ⟨y, hy⟩ : ∃ y, Kn[k]? = some y := ⟨_, List.getElem?_eq_getElem (by rw [HKL.out]; exact hlt)⟩
          obtain ⟨d, hd⟩ : ∃ d, s.C[k]? = some d := ⟨_, List.getElem?_eq_getElem (by rw [HC19.out]; exact hlt)⟩
          have hx3 := HDLE.out x (List.mem_of_getElem? hx)
          have HGD := Lib.hid (show (dgl m).getD k 0 = x by rw [List.getD_eq_getElem?_getD, hx]; rfl)
          have HGK := Lib.hid (show Kn.getD k 0 = y by rw [List.getD_eq_getElem?_getD, hy]; rfl)
          have HGC := Lib.hid (show s.C.getD k [] = d by rw [List.getD_eq_getElem?_getD, hd]; rfl)
          have HGO := Lib.hid (sgn_get (sdK sd s.i) m k x hlt hx)
          have hcA := (KP.out _ HBr.out).2.2.2.2.1.2.2.2.2 (by rw [HC19.out]; omega)
          obtain ⟨cb, co, hcA, _⟩ := hcA
          have HCA := Lib.hid hcA
          have HCC := Lib.hid (show ∀ ww, Below W11.heap.size W11 ww → ww.cell? ⟨bd, od + k, none⟩ = some (.int .i64 (x : Int)) ∧ ww.cell? ⟨bk, ok + k, none⟩ = some (.int .i64 (y : Int)) ∧ ww.cell? ⟨w.heap.size + 2, 1, none⟩ = some (.slice (some ⟨cb, co, none⟩) 19 s.cc) ∧ ww.rangeAt cb (co + k * 32) (U d) ∧ d.length = 32 from fun ww h => by
            obtain ⟨q1, q2, q3, q4, q5, q6⟩ := KP.out ww h
            obtain ⟨b', o', e', _, hc'⟩ := q3.2.2 (by rw [HDL.out]; omega)
            injection e' with e'
            injection e' with e1 e2
            subst e1 e2
            obtain ⟨b'', o'', e', _, hc''⟩ := q4.2.2 (by rw [HKL.out]; omega)
            injection e' with e'
            injection e' with e1 e2
            subst e1 e2
            obtain ⟨b3, o3, e', _, hc3⟩ := q5.2.2.2.2 (by rw [HC19.out]; omega)
            rw [HCA.out] at e'
            injection e' with e'
            injection e' with e1 e2
            subst e1 e2
            have q1c := q1.c1
            rw [HCA.out, HC19.out] at q1c
            exact ⟨hc' k x hx, hc'' k y hy, q1c, hc3 k d hd, q5.2.2.2.1 d (List.mem_of_getElem? hd)⟩)
          have hd32 := (HCC.out _ HBr.out).2.2.2.2
          have HD32 := Lib.hid hd32
          clear hx hy hd hcA hd32
          go_wp2_with fail
          refine wp_region_noPanic ?_
          have h0 : Below W11.heap.size W11 wr.drew := HBr.out.drew
          refine wp_region_held_drew (S := fun ww => Below W11.heap.size W11 ww) (by kernel_rfl) h0 (fun _ => ?_)
          generalize wr.drew = V0 at h0 ⊢
          refine tk_move 0 71 (.tmp 16) (.slice (some ⟨bd, od, none⟩) 19 cd) rfl (by kernel_rfl) (by kernel_rfl) (by kernel_rfl) (fun _ _ _ _ h => h) rfl rfl rfl rfl h0 ?_
          simp only [Act.put, List.setIfInBounds_toArray, List.set_cons_zero, List.set_cons_succ]
          refine tk_move 1 72 (.tmp 19) (.int .i64 k) rfl (by kernel_rfl) (by kernel_rfl) (by kernel_rfl) (fun _ _ _ _ h => h) rfl rfl rfl rfl h0 ?_
          simp only [Act.put, List.setIfInBounds_toArray, List.set_cons_zero, List.set_cons_succ]
          refine tk_val 2 73 (.pointer (some ⟨bd, od + k, none⟩)) rfl (by kernel_rfl) (by kernel_rfl) (by kernel_rfl) (fun _ _ _ _ h => h) rfl rfl (fun _ _ => ev_index_int (.tmp 71) (.tmp 72) bd od 19 cd k rfl rfl rfl hlt) h0 ?_
          simp only [Act.put, List.setIfInBounds_toArray, List.set_cons_zero, List.set_cons_succ]
          refine tk_val 3 74 (.int .i64 (x : Int)) rfl (by kernel_rfl) (by kernel_rfl) (by kernel_rfl) (fun _ _ _ _ h => h) rfl rfl (fun ww h => ev_load_int (.tmp 73) bd (od + k) x rfl rfl (HCC.out ww h).1) h0 ?_
          simp only [Act.put, List.setIfInBounds_toArray, List.set_cons_zero, List.set_cons_succ]
          refine tk_move 4 75 (.tmp 17) (.slice (some ⟨bk, ok, none⟩) 19 ck) rfl (by kernel_rfl) (by kernel_rfl) (by kernel_rfl) (fun _ _ _ _ h => h) rfl rfl rfl rfl h0 ?_
          simp only [Act.put, List.setIfInBounds_toArray, List.set_cons_zero, List.set_cons_succ]
          refine tk_move 5 76 (.tmp 19) (.int .i64 k) rfl (by kernel_rfl) (by kernel_rfl) (by kernel_rfl) (fun _ _ _ _ h => h) rfl rfl rfl rfl h0 ?_
          simp only [Act.put, List.setIfInBounds_toArray, List.set_cons_zero, List.set_cons_succ]
          refine tk_val 6 77 (.pointer (some ⟨bk, ok + k, none⟩)) rfl (by kernel_rfl) (by kernel_rfl) (by kernel_rfl) (fun _ _ _ _ h => h) rfl rfl (fun _ _ => ev_index_int (.tmp 75) (.tmp 76) bk ok 19 ck k rfl rfl rfl hlt) h0 ?_
          simp only [Act.put, List.setIfInBounds_toArray, List.set_cons_zero, List.set_cons_succ]
          refine tk_val 7 78 (.int .i64 (y : Int)) rfl (by kernel_rfl) (by kernel_rfl) (by kernel_rfl) (fun _ _ _ _ h => h) rfl rfl (fun ww h => ev_load_int (.tmp 77) bk (ok + k) y rfl rfl (HCC.out ww h).2.1) h0 ?_
          simp only [Act.put, List.setIfInBounds_toArray, List.set_cons_zero, List.set_cons_succ]
          refine tk_val 8 79 (.bool (decide (x < y))) rfl (by kernel_rfl) (by kernel_rfl) (by kernel_rfl) (fun _ _ _ _ h => h) rfl rfl (fun _ _ => ev_lssN (.tmp 74) (.tmp 78) x y rfl rfl rfl) h0 ?_
          simp only [Act.put, List.setIfInBounds_toArray, List.set_cons_zero, List.set_cons_succ]
          refine tk_move 9 80 (.tmp 79) (.bool (decide (x < y))) rfl (by kernel_rfl) (by kernel_rfl) (by kernel_rfl) (fun _ _ _ _ h => h) rfl rfl rfl rfl h0 ?_
          simp only [Act.put, List.setIfInBounds_toArray, List.set_cons_zero, List.set_cons_succ]
          by_cases hxy : x < y
          case neg =>
            rw [decide_eq_false hxy]
            refine tkw_skip 10 81 rfl (by kernel_rfl) (by kernel_rfl) (by kernel_rfl) (fun _ _ _ _ h => h) (by kernel_rfl) rfl h0 ?_
            simp only [Act.put, List.setIfInBounds_toArray, List.set_cons_zero, List.set_cons_succ]
            refine tkw_skip 11 82 rfl (by kernel_rfl) (by kernel_rfl) (by kernel_rfl) (fun _ _ _ _ h => h) (by kernel_rfl) rfl h0 ?_
            simp only [Act.put, List.setIfInBounds_toArray, List.set_cons_zero, List.set_cons_succ]
            refine tkw_skip 12 83 rfl (by kernel_rfl) (by kernel_rfl) (by kernel_rfl) (fun _ _ _ _ h => h) (by kernel_rfl) rfl h0 ?_
            simp only [Act.put, List.setIfInBounds_toArray, List.set_cons_zero, List.set_cons_succ]
            refine tkw_skip 13 84 rfl (by kernel_rfl) (by kernel_rfl) (by kernel_rfl) (fun _ _ _ _ h => h) (by kernel_rfl) rfl h0 ?_
            simp only [Act.put, List.setIfInBounds_toArray, List.set_cons_zero, List.set_cons_succ]
            refine tkw_skip 14 85 rfl (by kernel_rfl) (by kernel_rfl) (by kernel_rfl) (fun _ _ _ _ h => h) (by kernel_rfl) rfl h0 ?_
            simp only [Act.put, List.setIfInBounds_toArray, List.set_cons_zero, List.set_cons_succ]
            refine tkw_skip 15 86 rfl (by kernel_rfl) (by kernel_rfl) (by kernel_rfl) (fun _ _ _ _ h => h) (by kernel_rfl) rfl h0 ?_
            simp only [Act.put, List.setIfInBounds_toArray, List.set_cons_zero, List.set_cons_succ]
            refine tkw_skip 16 87 rfl (by kernel_rfl) (by kernel_rfl) (by kernel_rfl) (fun _ _ _ _ h => h) (by kernel_rfl) rfl h0 ?_
            simp only [Act.put, List.setIfInBounds_toArray, List.set_cons_zero, List.set_cons_succ]
            refine tkw_skip 17 88 rfl (by kernel_rfl) (by kernel_rfl) (by kernel_rfl) (fun _ _ _ _ h => h) (by kernel_rfl) rfl h0 ?_
            simp only [Act.put, List.setIfInBounds_toArray, List.set_cons_zero, List.set_cons_succ]
            refine tkw_skip 18 89 rfl (by kernel_rfl) (by kernel_rfl) (by kernel_rfl) (fun _ _ _ _ h => h) (by kernel_rfl) rfl h0 ?_
            simp only [Act.put, List.setIfInBounds_toArray, List.set_cons_zero, List.set_cons_succ]
            refine tkw_skip 19 90 rfl (by kernel_rfl) (by kernel_rfl) (by kernel_rfl) (fun _ _ _ _ h => h) (by kernel_rfl) rfl h0 ?_
            simp only [Act.put, List.setIfInBounds_toArray, List.set_cons_zero, List.set_cons_succ]
            refine tkw_skip 20 91 rfl (by kernel_rfl) (by kernel_rfl) (by kernel_rfl) (fun _ _ _ _ h => h) (by kernel_rfl) rfl h0 ?_
            simp only [Act.put, List.setIfInBounds_toArray, List.set_cons_zero, List.set_cons_succ]
            refine tkw_skip 21 92 rfl (by kernel_rfl) (by kernel_rfl) (by kernel_rfl) (fun _ _ _ _ h => h) (by kernel_rfl) rfl h0 ?_
            simp only [Act.put, List.setIfInBounds_toArray, List.set_cons_zero, List.set_cons_succ]
            refine tkw_skip 22 93 rfl (by kernel_rfl) (by kernel_rfl) (by kernel_rfl) (fun _ _ _ _ h => h) (by kernel_rfl) rfl h0 ?_
            simp only [Act.put, List.setIfInBounds_toArray, List.set_cons_zero, List.set_cons_succ]
            refine tk_val 23 94 (.bool false) rfl (by kernel_rfl) (by kernel_rfl) (by kernel_rfl) (fun _ _ _ _ h => h) rfl rfl (fun _ _ => ev_pickF (.tmp 80) (.tmp 93) _ (.bool false) rfl rfl rfl) h0 ?_
            simp only [Act.put, List.setIfInBounds_toArray, List.set_cons_zero, List.set_cons_succ]
            refine wpAnyH_done (by kernel_rfl) (NoPanic.normal ?_) _
            have H0 := Lib.hid h0
            have HQ2 := Lib.hid (show ∀ j < k + 1, (dgl m).getD j 0 < Kn.getD j 0 → s.C.getD j [] ≠ (sgn (sdK sd s.i) m).getD j [] from fun j hj hlt' => by
              by_cases e : j = k
              · subst e; rw [HGD.out, HGK.out] at hlt'; exact absurd hlt' hxy
              · exact HQ.out j (by omega) hlt')
            clear h0 hxy
            go_wp2_with fail
            go_roundw
            case rel => exact ⟨k + 1, by go_num, by omega, H0, HQ2⟩
            case measure => simp [intOf]; omega
          rw [decide_eq_true hxy]
          refine tkw_val 10 81 (.pointer (some ⟨w.heap.size + 2, 1, none⟩)) rfl (by kernel_rfl) (by kernel_rfl) (by kernel_rfl) (fun _ _ _ _ h => h) (by kernel_rfl) rfl (fun ww h => ev_fieldL1 (.tmp 9) (w.heap.size + 2) s rfl rfl (KP.out ww h).1) h0 ?_
          simp only [Act.put, List.setIfInBounds_toArray, List.set_cons_zero, List.set_cons_succ]
          refine tkw_val 11 82 (.slice (some ⟨cb, co, none⟩) 19 s.cc) rfl (by kernel_rfl) (by kernel_rfl) (by kernel_rfl) (fun _ _ _ _ h => h) (by kernel_rfl) rfl (fun ww h => ev_loadS1 (.tmp 81) (w.heap.size + 2) 1 _ _ _ rfl rfl (HCC.out ww h).2.2.1) h0 ?_
          simp only [Act.put, List.setIfInBounds_toArray, List.set_cons_zero, List.set_cons_succ]
          refine tkw_val 12 83 (.int .i64 k) rfl (by kernel_rfl) (by kernel_rfl) (by kernel_rfl) (fun _ _ _ _ h => h) (by kernel_rfl) rfl (fun _ _ => ev_move (.tmp 19) (.int .i64 k) rfl rfl) h0 ?_
          simp only [Act.put, List.setIfInBounds_toArray, List.set_cons_zero, List.set_cons_succ]
          refine tkw_val 13 84 (.pointer (some ⟨cb, co + k * 32, none⟩)) rfl (by kernel_rfl) (by kernel_rfl) (by kernel_rfl) (fun _ _ _ _ h => h) (by kernel_rfl) rfl (fun _ _ => ev_index (.tmp 82) (.tmp 83) cb co 19 s.cc k rfl rfl rfl hlt) h0 ?_
          simp only [Act.put, List.setIfInBounds_toArray, List.set_cons_zero, List.set_cons_succ]
          refine tkw_load 14 85 (.tmp 84) cb (co + k * 32) d rfl (by kernel_rfl) (by kernel_rfl) (by kernel_rfl) (fun _ _ _ _ h => h) (by kernel_rfl) rfl rfl rfl (fun ww h => (HCC.out ww h).2.2.2.1) HD32.out h0 ?_
          simp only [Act.put, List.setIfInBounds_toArray, List.set_cons_zero, List.set_cons_succ]
          refine tkw_load 15 86 (.tmp 18) W10.heap.size (0) (sdK sd s.i) rfl (by kernel_rfl) (by kernel_rfl) (by kernel_rfl) (fun _ _ _ _ h => h) (by kernel_rfl) rfl rfl rfl (fun ww h => (KP.out ww h).2.1.range) HSL.out h0 ?_
          simp only [Act.put, List.setIfInBounds_toArray, List.set_cons_zero, List.set_cons_succ]
          refine tkw_val 16 87 (.int .i64 k) rfl (by kernel_rfl) (by kernel_rfl) (by kernel_rfl) (fun _ _ _ _ h => h) (by kernel_rfl) rfl (fun _ _ => ev_move (.tmp 19) (.int .i64 k) rfl rfl) h0 ?_
          simp only [Act.put, List.setIfInBounds_toArray, List.set_cons_zero, List.set_cons_succ]
          refine tkw_val 17 88 (.slice (some ⟨bd, od, none⟩) 19 cd) rfl (by kernel_rfl) (by kernel_rfl) (by kernel_rfl) (fun _ _ _ _ h => h) (by kernel_rfl) rfl (fun _ _ => ev_move (.tmp 16) (.slice (some ⟨bd, od, none⟩) 19 cd) rfl rfl) h0 ?_
          simp only [Act.put, List.setIfInBounds_toArray, List.set_cons_zero, List.set_cons_succ]
          refine tkw_val 18 89 (.int .i64 k) rfl (by kernel_rfl) (by kernel_rfl) (by kernel_rfl) (fun _ _ _ _ h => h) (by kernel_rfl) rfl (fun _ _ => ev_move (.tmp 19) (.int .i64 k) rfl rfl) h0 ?_
          simp only [Act.put, List.setIfInBounds_toArray, List.set_cons_zero, List.set_cons_succ]
          refine tkw_val 19 90 (.pointer (some ⟨bd, od + k, none⟩)) rfl (by kernel_rfl) (by kernel_rfl) (by kernel_rfl) (fun _ _ _ _ h => h) (by kernel_rfl) rfl (fun _ _ => ev_index_int (.tmp 88) (.tmp 89) bd od 19 cd k rfl rfl rfl hlt) h0 ?_
          simp only [Act.put, List.setIfInBounds_toArray, List.set_cons_zero, List.set_cons_succ]
          refine tkw_val 20 91 (.int .i64 (x : Int)) rfl (by kernel_rfl) (by kernel_rfl) (by kernel_rfl) (fun _ _ _ _ h => h) (by kernel_rfl) rfl (fun ww h => ev_load_int (.tmp 90) bd (od + k) x rfl rfl (HCC.out ww h).1) h0 ?_
          simp only [Act.put, List.setIfInBounds_toArray, List.set_cons_zero, List.set_cons_succ]
          have STEP2 := Lib.hid (show ∀ ww w', Below W11.heap.size W11 ww → Below ww.heap.size ww w' → Below W11.heap.size W11 w' from fun ww w' h1 h2 => h1.trans (h2.mono h1.size))
          refine lone 21 (by kernel_rfl) rfl (fun K hK => ?_)
          rw [if_pos (show Region.wanted _ _ = true from rfl)]
          refine wp_call 55 92 _ _ #[.agg (U (sdK sd s.i)).toArray, .int .i64 k, .int .i64 x] _ rfl rfl rfl enters_rElement (rElement_all (sdK sd s.i) k x V0 HSL.out (by omega) (by omega)) (fun e V1 hq => ?_)
          refine ⟨_, hq.1, ?_⟩
          have h1x := STEP2.out _ _ h0 hq.2
          refine hK _ _ h1x ?_
          simp only [Act.put, List.setIfInBounds_toArray, List.set_cons_zero, List.set_cons_succ]
          clear hK hq
          rw [← HGO.out]
          refine tkw_val 22 93 (.bool (decide (d = (sgn (sdK sd s.i) m).getD k []))) rfl (by kernel_rfl) (by kernel_rfl) (by kernel_rfl) (fun _ _ _ _ h => h) (by kernel_rfl) rfl (fun _ _ => ev_eqD (.tmp 85) (.tmp 92) d _ HD32.out (by rw [HGO.out]; exact sn_len _ _ (fst5_len _ _)) rfl rfl rfl) h1x ?_
          simp only [Act.put, List.setIfInBounds_toArray, List.set_cons_zero, List.set_cons_succ]
          refine tk_val 23 94 (.bool (decide (d = (sgn (sdK sd s.i) m).getD k []))) rfl (by kernel_rfl) (by kernel_rfl) (by kernel_rfl) (fun _ _ _ _ h => h) rfl rfl (fun _ _ => ev_pickT (.tmp 80) (.tmp 93) _ _ rfl rfl rfl) h1x ?_
          simp only [Act.put, List.setIfInBounds_toArray, List.set_cons_zero, List.set_cons_succ]
          refine wpAnyH_done (by kernel_rfl) (NoPanic.normal ?_) _
          have H0 := Lib.hid h1x
          have HXY := Lib.hid hxy
          clear h0 h1x hxy STEP2
          by_cases hde : d = (sgn (sdK sd s.i) m).getD k []
          · have HV := Lib.hid (show fgF f sd n G m s.i s.C s.P = (2, k) by rw [HNG.out]; exact exF_at _ _ _ _ _ HNE.out k hlt HQ.out (by rw [HGD.out, HGK.out]; exact HXY.out) (by rw [HGC.out]; exact hde))
            rw [decide_eq_true hde]
            have HBF := Lib.hid (KP.out _ H0.out).2.2.2.2.2
            clear hde
            go_wp2_with fail
            exact bodyPost_ret (results_tmp2 (t := 10) (u := 11) rfl _ _ _) rfl ⟨by rw [HV.out]; rfl, HBF.out⟩
          · rw [decide_eq_false hde]
            have HQ2 := Lib.hid (show ∀ j < k + 1, (dgl m).getD j 0 < Kn.getD j 0 → s.C.getD j [] ≠ (sgn (sdK sd s.i) m).getD j [] from fun j hj hlt' => by
              by_cases e : j = k
              · subst e; rw [HGC.out]; exact hde
              · exact HQ.out j (by omega) hlt')
            clear hde
            go_wp2_with fail
            go_roundw
            case rel => exact ⟨k + 1, by go_num, by omega, H0, HQ2⟩
            case measure => simp [intOf]; omega
        · obtain rfl : k = 19 := by omega
          have HV := Lib.hid (show fgF f sd n G m s.i s.C s.P = (3, 0) by rw [HNG.out]; exact exF_end _ _ _ _ _ HNE.out HQ.out)
          have HBF := Lib.hid (KP.out _ HBr.out).2.2.2.2.2
          go_wp2_with fail
          exact bodyPost_ret (results_tmp2 (t := 10) (u := 11) rfl _ _ _) rfl ⟨by rw [HV.out]; rfl, HBF.out⟩
end Go.Proofs.YteicbdjennjcdaaDoor
