/- Keys: KeysForged. -/
import Derived.Test.YteicbdjennjcdaaDoorW35
namespace Go.Proofs.YteicbdjennjcdaaDoor
set_option maxRecDepth 100000
open Go.RowKit

theorem freshD (w : World) : ∀ W, w.alloc (.cells (U (flb 32 [])).toArray 23) = W → RowB W w.heap.size 23 (flb 32 []) ∧ Below w.heap.size w W := fun W h => by
  subst h
  exact ⟨newD0 w, (Below.refl _ _).alloc (Nat.le_refl _) _⟩
theorem ev_indexI {o : Oper} {a : Act} {w : World} (x y : Operand) (b len cap K : Nat) (ho : o.op = .indexAddr 42 x y) (hx : a.eval x = .slice (some ⟨b, 0, none⟩) len cap) (hy : a.eval y = .int .i64 K) (hk : K < len) :
    (execOp a.eval o).run Tryd.prog w = .ok (.value (.pointer (some ⟨b, K, none⟩))) w := by
  have b1 : (K : Int) < len := by omega
  have b2 : (0 : Int) ≤ K := by omega
  unfold execOp
  simp only [ho, hx, hy]
  go_simp
theorem ev_loadI {o : Oper} {a : Act} {w : World} (x : Operand) (b ofs : Nat) (v : Int) (ho : o.op = .load 3 x) (hx : a.eval x = .pointer (some ⟨b, ofs, none⟩)) (hc : w.cell? ⟨b, ofs, none⟩ = some (.int .i64 v)) :
    (execOp a.eval o).run Tryd.prog w = .ok (.value (.int .i64 v)) w := by
  unfold execOp
  simp only [ho, hx]
  go_simp
theorem ev_eqN {o : Oper} {a : Act} {w : World} (x y : Operand) (p q : Nat) (r : Bool) (hr : decide (p = q) = r) (ho : o.op = .binOp .eql 3 x y 3) (hx : a.eval x = .int .i64 (p : Int)) (hy : a.eval y = .int .i64 (q : Int)) :
    (execOp a.eval o).run Tryd.prog w = .ok (.value (.bool r)) w := by
  have e : ((p : Int) == q) = r := by
    subst hr
    by_cases h : p = q
    · rw [decide_eq_true h, h]; simp
    · rw [decide_eq_false h]; simp; omega
  rw [← e]
  unfold execOp
  simp only [ho, hx, hy]
  go_simp
/-- the same so far -/
def smB (nz : Bool) (D E : List Nat) (k : Nat) : Bool := !nz && decide (∀ j, j < k → D.getD j 0 = E.getD j 0)
def shw (nz : Bool) (E : List Nat) (k : Nat) : List Nat := if nz = true then List.replicate k 3 ++ E.drop k else E
theorem smB_zero (nz : Bool) (D E : List Nat) : smB nz D E 0 = !nz := by
  unfold smB
  rw [decide_eq_true fun j hj => absurd hj (Nat.not_lt_zero j), Bool.and_true]
theorem smB_no {D E : List Nat} {k : Nat} (h : smB false D E k = false) : smB false D E (k + 1) = false := by
  unfold smB at h ⊢
  simp only [Bool.not_false, Bool.true_and, decide_eq_false_iff_not] at h ⊢
  exact fun h' => h fun j hj => h' j (by omega)
theorem smB_yes {D E : List Nat} {k : Nat} (h : smB false D E k = true) : smB false D E (k + 1) = decide (D.getD k 0 = E.getD k 0) := by
  unfold smB at h ⊢
  simp only [Bool.not_false, Bool.true_and, decide_eq_true_eq] at h ⊢
  refine decide_eq_decide.2 ⟨fun h' => h' k (by omega), fun h' j hj => ?_⟩
  by_cases e : j = k
  · rw [e]; exact h'
  · exact h j (by omega)
theorem getD_ext19 {D E : List Nat} (hD : D.length = 19) (hE : E.length = 19) (h : ∀ j, j < 19 → D.getD j 0 = E.getD j 0) : D = E := by
  refine List.ext_getElem (by omega) fun j h1 h2 => ?_
  have := h j (by omega)
  rwa [List.getD_eq_getElem?_getD, List.getD_eq_getElem?_getD, List.getElem?_eq_getElem h1, List.getElem?_eq_getElem h2] at this
theorem smB_end (nz : Bool) (D : List Nat) (b : List UInt8) (hD : D.length = 19) : smB nz D (dgl b) 19 = ((!nz) && decide (D = rvF b (!nz))) := by
  cases nz with
  | true => rfl
  | false =>
    unfold smB
    rw [show rvF b (!false) = dgl b from rfl]
    simp only [Bool.not_false, Bool.true_and]
    exact decide_eq_decide.2 ⟨fun h => getD_ext19 hD (dgl_len b) h, fun h j _ => by rw [h]⟩
theorem shw_end (nz : Bool) (b : List UInt8) : shw nz (dgl b) 19 = rvF b (!nz) := by
  cases nz with
  | true =>
    rw [shw, if_pos rfl, List.drop_of_length_le (by rw [dgl_len]; exact Nat.le_refl _), List.append_nil]
    rfl
  | false => rfl
theorem shw_set (b : List UInt8) (k : Nat) (h : k < 19) : (shw true (dgl b) k).set k 3 = shw true (dgl b) (k + 1) ∧ ∃ x, (shw true (dgl b) k)[k]? = some x := by
  have hdl : (dgl b).length = 19 := dgl_len b
  have hcat : (dgl b).drop k = (dgl b)[k]'(by omega) :: (dgl b).drop (k + 1) := List.drop_eq_getElem_cons (by omega)
  rw [shw, if_pos rfl, shw, if_pos rfl]
  refine ⟨?_, (dgl b)[k]'(by omega), ?_⟩
  · rw [List.set_append_right _ _ (by simp), hcat, List.length_replicate, Nat.sub_self, List.set_cons_zero, List.replicate_succ', List.append_assoc]
    rfl
  · rw [List.getElem?_append_right (by simp), hcat]
    simp
theorem ev_notB {o : Oper} {a : Act} {w : World} (x : Operand) (b : Bool) (ho : o.op = .unOp .not 4 x) (hx : a.eval x = .bool b) :
    (execOp a.eval o).run Tryd.prog w = .ok (.value (.bool (!b))) w := by
  unfold execOp
  simp only [ho, hx]
  go_simp
theorem ev_geq0 {o : Oper} {a : Act} {w : World} (x : Operand) (p : Nat) (ho : o.op = .binOp .geq 3 x (.const (.int .i64 0)) 3) (hx : a.eval x = .int .i64 (p : Int)) :
    (execOp a.eval o).run Tryd.prog w = .ok (.value (.bool true)) w := by
  have hy : a.eval (.const (.int .i64 0)) = .int .i64 0 := rfl
  have b1 : (0 : Int) ≤ p := by omega
  unfold execOp
  simp only [ho, hx, hy]
  go_simp
theorem enters_elem : Enters Tryd.prog 24 := enters_of Tryd.func24 (by kernel_rfl) rfl
theorem enters_way : Enters Tryd.prog 26 := enters_of Tryd.func26 (by kernel_rfl) rfl
theorem enters_collide : Enters Tryd.prog 25 := enters_of Tryd.func25 (by kernel_rfl) rfl
theorem climbS_small (f : Nat) : ∀ (d : List UInt8) (i n : Nat) (P : List (List UInt8)), d.length = 32 → (∀ x ∈ P, x.length = 32) → ∀ a ∈ climbS f d i n P, a.2.length ≤ 1000 ∧ a.1.size ≤ 1000 := by
  have hl : ∀ (P : List (List UInt8)), (∀ x ∈ P, x.length = 32) → (P.getLastD []).length ≤ 32 := fun P h => by
    by_cases h0 : 0 < P.length
    · rw [getLastD_len h h0]; exact Nat.le_refl _
    · rw [List.eq_nil_of_length_eq_zero (Nat.eq_zero_of_not_pos h0)]; decide
  have hL : leafT.size ≤ 1000 := by decide
  have hN : nodeT.size ≤ 1000 := by decide
  induction f with
  | zero =>
    intro d i n P hd _ a ha
    rw [climbS, List.mem_singleton] at ha
    subst ha
    exact ⟨by show d.length ≤ 1000; omega, hL⟩
  | succ f ih =>
    intro d i n P hd hP a ha
    have hP' : ∀ x ∈ P.dropLast, x.length = 32 := fun x hx => hP x (List.dropLast_subset _ hx)
    have h1 := hl P hP
    rw [climbS] at ha
    by_cases c1 : n ≤ 1
    · rw [if_pos c1, List.mem_singleton] at ha
      subst ha
      exact ⟨by show d.length ≤ 1000; omega, hL⟩
    · rw [if_neg c1] at ha
      by_cases c2 : i < hf n
      · rw [if_pos c2, List.mem_append, List.mem_singleton] at ha
        rcases ha with ha | rfl
        · exact ih d i (hf n) P.dropLast hd hP' a ha
        · exact ⟨by show (clm _ _ _ _ _ ++ P.getLastD []).length ≤ 1000; rw [List.length_append, clm_len]; omega, hN⟩
      · rw [if_neg c2, List.mem_append, List.mem_singleton] at ha
        rcases ha with ha | rfl
        · exact ih d (i - hf n) (n - hf n) P.dropLast hd hP' a ha
        · exact ⟨by show (P.getLastD [] ++ clm _ _ _ _ _).length ≤ 1000; rw [List.length_append, clm_len]; omega, hN⟩
theorem climbS_stp (f : Nat) : ∀ (d : List UInt8) (i n : Nat) (P : List (List UInt8)), (climbS f d i n P).length = stp f i n + 1 := by
  induction f with
  | zero => intros; rfl
  | succ f ih =>
    intro d i n P
    rw [climbS, stp]
    by_cases c1 : n ≤ 1
    · rw [if_pos c1, if_pos c1]; rfl
    · rw [if_neg c1, if_neg c1]
      by_cases c2 : i < hf n
      · rw [if_pos c2, if_pos c2, List.length_append, ih, Nat.add_comm 1]; rfl
      · rw [if_neg c2, if_neg c2, List.length_append, ih, Nat.add_comm 1]; rfl
theorem wayS_len (f : Nat) (C : List (List UInt8)) (D : List Nat) (i n : Nat) (P : List (List UInt8)) : (wayS f C D i n P).length = 57 + 1 + (stp f i n + 1) := by
  rw [wayS, List.length_append, List.length_append, chainsS_len, climbS_stp]
  rfl
theorem sn_le (n : Nat) (x : List UInt8) (h : x.length ≤ 32) : (sn n x).length ≤ 32 := by
  cases n with
  | zero => exact h
  | succ n => rw [sn, sd, tagd_len]; exact Nat.le_refl _
theorem flatW_len : ∀ (L : List (List UInt8)), (∀ x ∈ L, x.length = 32) → L.flatten.length = 32 * L.length
  | [], _ => rfl
  | x :: L, h => by
    rw [List.flatten_cons, List.length_append, h x (List.mem_cons_self ..), flatW_len L fun y hy => h y (List.mem_cons_of_mem _ hy), List.length_cons]
    omega
theorem wayS_small (f : Nat) (C : List (List UInt8)) (D : List Nat) (i n : Nat) (P : List (List UInt8)) (hC19 : C.length = 19) (hC : ∀ x ∈ C, x.length = 32) (hP : ∀ x ∈ P, x.length = 32) : ∀ a ∈ wayS f C D i n P, a.2.length ≤ 1000 ∧ a.1.size ≤ 1000 := by
  intro a ha
  rw [wayS, List.mem_append, List.mem_append, List.mem_singleton] at ha
  have hT : stepT.size ≤ 1000 := by decide
  have hU : publicT.size ≤ 1000 := by decide
  rcases ha with (ha | rfl) | ha
  · rw [chainsS, List.mem_flatMap] at ha
    obtain ⟨j, hj, ha⟩ := ha
    rw [chainS, List.mem_map] at ha
    obtain ⟨t, _, rfl⟩ := ha
    have hx : (C.getD j []).length ≤ 32 := by
      have hj' := List.mem_range.1 hj
      rw [List.getD_eq_getElem?_getD, List.getElem?_eq_getElem (by omega)]
      exact Nat.le_of_eq (hC _ (List.getElem_mem _))
    split
    · exact ⟨Nat.zero_le _, by decide⟩
    · have := sn_le (t - D.getD j 0) _ hx
      exact ⟨by show (sn _ _).length ≤ 1000; omega, hT⟩
  · have : (endsS C D 19).flatten.length = 32 * (endsS C D 19).length := flatW_len _ (rc_dig C (lft D) hC 19 (by omega))
    have h2 : (endsS C D 19).length = 19 := by rw [endsS, rc_len]
    exact ⟨by show (endsS C D 19).flatten.length ≤ 1000; omega, hU⟩
  · exact climbS_small f _ i n P (pubk_len _) hP a ha

set_option maxHeartbeats 12800000 in
theorem forged_all (sd : List UInt8) (n : Int) (G : List (List UInt8)) (gA : Option Addr) (gc : Nat) (m : List UInt8) (s : Lf) (w : World) (_h1 : -9223372036854775808 ≤ n) (_h2 : n ≤ 9223372036854775807) (hs : sd.length = 32) (hG : DL w (· < w.heap.size) G gA gc) (hm : m.length = 32) (hi : -9223372036854775808 ≤ s.i ∧ s.i ≤ 9223372036854775807) (hok : s.ok w (· < w.heap.size)) (hk : KR w Kt) :
    Calls Tryd.prog 6 #[.agg (U sd).toArray, .int .i64 n, .slice gA G.length gc, .agg (U m).toArray, .agg s.cs] w fun e w' => e = .returned (.bool true) ∧ Below w.heap.size w w' := by
  obtain ⟨f, hf⟩ : ∃ f, f = 1099511627776 := ⟨_, rfl⟩
  have HS := Lib.hid hs
  have HM := Lib.hid hm
  have HF := Lib.hid hf
  have HI := Lib.hid hi
  have hlt0 := hk.lt
  go_enter Tryd.func6, Tryd.ntmps6
  go_upto_region 1 with fail
  generalize hW1 : ((w.alloc _).alloc _).alloc _ = W1
  obtain ⟨b1, b2, b3, hb1, hz1⟩ := box3L w sd m s W1 hW1
  have KEEP := Lib.hid (show ∀ ww, Below W1.heap.size W1 ww → RowB ww w.heap.size 23 sd ∧ RowB ww (w.heap.size + 1) 23 m ∧ BxL ww (w.heap.size + 2) s ∧ KR ww Kt ∧ s.ok ww (· < ww.heap.size) ∧ DL ww (· < ww.heap.size) G gA gc ∧ Below w.heap.size w ww from fun ww h =>
    ⟨(h.block _ (by omega)).trans b1, (h.block _ (by omega)).trans b2, b3.keep (h.block _ (by omega)), hk.keep ((h.block 0 (by omega)).trans (hb1.block 0 hlt0)), hok1 (hok1 hok hb1) h, hG.keep fun i hi => ⟨by have := h.size; omega, (h.block i (by omega)).trans (hb1.block i hi)⟩, hb1.trans (h.mono hb1.size)⟩)
  have STEP := Lib.hid (show ∀ ww w', Below W1.heap.size W1 ww → Below ww.heap.size ww w' → Below W1.heap.size W1 w' from fun ww w' h1 h2 => h1.trans (h2.mono h1.size))
  have hx1 : Below W1.heap.size W1 W1 := Below.refl _ _
  clear hW1 b1 b2 b3 hb1 hz1 hs hm hf hok hk hG hi
  go_wp2_with fail
  refine (sane_all f HF.out W1 (KEEP.out _ hx1).2.2.2.1).mono ?_
  rintro e w2 ⟨rfl, hb2⟩
  have hx2 := STEP.out _ _ hx1 hb2
  clear hb2 hx1
  have r3 := (KEEP.out _ hx2).2.2.1
  go_wp2_with (refine load_L rfl (.tmp 9) rfl (w.heap.size + 2) s rfl r3 ?_)
  refine (rFew_all n s w2).mono ?_
  rintro e w3 ⟨rfl, hb3⟩
  have hx3 := STEP.out _ _ hx2 hb3
  have HB3 := Lib.hid (KEEP.out _ hx3).2.2.2.2.2.2
  clear hb3 r3 hx2
  obtain ⟨fw, hfw⟩ : ∃ fw, fewB n s = fw := ⟨_, rfl⟩
  rw [hfw]
  cases fw with
  | false =>
    go_wp2_with fail
    go_ret
    exact ⟨rfl, HB3.out⟩
  | true =>
    obtain ⟨_, _, hPl⟩ := few_len hfw
    have hP : s.P.length ≤ 1099511627776 := by omega
    have HPL := Lib.hid hPl
    clear hfw hPl
    by_cases h2 : (20 : Int) < G.length
    · go_wp2_with fail
      go_ret
      exact ⟨rfl, HB3.out⟩
    obtain ⟨p1, p2, p3, p4, p5, p6, _⟩ := KEEP.out _ hx3
    have C := Lib.hid (Forged_all f HF.out sd m n G gA gc s w3 HS.out HM.out HI.out p6 p5 hP p4)
    clear p4 p5 p6 HB3
    go_wp2_with (first
      | (refine load_B rfl (.tmp 5) rfl w.heap.size rfl 23 sd p1 HS.out ?_)
      | (refine load_B rfl (.tmp 8) rfl (w.heap.size + 1) rfl 23 m p2 HM.out ?_)
      | (refine load_L rfl (.tmp 9) rfl (w.heap.size + 2) s rfl p3 ?_))
    refine C.out.mono ?_
    rintro e w4 ⟨rfl, hb4⟩
    have hx4 := STEP.out _ _ hx3 hb4
    clear hb4 hx3 p1 p2 p3 C
    obtain ⟨⟨kd, ch⟩, hX⟩ : ∃ X, fgF f sd n G m s.i s.C s.P = X := ⟨_, rfl⟩
    have HX := Lib.hid hX
    rw [hX]
    clear hX
    obtain ⟨p1, _, _, p4, _⟩ := KEEP.out _ hx4
    have C := Lib.hid (Root_all f HF.out sd n w4 HS.out p4)
    clear p4
    go_wp2_with (refine load_B rfl (.tmp 5) rfl w.heap.size rfl 23 sd p1 HS.out ?_)
    refine C.out.mono ?_
    rintro e w5 ⟨rfl, hb5⟩
    have hx5 := STEP.out _ _ hx4 hb5
    clear hb5 hx4 p1 C
    have HRL := Lib.hid (rtd_len f sd n)
    have n0 := newD0 w5
    have HG := Lib.hid (newD w5 (rtd f sd n))
    go_upto_region 7 with (refine store_B rfl (.tmp 13) (.tmp 48) rfl w5.heap.size (flb 32 []) (rtd f sd n) rfl rfl 23 n0 HRL.out (by simp [flb]) ?_)
    generalize hW6 : World.setRow _ _ _ = w6
    obtain ⟨r13, hb6⟩ := HG.out w6 hW6
    have hx6 := STEP.out _ _ hx5 hb6
    have HB6 := Lib.hid (KEEP.out _ hx6).2.2.2.2.2.2
    clear hW6 HG n0 hb6 hx5
    by_cases hE : rte n = 0
    case neg =>
      have hz := HX.out.symm.trans (show fgF f sd n G m s.i s.C s.P = (0, 0) from if_neg fun h => hE h.1)
      injection hz with z1 z2
      subst z1 z2
      clear HX r13
      go_wp2_with fail
      go_ret
      exact ⟨rfl, HB6.out⟩
    have HE := Lib.hid hE
    rw [hE]
    clear hE
    obtain ⟨_, p2, p3, p4, p5, _, _⟩ := KEEP.out _ hx6
    have CV := Lib.hid (Verify_all f HF.out (rtd f sd n) m n s w6 HRL.out HM.out p5 hP p4)
    clear p4 p5
    go_wp2_with (first
      | (refine load_Bw (by kernel_rfl) (.tmp 13) rfl w5.heap.size rfl 23 (rtd f sd n) r13 HRL.out ?_)
      | (refine load_Bw (by kernel_rfl) (.tmp 8) rfl (w.heap.size + 1) rfl 23 m p2 HM.out ?_)
      | (refine load_Lb (by kernel_rfl) (.tmp 9) rfl (w.heap.size + 2) s rfl p3 ?_))
    refine CV.out.mono ?_
    rintro e w7 ⟨rfl, hb7⟩
    have hx7 := STEP.out _ _ hx6 hb7
    have HB7 := Lib.hid (KEEP.out _ hx7).2.2.2.2.2.2
    clear CV hb7 p2 p3 r13 hx6 HB6
    by_cases hV : verF f (rtd f sd n) m n s.i s.C s.P = 0
    case neg =>
      have hz := HX.out.symm.trans (show fgF f sd n G m s.i s.C s.P = (0, 0) from if_neg fun h => hV h.2)
      injection hz with z1 z2
      subst z1 z2
      clear HX
      generalize verF f (rtd f sd n) m n s.i s.C s.P = V at *
      go_wp2_with fail
      go_ret
      exact ⟨rfl, HB7.out⟩
    have hFG : (kd, ch) = if ¬ mgF G s.i = z32 ∧ mgF G s.i = m then (0, 0) else exF (dgl m) (rvF (mgF G s.i) (!decide (mgF G s.i = z32))) (!decide (mgF G s.i = z32)) s.C (sgn (sdK sd s.i) m) := HX.out.symm.trans (if_pos ⟨HE.out, hV⟩)
    have hVO := VerOk_of hV
    rw [hV]
    obtain ⟨⟨hn1, hn2⟩, ⟨hi1, hi2⟩, hC19, _, _⟩ := id hVO
    obtain ⟨n, rfl⟩ : ∃ k : Nat, n = k := ⟨n.toNat, by omega⟩
    obtain ⟨i, hi⟩ : ∃ k : Nat, s.i = k := ⟨s.i.toNat, by omega⟩
    rw [hi] at hVO hFG hi2
    have HVO := Lib.hid hVO
    have HFG := Lib.hid hFG
    have HC19 := Lib.hid hC19
    have HIi := Lib.hid hi
    have hin : i < n := by omega
    have hn256 : n ≤ 256 := by omega
    have K0 := Lib.hid (show ∀ ww, Below W1.heap.size W1 ww → ww.cell? ⟨w.heap.size + 2, 0, none⟩ = some (.int .i64 (i : Int)) ∧ ww.cell? ⟨w.heap.size + 2, 1, none⟩ = some (.slice s.cA 19 s.cc) ∧ ww.cell? ⟨w.heap.size + 2, 2, none⟩ = some (.slice s.pA s.P.length s.pc) from fun ww h => by
      have q := (KEEP.out ww h).2.2.1
      have c0 := q.c0
      have c1 := q.c1
      rw [hi] at c0
      rw [hC19] at c1
      exact ⟨c0, c1, q.c2⟩)
    clear hV hFG hVO hn1 hn2 hi1 hi2 hC19 hi HX HE
    have HGL := Lib.hid (mgF_len G (i : Int) (KEEP.out _ hx7).2.2.2.2.2.1.2.2.2.1 (by omega))
    go_upto_region 10 with fail
    have HN := Lib.hid (freshD w7)
    generalize hW8 : World.alloc w7 _ = w8
    obtain ⟨n15, hb8⟩ := HN.out w8 hW8
    have hx8 := STEP.out _ _ hx7 hb8
    have hz8 : W1.heap.size ≤ w7.heap.size := hx7.size
    clear hW8 HN hb8 hx7 HB7
    have c00 := (K0.out _ hx8).1
    go_upto_if 70 with fail
    clear c00
    go_cut [] from 66 to 75 (fun wx => RowB wx w7.heap.size 23 (mgF G (i : Int)) ∧ Below W1.heap.size W1 wx)
    case first =>
      obtain ⟨c0, _, _⟩ := K0.out _ hx8
      by_cases hlt : i < G.length
      · have b1 : (i : Int) < G.length := by omega
        obtain ⟨gb, gof, hgA, _, hgc⟩ := (KEEP.out _ hx8).2.2.2.2.2.1.2.2.2.2 (by omega)
        subst hgA
        obtain ⟨d, hd⟩ : ∃ d, G[i]? = some d := ⟨_, List.getElem?_eq_getElem hlt⟩
        have hrd := hgc i d hd
        have HD32 := Lib.hid ((KEEP.out _ hx8).2.2.2.2.2.1.2.2.2.1 d (List.mem_of_getElem? hd))
        have HMG := Lib.hid (show mgF G (i : Int) = d by rw [mgF, if_pos b1, Int.toNat_natCast, List.getD_eq_getElem?_getD, hd]; rfl)
        clear hd hgc
        go_wp2_with (first
          | (refine wl_val rfl (.pointer (some ⟨gb, gof + i * 32, none⟩)) (ev_index (.tmp 71) (.tmp 73) gb gof G.length gc i rfl rfl rfl hlt) ?_)
          | (refine wl_val rfl (.agg (U d).toArray) (ev_loadD (.tmp 74) gb (gof + i * 32) d rfl rfl hrd HD32.out) ?_)
          | (refine store_B rfl (.tmp 15) (.tmp 75) rfl w7.heap.size (flb 32 []) d rfl rfl 23 n15 HD32.out (by simp [flb]) ?_))
        go_meet
        exact ⟨by rw [HMG.out]; exact n15.setRow _, below_setRow hx8 hz8 _⟩
      · have b1 : ¬ (i : Int) < G.length := by omega
        have HMG := Lib.hid (show mgF G (i : Int) = z32 by rw [mgF, if_neg b1])
        have H8 := Lib.hid (show RowB w8 w7.heap.size 23 z32 from n15)
        have HX8 := Lib.hid hx8
        clear n15 hx8
        go_wp2_with fail
        go_meet
        exact ⟨by rw [HMG.out]; exact H8.out, HX8.out⟩
    case rest =>
      obtain ⟨r15, hx9⟩ := hcut
      obtain ⟨w9, hw9⟩ : ∃ x, x = wc := ⟨_, rfl⟩
      subst hw9
      clear n15 hx8
      obtain ⟨g, hg⟩ : ∃ g, mgF G (i : Int) = g := ⟨_, rfl⟩
      rw [hg] at r15 HGL HFG
      clear hg
      obtain ⟨nz, hnz⟩ : ∃ b, decide (g = z32) = b := ⟨_, rfl⟩
      have HNZ := Lib.hid hnz
      rw [hnz] at HFG
      clear hnz
      obtain ⟨q, hq⟩ : ∃ b, decide (g = m) = b := ⟨_, rfl⟩
      have HQ := Lib.hid hq
      clear hq
      have HZ : Hid (z32.length = 32) := Lib.hid rfl
      obtain ⟨_, p2, _⟩ := KEEP.out _ hx9
      go_upto_region 13 with (first
        | (refine load_B rfl (.tmp 15) rfl w7.heap.size rfl 23 g r15 HGL.out ?_)
        | (refine wl_eqD rfl (.tmp 76) (.tmp 77) g z32 HGL.out HZ.out rfl rfl rfl ?_; rw [HNZ.out]))
      go_cut [85] from 79 to 85 (fun c wx => c = .bool (q && !nz) ∧ RowB wx w7.heap.size 23 g ∧ Below W1.heap.size W1 wx)
      case first =>
        have HR15 := Lib.hid r15
        have HX9 := Lib.hid hx9
        clear hx9
        cases q <;> cases nz
        all_goals
          go_wp2_with (first
            | (refine load_B rfl (.tmp 15) rfl w7.heap.size rfl 23 g r15 HGL.out ?_)
            | (refine load_B rfl (.tmp 8) rfl (w.heap.size + 1) rfl 23 m p2 HM.out ?_)
            | (refine wl_eqD rfl (.tmp 79) (.tmp 80) g m HGL.out HM.out rfl rfl rfl ?_; rw [HQ.out]))
          go_meet
          exact ⟨rfl, HR15.out, HX9.out⟩
      case rest =>
        obtain ⟨rfl, r15, hx10⟩ := hcut
        obtain ⟨w10, hw10⟩ : ∃ x, x = wc := ⟨_, rfl⟩
        subst hw10
        clear hx9 p2
        by_cases hc : (q && !nz) = true
        · have hz := HFG.out.trans (if_pos (by
            simp only [Bool.and_eq_true, Bool.not_eq_true'] at hc
            exact ⟨of_decide_eq_false (HNZ.out.trans hc.2), of_decide_eq_true (HQ.out.trans hc.1)⟩))
          injection hz with z1 z2
          subst z1 z2
          have HB10 := Lib.hid (KEEP.out _ hx10).2.2.2.2.2.2
          rw [hc]
          clear hc HFG r15 hx10
          go_wp2_with fail
          go_ret
          exact ⟨rfl, HB10.out⟩
        have HEX := Lib.hid (show (kd, ch) = exF (dgl m) (rvF g (!nz)) (!nz) s.C (sgn (sdK sd i) m) from HFG.out.trans (if_neg fun h => hc (by
          rw [← HQ.out, ← HNZ.out, decide_eq_true h.2, decide_eq_false h.1]
          rfl)))
        rw [Bool.eq_false_iff.2 hc]
        clear hc HFG HQ HZ
        have hW10 := hx10.size
        have KB := Lib.hid (show ∀ ww, Below w10.heap.size w10 ww → ww.rangeAt (w.heap.size + 1) 0 (U m) ∧ ww.rangeAt w7.heap.size 0 (U g) ∧ Below W1.heap.size W1 ww from fun ww h =>
          ⟨(KEEP.out ww (hx10.trans (h.mono hW10))).2.1.range, (r15.keep (h.block _ r15.lt)).range, hx10.trans (h.mono hW10)⟩)
        have SB := Lib.hid (show ∀ ww w', Below w10.heap.size w10 ww → Below ww.heap.size ww w' → Below w10.heap.size w10 w' from fun ww w' h1 h2 => h1.trans (h2.mono h1.size))
        have HX10 := Lib.hid hx10
        clear r15 hx10
        go_upto_region 15 with fail
        go_cut [17, 18] from 92 to 95 (fun x y wx => ∃ g7 g8 : Nat, x = .slice (some ⟨g7, 0, none⟩) 19 19 ∧ y = .slice (some ⟨g8, 0, none⟩) 19 19 ∧ RowN wx g7 75 (dgl m) ∧ RowN wx g8 75 (dgl g) ∧ w10.heap.size ≤ g7 ∧ g7 < g8 ∧ Below w10.heap.size w10 wx)
        case first =>
          refine wp_region_noPanic ?_
          have h0 : Below w10.heap.size w10 w10.drew := (Below.refl _ _).drew
          refine wp_region_held_drew (S := fun ww => Below w10.heap.size w10 ww) (by kernel_rfl) h0 (fun _ => ?_)
          generalize w10.drew = V0 at h0 ⊢
          refine tk_load 0 92 (.tmp 8) (w.heap.size + 1) (0) m rfl (by kernel_rfl) (by kernel_rfl) (by kernel_rfl) (fun _ _ _ _ h => h) rfl rfl rfl rfl (fun ww h => (KB.out ww h).1) HM.out h0 ?_
          simp only [Act.put, List.setIfInBounds_toArray, List.set_cons_zero, List.set_cons_succ]
          refine tk_load 2 94 (.tmp 15) w7.heap.size (0) g rfl (by kernel_rfl) (by kernel_rfl) (by kernel_rfl) (fun _ _ _ _ h => h) rfl rfl rfl rfl (fun ww h => (KB.out ww h).2.1) HGL.out h0 ?_
          simp only [Act.put, List.setIfInBounds_toArray, List.set_cons_zero, List.set_cons_succ]
          refine lone 1 (by kernel_rfl) rfl (fun K hK => to_call 23 93 _ _ #[.agg (U m).toArray] _ rfl rfl rfl rfl enters_Digits (Digits_all m _ HM.out) (fun e V1 hq => ?_))
          obtain ⟨g7, rfl, hr7, hg7, hb7⟩ := hq
          refine ⟨_, rfl, ?_⟩
          have h1 := SB.out _ _ h0 hb7
          refine hK _ _ h1 ?_
          simp only [Act.put, List.setIfInBounds_toArray, List.set_cons_zero, List.set_cons_succ]
          clear hK
          refine lone 3 (by kernel_rfl) rfl (fun K hK => to_call 23 95 _ _ #[.agg (U g).toArray] _ rfl rfl rfl rfl enters_Digits (Digits_all g _ HGL.out) (fun e V2 hq => ?_))
          obtain ⟨g8, rfl, hr8, hg8, hb8⟩ := hq
          refine ⟨_, rfl, ?_⟩
          have h2 := SB.out _ _ h1 hb8
          refine hK _ _ h2 ?_
          simp only [Act.put, List.setIfInBounds_toArray, List.set_cons_zero, List.set_cons_succ]
          clear hK
          refine tk_assign 4 17 (.tmp 93) (.slice (some ⟨g7, 0, none⟩) 19 19) rfl (by kernel_rfl) (by kernel_rfl) (by kernel_rfl) (fun _ _ _ _ h => h) rfl rfl rfl rfl h2 ?_
          simp only [Act.put, List.setIfInBounds_toArray, List.set_cons_zero, List.set_cons_succ]
          refine tk_assign 5 18 (.tmp 95) (.slice (some ⟨g8, 0, none⟩) 19 19) rfl (by kernel_rfl) (by kernel_rfl) (by kernel_rfl) (fun _ _ _ _ h => h) rfl rfl rfl rfl h2 ?_
          simp only [Act.put, List.setIfInBounds_toArray, List.set_cons_zero, List.set_cons_succ]
          refine wpAnyH_done (by kernel_rfl) (NoPanic.normal ?_) _
          have hlt7 := hr7.lt
          have R7 := Lib.hid (hr7.keep (hb8.block _ hlt7))
          have R8 := Lib.hid hr8
          have H2 := Lib.hid h2
          have hz0 := h0.size
          clear hr7 hr8 hb7 hb8 h0 h1 h2
          go_wp2_with fail
          go_meet
          exact ⟨g7, g8, rfl, rfl, R7.out, R8.out, by omega, by omega, H2.out⟩
        case rest =>
          obtain ⟨g7, g8, rfl, rfl, r7, r8, hg7, hg8, hb11⟩ := hcut
          obtain ⟨w11, hw11⟩ : ∃ x, x = wc := ⟨_, rfl⟩
          subst hw11
          have hx11 := HX10.out.trans (hb11.mono hW10)
          clear KB SB HX10 hb11
          have hl7 : W1.heap.size ≤ g7 := by omega
          have hl8 : W1.heap.size ≤ g8 := by omega
          have h78 : g7 ≠ g8 := by omega
          have HDL := Lib.hid (dgl_len m)
          have HGD := Lib.hid (dgl_len g)
          obtain ⟨c0, c1, c2⟩ := K0.out _ hx11
          have HR7 := Lib.hid r7
          have HR8 := Lib.hid (show RowN w11 g8 75 (shw nz (dgl g) 0) from by
            cases nz with
            | true => exact r8
            | false => exact r8)
          have HX11 := Lib.hid hx11
          have HS0 := Lib.hid (smB_zero nz (dgl m) (dgl g))
          clear r7 r8 hx11 hg7 hg8 hz8 c0 c2
          go_wp2_with fail
          clear c1
          go_loopw [19, 114] (fun x y wr => ∃ k : Nat, y = .int .i64 k ∧ k ≤ 19 ∧ x = .bool (smB nz (dgl m) (dgl g) k) ∧ Hid (RowN wr g7 75 (dgl m)) ∧ Hid (RowN wr g8 75 (shw nz (dgl g) k)) ∧ Hid (Below W1.heap.size W1 wr)) (fun _ y _ => 19 - (intOf y).toNat)
          case atStart => exact ⟨0, rfl, by omega, by rw [HS0.out], HR7, HR8, HX11⟩
          case round =>
            obtain ⟨k, rfl, hk, rfl, Q7, Q8, QX⟩ := hrel
            by_cases hlt : k < 19
            · have b1 : (k : Int) < 19 := by omega
              cases nz with
              | true =>
                obtain ⟨hset, x, hx⟩ := shw_set g k hlt
                have hc := Q8.out.cell hx
                have hf := Q8.out.frozen k
                have hs := Q8.out.set k 3
                rw [hset] at hs
                have N8 := Lib.hid hs
                have N7 := Lib.hid (show RowN (wr.setCell ⟨g8, k, none⟩ (.int .i64 ((3 : Nat) : Int))) g7 75 (dgl m) from Q7.out.keep (Below.heap_setCell _ _ _ _ h78))
                have NX := Lib.hid (show Below W1.heap.size W1 (wr.setCell ⟨g8, k, none⟩ (.int .i64 ((3 : Nat) : Int))) from Below.setCell QX.out hl8 _)
                clear hset hx hs
                rw [show smB true (dgl m) (dgl g) k = false from rfl]
                go_upto_region 24 with fail
                clear hc hf
                refine wp_region_noPanic ?_
                have h0 : (fun ww => Below W1.heap.size W1 ww ∧ RowN ww g7 75 (dgl m) ∧ RowN ww g8 75 (shw true (dgl g) (k + 1))) (wr.setCell ⟨g8, k, none⟩ (.int .i64 3)).drew := ⟨NX.out.drew, N7.out, N8.out⟩
                refine wp_region_held_drew (S := fun ww => Below W1.heap.size W1 ww ∧ RowN ww g7 75 (dgl m) ∧ RowN ww g8 75 (shw true (dgl g) (k + 1))) (by kernel_rfl) h0 (fun _ => ?_)
                generalize (wr.setCell ⟨g8, k, none⟩ (.int .i64 3)).drew = V0 at h0 ⊢
                refine tk_move 0 121 (.tmp 19) (.bool false) rfl (by kernel_rfl) (by kernel_rfl) (by kernel_rfl) (fun _ _ _ _ h => h) rfl rfl rfl rfl h0 ?_
                simp only [Act.put, List.setIfInBounds_toArray, List.set_cons_zero, List.set_cons_succ]
                refine tk_move 1 122 (.tmp 121) (.bool false) rfl (by kernel_rfl) (by kernel_rfl) (by kernel_rfl) (fun _ _ _ _ h => h) rfl rfl rfl rfl h0 ?_
                simp only [Act.put, List.setIfInBounds_toArray, List.set_cons_zero, List.set_cons_succ]
                refine tkw_skip 2 123 rfl (by kernel_rfl) (by kernel_rfl) (by kernel_rfl) (fun _ _ _ _ h => h) (by kernel_rfl) rfl h0 ?_
                simp only [Act.put, List.setIfInBounds_toArray, List.set_cons_zero, List.set_cons_succ]
                refine tkw_skip 3 124 rfl (by kernel_rfl) (by kernel_rfl) (by kernel_rfl) (fun _ _ _ _ h => h) (by kernel_rfl) rfl h0 ?_
                simp only [Act.put, List.setIfInBounds_toArray, List.set_cons_zero, List.set_cons_succ]
                refine tkw_skip 4 125 rfl (by kernel_rfl) (by kernel_rfl) (by kernel_rfl) (fun _ _ _ _ h => h) (by kernel_rfl) rfl h0 ?_
                simp only [Act.put, List.setIfInBounds_toArray, List.set_cons_zero, List.set_cons_succ]
                refine tkw_skip 5 126 rfl (by kernel_rfl) (by kernel_rfl) (by kernel_rfl) (fun _ _ _ _ h => h) (by kernel_rfl) rfl h0 ?_
                simp only [Act.put, List.setIfInBounds_toArray, List.set_cons_zero, List.set_cons_succ]
                refine tkw_skip 6 127 rfl (by kernel_rfl) (by kernel_rfl) (by kernel_rfl) (fun _ _ _ _ h => h) (by kernel_rfl) rfl h0 ?_
                simp only [Act.put, List.setIfInBounds_toArray, List.set_cons_zero, List.set_cons_succ]
                refine tkw_skip 7 128 rfl (by kernel_rfl) (by kernel_rfl) (by kernel_rfl) (fun _ _ _ _ h => h) (by kernel_rfl) rfl h0 ?_
                simp only [Act.put, List.setIfInBounds_toArray, List.set_cons_zero, List.set_cons_succ]
                refine tkw_skip 8 129 rfl (by kernel_rfl) (by kernel_rfl) (by kernel_rfl) (fun _ _ _ _ h => h) (by kernel_rfl) rfl h0 ?_
                simp only [Act.put, List.setIfInBounds_toArray, List.set_cons_zero, List.set_cons_succ]
                refine tkw_skip 9 130 rfl (by kernel_rfl) (by kernel_rfl) (by kernel_rfl) (fun _ _ _ _ h => h) (by kernel_rfl) rfl h0 ?_
                simp only [Act.put, List.setIfInBounds_toArray, List.set_cons_zero, List.set_cons_succ]
                refine tkw_skip 10 131 rfl (by kernel_rfl) (by kernel_rfl) (by kernel_rfl) (fun _ _ _ _ h => h) (by kernel_rfl) rfl h0 ?_
                simp only [Act.put, List.setIfInBounds_toArray, List.set_cons_zero, List.set_cons_succ]
                refine tk_val 11 132 (.bool false) rfl (by kernel_rfl) (by kernel_rfl) (by kernel_rfl) (fun _ _ _ _ h => h) rfl rfl (fun _ _ => ev_pickF (.tmp 122) (.tmp 131) (.const (.bool false)) _ rfl rfl rfl) h0 ?_
                simp only [Act.put, List.setIfInBounds_toArray, List.set_cons_zero, List.set_cons_succ]
                refine tk_assign 12 19 (.tmp 132) (.bool false) rfl (by kernel_rfl) (by kernel_rfl) (by kernel_rfl) (fun _ _ _ _ h => h) rfl rfl rfl rfl h0 ?_
                simp only [Act.put, List.setIfInBounds_toArray, List.set_cons_zero, List.set_cons_succ]
                refine wpAnyH_done (by kernel_rfl) (NoPanic.normal ?_) _
                have H0 := Lib.hid h0
                clear h0
                go_wp2_with fail
                go_roundw
                case rel => exact ⟨k + 1, by go_num, by omega, rfl, Lib.hid H0.out.2.1, Lib.hid H0.out.2.2, Lib.hid H0.out.1⟩
                case measure => simp [intOf]; omega
              | false =>
                obtain ⟨x, hx⟩ : ∃ x, (dgl m)[k]? = some x := ⟨_, List.getElem?_eq_getElem (by rw [HDL.out]; exact hlt)⟩
                obtain ⟨y, hy⟩ : ∃ y, (dgl g)[k]? = some y := ⟨_, List.getElem?_eq_getElem (by rw [HGD.out]; exact hlt)⟩
                have HXK := Lib.hid hx
                have HYK := Lib.hid (show (shw false (dgl g) (k + 1))[k]? = some y from hy)
                obtain ⟨r, hr⟩ : ∃ r, decide (x = y) = r := ⟨_, rfl⟩
                have HR := Lib.hid hr
                have HSY := Lib.hid (show smB false (dgl m) (dgl g) k = true → smB false (dgl m) (dgl g) (k + 1) = r from fun h => by
                  rw [smB_yes h, List.getD_eq_getElem?_getD, List.getD_eq_getElem?_getD, hx, hy]
                  exact hr)
                clear hx hy hr
                obtain ⟨b, hb⟩ : ∃ b, smB false (dgl m) (dgl g) k = b := ⟨_, rfl⟩
                rw [hb]
                have HBB := Lib.hid hb
                clear hb
                go_upto_region 24 with fail
                refine wp_region_noPanic ?_
                have h0 : (fun ww => Below W1.heap.size W1 ww ∧ RowN ww g7 75 (dgl m) ∧ RowN ww g8 75 (shw false (dgl g) (k + 1))) wr.drew := ⟨QX.out.drew, Q7.out, Q8.out⟩
                refine wp_region_held_drew (S := fun ww => Below W1.heap.size W1 ww ∧ RowN ww g7 75 (dgl m) ∧ RowN ww g8 75 (shw false (dgl g) (k + 1))) (by kernel_rfl) h0 (fun _ => ?_)
                generalize wr.drew = V0 at h0 ⊢
                cases b with
                | false =>
                  refine tk_move 0 121 (.tmp 19) (.bool false) rfl (by kernel_rfl) (by kernel_rfl) (by kernel_rfl) (fun _ _ _ _ h => h) rfl rfl rfl rfl h0 ?_
                  simp only [Act.put, List.setIfInBounds_toArray, List.set_cons_zero, List.set_cons_succ]
                  refine tk_move 1 122 (.tmp 121) (.bool false) rfl (by kernel_rfl) (by kernel_rfl) (by kernel_rfl) (fun _ _ _ _ h => h) rfl rfl rfl rfl h0 ?_
                  simp only [Act.put, List.setIfInBounds_toArray, List.set_cons_zero, List.set_cons_succ]
                  refine tkw_skip 2 123 rfl (by kernel_rfl) (by kernel_rfl) (by kernel_rfl) (fun _ _ _ _ h => h) (by kernel_rfl) rfl h0 ?_
                  simp only [Act.put, List.setIfInBounds_toArray, List.set_cons_zero, List.set_cons_succ]
                  refine tkw_skip 3 124 rfl (by kernel_rfl) (by kernel_rfl) (by kernel_rfl) (fun _ _ _ _ h => h) (by kernel_rfl) rfl h0 ?_
                  simp only [Act.put, List.setIfInBounds_toArray, List.set_cons_zero, List.set_cons_succ]
                  refine tkw_skip 4 125 rfl (by kernel_rfl) (by kernel_rfl) (by kernel_rfl) (fun _ _ _ _ h => h) (by kernel_rfl) rfl h0 ?_
                  simp only [Act.put, List.setIfInBounds_toArray, List.set_cons_zero, List.set_cons_succ]
                  refine tkw_skip 5 126 rfl (by kernel_rfl) (by kernel_rfl) (by kernel_rfl) (fun _ _ _ _ h => h) (by kernel_rfl) rfl h0 ?_
                  simp only [Act.put, List.setIfInBounds_toArray, List.set_cons_zero, List.set_cons_succ]
                  refine tkw_skip 6 127 rfl (by kernel_rfl) (by kernel_rfl) (by kernel_rfl) (fun _ _ _ _ h => h) (by kernel_rfl) rfl h0 ?_
                  simp only [Act.put, List.setIfInBounds_toArray, List.set_cons_zero, List.set_cons_succ]
                  refine tkw_skip 7 128 rfl (by kernel_rfl) (by kernel_rfl) (by kernel_rfl) (fun _ _ _ _ h => h) (by kernel_rfl) rfl h0 ?_
                  simp only [Act.put, List.setIfInBounds_toArray, List.set_cons_zero, List.set_cons_succ]
                  refine tkw_skip 8 129 rfl (by kernel_rfl) (by kernel_rfl) (by kernel_rfl) (fun _ _ _ _ h => h) (by kernel_rfl) rfl h0 ?_
                  simp only [Act.put, List.setIfInBounds_toArray, List.set_cons_zero, List.set_cons_succ]
                  refine tkw_skip 9 130 rfl (by kernel_rfl) (by kernel_rfl) (by kernel_rfl) (fun _ _ _ _ h => h) (by kernel_rfl) rfl h0 ?_
                  simp only [Act.put, List.setIfInBounds_toArray, List.set_cons_zero, List.set_cons_succ]
                  refine tkw_skip 10 131 rfl (by kernel_rfl) (by kernel_rfl) (by kernel_rfl) (fun _ _ _ _ h => h) (by kernel_rfl) rfl h0 ?_
                  simp only [Act.put, List.setIfInBounds_toArray, List.set_cons_zero, List.set_cons_succ]
                  refine tk_val 11 132 (.bool false) rfl (by kernel_rfl) (by kernel_rfl) (by kernel_rfl) (fun _ _ _ _ h => h) rfl rfl (fun _ _ => ev_pickF (.tmp 122) (.tmp 131) (.const (.bool false)) _ rfl rfl rfl) h0 ?_
                  simp only [Act.put, List.setIfInBounds_toArray, List.set_cons_zero, List.set_cons_succ]
                  refine tk_assign 12 19 (.tmp 132) (.bool false) rfl (by kernel_rfl) (by kernel_rfl) (by kernel_rfl) (fun _ _ _ _ h => h) rfl rfl rfl rfl h0 ?_
                  simp only [Act.put, List.setIfInBounds_toArray, List.set_cons_zero, List.set_cons_succ]
                  refine wpAnyH_done (by kernel_rfl) (NoPanic.normal ?_) _
                  have H0 := Lib.hid h0
                  clear h0
                  go_wp2_with fail
                  go_roundw
                  case rel => exact ⟨k + 1, by go_num, by omega, by rw [smB_no HBB.out], Lib.hid H0.out.2.1, Lib.hid H0.out.2.2, Lib.hid H0.out.1⟩
                  case measure => simp [intOf]; omega
                | true =>
                  refine tk_move 0 121 (.tmp 19) (.bool true) rfl (by kernel_rfl) (by kernel_rfl) (by kernel_rfl) (fun _ _ _ _ h => h) rfl rfl rfl rfl h0 ?_
                  simp only [Act.put, List.setIfInBounds_toArray, List.set_cons_zero, List.set_cons_succ]
                  refine tk_move 1 122 (.tmp 121) (.bool true) rfl (by kernel_rfl) (by kernel_rfl) (by kernel_rfl) (fun _ _ _ _ h => h) rfl rfl rfl rfl h0 ?_
                  simp only [Act.put, List.setIfInBounds_toArray, List.set_cons_zero, List.set_cons_succ]
                  refine tkw_val 2 123 (.slice (some ⟨g7, 0, none⟩) 19 19) rfl (by kernel_rfl) (by kernel_rfl) (by kernel_rfl) (fun _ _ _ _ h => h) (by kernel_rfl) rfl (fun _ _ => ev_move (.tmp 17) (.slice (some ⟨g7, 0, none⟩) 19 19) rfl rfl) h0 ?_
                  simp only [Act.put, List.setIfInBounds_toArray, List.set_cons_zero, List.set_cons_succ]
                  refine tkw_val 3 124 (.int .i64 k) rfl (by kernel_rfl) (by kernel_rfl) (by kernel_rfl) (fun _ _ _ _ h => h) (by kernel_rfl) rfl (fun _ _ => ev_move (.tmp 20) (.int .i64 k) rfl rfl) h0 ?_
                  simp only [Act.put, List.setIfInBounds_toArray, List.set_cons_zero, List.set_cons_succ]
                  refine tkw_val 4 125 (.pointer (some ⟨g7, k, none⟩)) rfl (by kernel_rfl) (by kernel_rfl) (by kernel_rfl) (fun _ _ _ _ h => h) (by kernel_rfl) rfl (fun _ _ => ev_indexI (.tmp 123) (.tmp 124) g7 19 19 k rfl rfl rfl hlt) h0 ?_
                  simp only [Act.put, List.setIfInBounds_toArray, List.set_cons_zero, List.set_cons_succ]
                  refine tkw_val 5 126 (.int .i64 (x : Int)) rfl (by kernel_rfl) (by kernel_rfl) (by kernel_rfl) (fun _ _ _ _ h => h) (by kernel_rfl) rfl (fun ww h => ev_loadI (.tmp 125) g7 k _ rfl rfl (h.2.1.cell HXK.out)) h0 ?_
                  simp only [Act.put, List.setIfInBounds_toArray, List.set_cons_zero, List.set_cons_succ]
                  refine tkw_val 6 127 (.slice (some ⟨g8, 0, none⟩) 19 19) rfl (by kernel_rfl) (by kernel_rfl) (by kernel_rfl) (fun _ _ _ _ h => h) (by kernel_rfl) rfl (fun _ _ => ev_move (.tmp 18) (.slice (some ⟨g8, 0, none⟩) 19 19) rfl rfl) h0 ?_
                  simp only [Act.put, List.setIfInBounds_toArray, List.set_cons_zero, List.set_cons_succ]
                  refine tkw_val 7 128 (.int .i64 k) rfl (by kernel_rfl) (by kernel_rfl) (by kernel_rfl) (fun _ _ _ _ h => h) (by kernel_rfl) rfl (fun _ _ => ev_move (.tmp 20) (.int .i64 k) rfl rfl) h0 ?_
                  simp only [Act.put, List.setIfInBounds_toArray, List.set_cons_zero, List.set_cons_succ]
                  refine tkw_val 8 129 (.pointer (some ⟨g8, k, none⟩)) rfl (by kernel_rfl) (by kernel_rfl) (by kernel_rfl) (fun _ _ _ _ h => h) (by kernel_rfl) rfl (fun _ _ => ev_indexI (.tmp 127) (.tmp 128) g8 19 19 k rfl rfl rfl hlt) h0 ?_
                  simp only [Act.put, List.setIfInBounds_toArray, List.set_cons_zero, List.set_cons_succ]
                  refine tkw_val 9 130 (.int .i64 (y : Int)) rfl (by kernel_rfl) (by kernel_rfl) (by kernel_rfl) (fun _ _ _ _ h => h) (by kernel_rfl) rfl (fun ww h => ev_loadI (.tmp 129) g8 k _ rfl rfl (h.2.2.cell HYK.out)) h0 ?_
                  simp only [Act.put, List.setIfInBounds_toArray, List.set_cons_zero, List.set_cons_succ]
                  refine tkw_val 10 131 (.bool r) rfl (by kernel_rfl) (by kernel_rfl) (by kernel_rfl) (fun _ _ _ _ h => h) (by kernel_rfl) rfl (fun _ _ => ev_eqN (.tmp 126) (.tmp 130) x y r HR.out rfl rfl rfl) h0 ?_
                  simp only [Act.put, List.setIfInBounds_toArray, List.set_cons_zero, List.set_cons_succ]
                  refine tk_val 11 132 (.bool r) rfl (by kernel_rfl) (by kernel_rfl) (by kernel_rfl) (fun _ _ _ _ h => h) rfl rfl (fun _ _ => ev_pickT (.tmp 122) (.tmp 131) _ _ rfl rfl rfl) h0 ?_
                  simp only [Act.put, List.setIfInBounds_toArray, List.set_cons_zero, List.set_cons_succ]
                  refine tk_assign 12 19 (.tmp 132) (.bool r) rfl (by kernel_rfl) (by kernel_rfl) (by kernel_rfl) (fun _ _ _ _ h => h) rfl rfl rfl rfl h0 ?_
                  simp only [Act.put, List.setIfInBounds_toArray, List.set_cons_zero, List.set_cons_succ]
                  refine wpAnyH_done (by kernel_rfl) (NoPanic.normal ?_) _
                  have H0 := Lib.hid h0
                  clear h0
                  go_wp2_with fail
                  go_roundw
                  case rel => exact ⟨k + 1, by go_num, by omega, by rw [HSY.out HBB.out], Lib.hid H0.out.2.1, Lib.hid H0.out.2.2, Lib.hid H0.out.1⟩
                  case measure => simp [intOf]; omega
            · obtain rfl : k = 19 := by omega
              have hSM := smB_end nz (dgl m) g HDL.out
              have hK8 := Q8.out
              rw [shw_end] at hK8
              have HLS := Lib.hid (ex_less m g (!nz))
              obtain ⟨KK, hKK⟩ : ∃ KK, rvF g (!nz) = KK := ⟨_, rfl⟩
              have HKL := Lib.hid (show KK.length = 19 by rw [← hKK]; exact rvF_len _ _)
              rw [hKK] at HEX hSM hK8 HLS
              clear hKK HNZ
              obtain ⟨b, hb⟩ : ∃ b, ((!nz) && decide (dgl m = KK)) = b := ⟨_, rfl⟩
              have HBQ := Lib.hid hb
              rw [hSM, hb]
              have HK8 := Lib.hid hK8
              clear hSM hb hK8 Q8
              obtain ⟨p1, _, _, p4, _⟩ := KEEP.out _ QX.out
              have c0 := (K0.out _ QX.out).1
              have C := Lib.hid (Seed_all sd (i : Int) wr HS.out (by omega) (by omega) p4)
              clear p4
              go_wp2_with (refine load_B rfl (.tmp 5) rfl w.heap.size rfl 23 sd p1 HS.out ?_)
              refine C.out.mono ?_
              rintro e w12 ⟨rfl, hb12⟩
              have hx12 := STEP.out _ _ QX.out hb12
              have R7 := Lib.hid (Q7.out.keep (hb12.block _ Q7.out.lt))
              have R8 := Lib.hid (HK8.out.keep (hb12.block _ HK8.out.lt))
              clear hb12 p1 c0 C Q7 HK8 QX
              have HSL := Lib.hid (sdK_len sd (i : Int))
              have n0 := newD0 w12
              have HG := Lib.hid (newD w12 (sdK sd (i : Int)))
              go_upto_region 27 with (refine store_B rfl (.tmp 21) (.tmp 137) rfl w12.heap.size (flb 32 []) (sdK sd (i : Int)) rfl rfl 23 n0 HSL.out (by simp [flb]) ?_)
              generalize hW13 : World.setRow _ _ _ = w13
              obtain ⟨r21, hb13⟩ := HG.out w13 hW13
              have hx13 := STEP.out _ _ hx12 hb13
              have R7 := Lib.hid (R7.out.keep (hb13.block _ R7.out.lt))
              have R8 := Lib.hid (R8.out.keep (hb13.block _ R8.out.lt))
              have HR21 := Lib.hid r21
              have HX13 := Lib.hid hx13
              clear hW13 HG n0 hb13 hx12 hx13 r21
              rcases ex_cases (dgl m) KK (!nz) s.C (sgn (sdK sd i) m) with ⟨hs, he⟩ | ⟨hs, j, hj, he, hd, hcj⟩ | ⟨hs, he, hall⟩
              · have hz := HEX.out.trans he
                injection hz with z1 z2
                subst z1 z2
                have hbt : b = true := by rw [← HBQ.out, hs.1, decide_eq_true hs.2]; rfl
                subst hbt
                have HFIN := Lib.hid (KEEP.out _ HX13.out).2.2.2.2.2.2
                clear hs he HEX HBQ
                go_wp2_with fail
                go_ret
                exact ⟨rfl, HFIN.out⟩
              · have hz := HEX.out.trans he
                injection hz with z1 z2
                subst z1 z2
                have hbf : b = false := by
                  rw [← HBQ.out]
                  exact Bool.eq_false_iff.2 fun h => hs (by simpa using h)
                subst hbf
                obtain ⟨x, hx⟩ : ∃ x, (dgl m)[ch]? = some x := ⟨_, List.getElem?_eq_getElem (by rw [HDL.out]; exact hj)⟩
                obtain ⟨y, hy⟩ : ∃ y, KK[ch]? = some y := ⟨_, List.getElem?_eq_getElem (by rw [HKL.out]; exact hj)⟩
                obtain ⟨d, hdd⟩ : ∃ d, s.C[ch]? = some d := ⟨_, List.getElem?_eq_getElem (by rw [HC19.out]; exact hj)⟩
                have HXK := Lib.hid hx
                have HYK := Lib.hid hy
                have hxy : x < y := by rw [List.getD_eq_getElem?_getD, List.getD_eq_getElem?_getD, hx, hy] at hd; exact hd
                have hdx : d = sn x (fst5 (sdK sd i) ch) := by
                  rw [sgn_get _ _ ch x hj hx, List.getD_eq_getElem?_getD, hdd] at hcj
                  exact hcj
                have HDX := Lib.hid hdx
                have hx3 : x ≤ 3 := dgl_le m x (List.mem_of_getElem? hx)
                have HD32 := Lib.hid ((KEEP.out _ HX13.out).2.2.2.2.1.1.2.2.2.1 d (List.mem_of_getElem? hdd))
                obtain ⟨cb, co, hcA, _⟩ := (KEEP.out _ HX13.out).2.2.2.2.1.1.2.2.2.2 (by rw [HC19.out]; omega)
                have HCA := Lib.hid hcA
                have hW13 := HX13.out.size
                have STP := Lib.hid (show ∀ ww w', Below w13.heap.size w13 ww → Below ww.heap.size ww w' → Below w13.heap.size w13 w' from fun ww w' h1 h2 => h1.trans (h2.mono h1.size))
                have KF := Lib.hid (show ∀ ww, Below w13.heap.size w13 ww → RowN ww g7 75 (dgl m) ∧ RowN ww g8 75 KK ∧ BxL ww (w.heap.size + 2) s ∧ ww.cell? ⟨w.heap.size + 2, 1, none⟩ = some (.slice (some ⟨cb, co, none⟩) 19 s.cc) ∧ ww.rangeAt cb (co + ch * 32) (U d) ∧ ww.rangeAt w12.heap.size 0 (U (sdK sd (i : Int))) ∧ KR ww Kt ∧ Below w.heap.size w ww from fun ww h => by
                  have hX := HX13.out.trans (h.mono hW13)
                  obtain ⟨_, _, q3, q4, q5, _, q7⟩ := KEEP.out ww hX
                  obtain ⟨cb', co', e', _, hcc⟩ := q5.1.2.2.2.2 (by rw [HC19.out]; omega)
                  rw [HCA.out] at e'
                  injection e' with e'
                  injection e' with i1 i2
                  subst i1 i2
                  have c1 := (K0.out ww hX).2.1
                  rw [HCA.out] at c1
                  exact ⟨R7.out.keep (h.block _ R7.out.lt), R8.out.keep (h.block _ R8.out.lt), q3, c1, hcc ch d hdd, (HR21.out.keep (h.block _ HR21.out.lt)).range, q4, q7⟩)
                have CE := Lib.hid (show ∀ ww, Below w13.heap.size w13 ww → Calls Tryd.prog 24 #[.agg (U (sdK sd (i : Int))).toArray, .int .i64 (ch : Int), .int .i64 (x : Int)] ww fun e w' => e = .returned (.agg (U d).toArray) ∧ Below ww.heap.size ww w' from fun ww h => by
                  have := element_all (sdK sd (i : Int)) ch x ww HSL.out (by omega) (by omega) (KF.out ww h).2.2.2.2.2.2.1
                  rwa [← HDX.out] at this)
                clear hs he hd hcj hx hy hdd hdx hcA HEX HBQ
                go_upto_region 31 with fail
                refine wp_region_noPanic ?_
                have h0 : Below w13.heap.size w13 w13.drew := (Below.refl _ _).drew
                refine wp_region_held_drew (S := fun ww => Below w13.heap.size w13 ww) (by kernel_rfl) h0 (fun _ => ?_)
                generalize w13.drew = V0 at h0 ⊢
                refine tk_move 0 148 (.tmp 19) (.bool false) rfl (by kernel_rfl) (by kernel_rfl) (by kernel_rfl) (fun _ _ _ _ h => h) rfl rfl rfl rfl h0 ?_
                simp only [Act.put, List.setIfInBounds_toArray, List.set_cons_zero, List.set_cons_succ]
                refine tk_val 1 149 (.bool true) rfl (by kernel_rfl) (by kernel_rfl) (by kernel_rfl) (fun _ _ _ _ h => h) rfl rfl (fun _ _ => ev_notB (.tmp 148) false rfl rfl) h0 ?_
                simp only [Act.put, List.setIfInBounds_toArray, List.set_cons_zero, List.set_cons_succ]
                refine tk_move 2 150 (.tmp 149) (.bool true) rfl (by kernel_rfl) (by kernel_rfl) (by kernel_rfl) (fun _ _ _ _ h => h) rfl rfl rfl rfl h0 ?_
                simp only [Act.put, List.setIfInBounds_toArray, List.set_cons_zero, List.set_cons_succ]
                refine tkw_val 3 151 (.int .i64 (ch : Int)) rfl (by kernel_rfl) (by kernel_rfl) (by kernel_rfl) (fun _ _ _ _ h => h) (by kernel_rfl) rfl (fun _ _ => ev_move (.tmp 12) (.int .i64 (ch : Int)) rfl rfl) h0 ?_
                simp only [Act.put, List.setIfInBounds_toArray, List.set_cons_zero, List.set_cons_succ]
                refine tkw_val 4 152 (.bool true) rfl (by kernel_rfl) (by kernel_rfl) (by kernel_rfl) (fun _ _ _ _ h => h) (by kernel_rfl) rfl (fun _ _ => ev_geq0 (.tmp 151) ch rfl rfl) h0 ?_
                simp only [Act.put, List.setIfInBounds_toArray, List.set_cons_zero, List.set_cons_succ]
                refine tk_val 5 153 (.bool true) rfl (by kernel_rfl) (by kernel_rfl) (by kernel_rfl) (fun _ _ _ _ h => h) rfl rfl (fun _ _ => ev_pickT (.tmp 150) (.tmp 152) _ _ rfl rfl rfl) h0 ?_
                simp only [Act.put, List.setIfInBounds_toArray, List.set_cons_zero, List.set_cons_succ]
                refine tk_move 6 154 (.tmp 153) (.bool true) rfl (by kernel_rfl) (by kernel_rfl) (by kernel_rfl) (fun _ _ _ _ h => h) rfl rfl rfl rfl h0 ?_
                simp only [Act.put, List.setIfInBounds_toArray, List.set_cons_zero, List.set_cons_succ]
                refine tkw_val 7 155 (.int .i64 (ch : Int)) rfl (by kernel_rfl) (by kernel_rfl) (by kernel_rfl) (fun _ _ _ _ h => h) (by kernel_rfl) rfl (fun _ _ => ev_move (.tmp 12) (.int .i64 (ch : Int)) rfl rfl) h0 ?_
                simp only [Act.put, List.setIfInBounds_toArray, List.set_cons_zero, List.set_cons_succ]
                refine tkw_val 8 156 (.bool true) rfl (by kernel_rfl) (by kernel_rfl) (by kernel_rfl) (fun _ _ _ _ h => h) (by kernel_rfl) rfl (fun _ _ => ev_lssI (.tmp 155) (.const (.int .i64 19)) ch 19 true (decide_eq_true (by omega)) rfl rfl rfl) h0 ?_
                simp only [Act.put, List.setIfInBounds_toArray, List.set_cons_zero, List.set_cons_succ]
                refine tk_val 9 157 (.bool true) rfl (by kernel_rfl) (by kernel_rfl) (by kernel_rfl) (fun _ _ _ _ h => h) rfl rfl (fun _ _ => ev_pickT (.tmp 154) (.tmp 156) _ _ rfl rfl rfl) h0 ?_
                simp only [Act.put, List.setIfInBounds_toArray, List.set_cons_zero, List.set_cons_succ]
                refine tk_move 10 158 (.tmp 157) (.bool true) rfl (by kernel_rfl) (by kernel_rfl) (by kernel_rfl) (fun _ _ _ _ h => h) rfl rfl rfl rfl h0 ?_
                simp only [Act.put, List.setIfInBounds_toArray, List.set_cons_zero, List.set_cons_succ]
                refine tkw_val 11 159 (.slice (some ⟨g7, 0, none⟩) 19 19) rfl (by kernel_rfl) (by kernel_rfl) (by kernel_rfl) (fun _ _ _ _ h => h) (by kernel_rfl) rfl (fun _ _ => ev_move (.tmp 17) (.slice (some ⟨g7, 0, none⟩) 19 19) rfl rfl) h0 ?_
                simp only [Act.put, List.setIfInBounds_toArray, List.set_cons_zero, List.set_cons_succ]
                refine tkw_val 12 160 (.int .i64 (ch : Int)) rfl (by kernel_rfl) (by kernel_rfl) (by kernel_rfl) (fun _ _ _ _ h => h) (by kernel_rfl) rfl (fun _ _ => ev_move (.tmp 12) (.int .i64 (ch : Int)) rfl rfl) h0 ?_
                simp only [Act.put, List.setIfInBounds_toArray, List.set_cons_zero, List.set_cons_succ]
                refine tkw_val 13 161 (.pointer (some ⟨g7, ch, none⟩)) rfl (by kernel_rfl) (by kernel_rfl) (by kernel_rfl) (fun _ _ _ _ h => h) (by kernel_rfl) rfl (fun _ _ => ev_indexI (.tmp 159) (.tmp 160) g7 19 19 ch rfl rfl rfl hj) h0 ?_
                simp only [Act.put, List.setIfInBounds_toArray, List.set_cons_zero, List.set_cons_succ]
                refine tkw_val 14 162 (.int .i64 (x : Int)) rfl (by kernel_rfl) (by kernel_rfl) (by kernel_rfl) (fun _ _ _ _ h => h) (by kernel_rfl) rfl (fun ww h => ev_loadI (.tmp 161) g7 ch _ rfl rfl ((KF.out ww h).1.cell HXK.out)) h0 ?_
                simp only [Act.put, List.setIfInBounds_toArray, List.set_cons_zero, List.set_cons_succ]
                refine tkw_val 15 163 (.slice (some ⟨g8, 0, none⟩) 19 19) rfl (by kernel_rfl) (by kernel_rfl) (by kernel_rfl) (fun _ _ _ _ h => h) (by kernel_rfl) rfl (fun _ _ => ev_move (.tmp 18) (.slice (some ⟨g8, 0, none⟩) 19 19) rfl rfl) h0 ?_
                simp only [Act.put, List.setIfInBounds_toArray, List.set_cons_zero, List.set_cons_succ]
                refine tkw_val 16 164 (.int .i64 (ch : Int)) rfl (by kernel_rfl) (by kernel_rfl) (by kernel_rfl) (fun _ _ _ _ h => h) (by kernel_rfl) rfl (fun _ _ => ev_move (.tmp 12) (.int .i64 (ch : Int)) rfl rfl) h0 ?_
                simp only [Act.put, List.setIfInBounds_toArray, List.set_cons_zero, List.set_cons_succ]
                refine tkw_val 17 165 (.pointer (some ⟨g8, ch, none⟩)) rfl (by kernel_rfl) (by kernel_rfl) (by kernel_rfl) (fun _ _ _ _ h => h) (by kernel_rfl) rfl (fun _ _ => ev_indexI (.tmp 163) (.tmp 164) g8 19 19 ch rfl rfl rfl hj) h0 ?_
                simp only [Act.put, List.setIfInBounds_toArray, List.set_cons_zero, List.set_cons_succ]
                refine tkw_val 18 166 (.int .i64 (y : Int)) rfl (by kernel_rfl) (by kernel_rfl) (by kernel_rfl) (fun _ _ _ _ h => h) (by kernel_rfl) rfl (fun ww h => ev_loadI (.tmp 165) g8 ch _ rfl rfl ((KF.out ww h).2.1.cell HYK.out)) h0 ?_
                simp only [Act.put, List.setIfInBounds_toArray, List.set_cons_zero, List.set_cons_succ]
                refine tkw_val 19 167 (.bool true) rfl (by kernel_rfl) (by kernel_rfl) (by kernel_rfl) (fun _ _ _ _ h => h) (by kernel_rfl) rfl (fun _ _ => ev_lssI (.tmp 162) (.tmp 166) x y true (decide_eq_true (by omega)) rfl rfl rfl) h0 ?_
                simp only [Act.put, List.setIfInBounds_toArray, List.set_cons_zero, List.set_cons_succ]
                refine tk_val 20 168 (.bool true) rfl (by kernel_rfl) (by kernel_rfl) (by kernel_rfl) (fun _ _ _ _ h => h) rfl rfl (fun _ _ => ev_pickT (.tmp 158) (.tmp 167) _ _ rfl rfl rfl) h0 ?_
                simp only [Act.put, List.setIfInBounds_toArray, List.set_cons_zero, List.set_cons_succ]
                refine tk_move 21 169 (.tmp 168) (.bool true) rfl (by kernel_rfl) (by kernel_rfl) (by kernel_rfl) (fun _ _ _ _ h => h) rfl rfl rfl rfl h0 ?_
                simp only [Act.put, List.setIfInBounds_toArray, List.set_cons_zero, List.set_cons_succ]
                refine tkw_val 22 170 (.pointer (some ⟨w.heap.size + 2, 1, none⟩)) rfl (by kernel_rfl) (by kernel_rfl) (by kernel_rfl) (fun _ _ _ _ h => h) (by kernel_rfl) rfl (fun ww h => ev_fieldL1 (.tmp 9) (w.heap.size + 2) s rfl rfl (KF.out ww h).2.2.1) h0 ?_
                simp only [Act.put, List.setIfInBounds_toArray, List.set_cons_zero, List.set_cons_succ]
                refine tkw_val 23 171 (.slice (some ⟨cb, co, none⟩) 19 s.cc) rfl (by kernel_rfl) (by kernel_rfl) (by kernel_rfl) (fun _ _ _ _ h => h) (by kernel_rfl) rfl (fun ww h => ev_loadS1 (.tmp 170) (w.heap.size + 2) 1 _ _ _ rfl rfl (KF.out ww h).2.2.2.1) h0 ?_
                simp only [Act.put, List.setIfInBounds_toArray, List.set_cons_zero, List.set_cons_succ]
                refine tkw_val 24 172 (.int .i64 (ch : Int)) rfl (by kernel_rfl) (by kernel_rfl) (by kernel_rfl) (fun _ _ _ _ h => h) (by kernel_rfl) rfl (fun _ _ => ev_move (.tmp 12) (.int .i64 (ch : Int)) rfl rfl) h0 ?_
                simp only [Act.put, List.setIfInBounds_toArray, List.set_cons_zero, List.set_cons_succ]
                refine tkw_val 25 173 (.pointer (some ⟨cb, co + ch * 32, none⟩)) rfl (by kernel_rfl) (by kernel_rfl) (by kernel_rfl) (fun _ _ _ _ h => h) (by kernel_rfl) rfl (fun _ _ => ev_index (.tmp 171) (.tmp 172) cb co 19 s.cc ch rfl rfl rfl hj) h0 ?_
                simp only [Act.put, List.setIfInBounds_toArray, List.set_cons_zero, List.set_cons_succ]
                refine tkw_load 26 174 (.tmp 173) cb (co + ch * 32) d rfl (by kernel_rfl) (by kernel_rfl) (by kernel_rfl) (fun _ _ _ _ h => h) (by kernel_rfl) rfl rfl rfl (fun ww h => (KF.out ww h).2.2.2.2.1) HD32.out h0 ?_
                simp only [Act.put, List.setIfInBounds_toArray, List.set_cons_zero, List.set_cons_succ]
                refine tkw_load 27 175 (.tmp 21) w12.heap.size (0) (sdK sd (i : Int)) rfl (by kernel_rfl) (by kernel_rfl) (by kernel_rfl) (fun _ _ _ _ h => h) (by kernel_rfl) rfl rfl rfl (fun ww h => (KF.out ww h).2.2.2.2.2.1) HSL.out h0 ?_
                simp only [Act.put, List.setIfInBounds_toArray, List.set_cons_zero, List.set_cons_succ]
                refine tkw_val 28 176 (.int .i64 (ch : Int)) rfl (by kernel_rfl) (by kernel_rfl) (by kernel_rfl) (fun _ _ _ _ h => h) (by kernel_rfl) rfl (fun _ _ => ev_move (.tmp 12) (.int .i64 (ch : Int)) rfl rfl) h0 ?_
                simp only [Act.put, List.setIfInBounds_toArray, List.set_cons_zero, List.set_cons_succ]
                refine tkw_val 29 177 (.slice (some ⟨g7, 0, none⟩) 19 19) rfl (by kernel_rfl) (by kernel_rfl) (by kernel_rfl) (fun _ _ _ _ h => h) (by kernel_rfl) rfl (fun _ _ => ev_move (.tmp 17) (.slice (some ⟨g7, 0, none⟩) 19 19) rfl rfl) h0 ?_
                simp only [Act.put, List.setIfInBounds_toArray, List.set_cons_zero, List.set_cons_succ]
                refine tkw_val 30 178 (.int .i64 (ch : Int)) rfl (by kernel_rfl) (by kernel_rfl) (by kernel_rfl) (fun _ _ _ _ h => h) (by kernel_rfl) rfl (fun _ _ => ev_move (.tmp 12) (.int .i64 (ch : Int)) rfl rfl) h0 ?_
                simp only [Act.put, List.setIfInBounds_toArray, List.set_cons_zero, List.set_cons_succ]
                refine tkw_val 31 179 (.pointer (some ⟨g7, ch, none⟩)) rfl (by kernel_rfl) (by kernel_rfl) (by kernel_rfl) (fun _ _ _ _ h => h) (by kernel_rfl) rfl (fun _ _ => ev_indexI (.tmp 177) (.tmp 178) g7 19 19 ch rfl rfl rfl hj) h0 ?_
                simp only [Act.put, List.setIfInBounds_toArray, List.set_cons_zero, List.set_cons_succ]
                refine tkw_val 32 180 (.int .i64 (x : Int)) rfl (by kernel_rfl) (by kernel_rfl) (by kernel_rfl) (fun _ _ _ _ h => h) (by kernel_rfl) rfl (fun ww h => ev_loadI (.tmp 179) g7 ch _ rfl rfl ((KF.out ww h).1.cell HXK.out)) h0 ?_
                simp only [Act.put, List.setIfInBounds_toArray, List.set_cons_zero, List.set_cons_succ]
                refine lone 33 (by kernel_rfl) rfl (fun K hK => ?_)
                rw [if_pos (show Region.wanted _ _ = true from rfl)]
                refine wp_call 24 181 _ _ #[.agg (U (sdK sd (i : Int))).toArray, .int .i64 (ch : Int), .int .i64 (x : Int)] _ rfl rfl rfl enters_elem (CE.out _ h0) (fun e V1 hq => ?_)
                refine ⟨_, hq.1, ?_⟩
                have h1 := STP.out _ _ h0 hq.2
                refine hK _ _ h1 ?_
                simp only [Act.put, List.setIfInBounds_toArray, List.set_cons_zero, List.set_cons_succ]
                clear hK hq
                refine tkw_val 34 182 (.bool true) rfl (by kernel_rfl) (by kernel_rfl) (by kernel_rfl) (fun _ _ _ _ h => h) (by kernel_rfl) rfl (fun _ _ => ev_eqDq (.tmp 174) (.tmp 181) d d true (decide_eq_true rfl) HD32.out HD32.out rfl rfl rfl) h1 ?_
                simp only [Act.put, List.setIfInBounds_toArray, List.set_cons_zero, List.set_cons_succ]
                refine tk_val 35 183 (.bool true) rfl (by kernel_rfl) (by kernel_rfl) (by kernel_rfl) (fun _ _ _ _ h => h) rfl rfl (fun _ _ => ev_pickT (.tmp 169) (.tmp 182) _ _ rfl rfl rfl) h1 ?_
                simp only [Act.put, List.setIfInBounds_toArray, List.set_cons_zero, List.set_cons_succ]
                refine tk_assign 36 10 (.tmp 183) (.bool true) rfl (by kernel_rfl) (by kernel_rfl) (by kernel_rfl) (fun _ _ _ _ h => h) rfl rfl rfl rfl h1 ?_
                simp only [Act.put, List.setIfInBounds_toArray, List.set_cons_zero, List.set_cons_succ]
                refine wpAnyH_done (by kernel_rfl) (NoPanic.normal ?_) _
                have HFIN := Lib.hid (KF.out _ h1).2.2.2.2.2.2.2
                clear h0 h1
                go_wp2_with fail
                go_ret
                exact ⟨rfl, HFIN.out⟩
              · have hz := HEX.out.trans he
                injection hz with z1 z2
                subst z1 z2
                have hbf : b = false := by
                  rw [← HBQ.out]
                  exact Bool.eq_false_iff.2 fun h => hs (by simpa using h)
                subst hbf
                obtain ⟨j, hj, hd⟩ := HLS.out hs
                obtain ⟨p1, p2, _, p4, p5, _⟩ := KEEP.out _ HX13.out
                have HC32 := Lib.hid p5.1.2.2.2.1
                have HP32 := Lib.hid p5.2.2.2.2.1
                have HCO := Lib.hid (forged_ways f HF.out sd m n i s.C s.P HVO.out HC32.out HP32.out j hj (hall j hj hd))
                have HPS := Lib.hid (show s.P.length = stp f i n by
                  obtain ⟨_, _, _, he, _⟩ := HVO.out
                  by_cases hc : 1 ≤ (n : Int) ∧ (n : Int) ≤ 1099511627776 ∧ 0 ≤ (i : Int) ∧ (i : Int) < n ∧ s.P.length = stp f (i : Int).toNat (n : Int).toNat
                  · exact hc.2.2.2.2
                  · rw [cre, if_neg hc] at he; cases he)
                have c0 := (K0.out _ HX13.out).1
                have C := Lib.hid (Sign_yes f HF.out sd m n i w13 (by omega) hn256 hin HS.out HM.out p4)
                clear hs he hall hj hd HEX HBQ HLS HVO p4 p5
                go_wp2_with (first
                  | (refine load_B rfl (.tmp 5) rfl w.heap.size rfl 23 sd p1 HS.out ?_)
                  | (refine load_B rfl (.tmp 8) rfl (w.heap.size + 1) rfl 23 m p2 HM.out ?_))
                refine C.out.mono ?_
                rintro e w14 ⟨t, rfl, hsg, hb14⟩
                have hx14 := STEP.out _ _ HX13.out hb14
                have R7 := Lib.hid (R7.out.keep (hb14.block _ R7.out.lt))
                obtain ⟨_, ht2, ht3, hto⟩ := hsg
                rw [← ht2, ← ht3] at HCO
                have HT2 := Lib.hid ht2
                have HTP := Lib.hid (show t.P.length = stp f i n by
                  have := pth_len f (pubs sd n) i (by rw [pubs_len]; omega)
                  rw [pubs_len] at this
                  rw [ht3]
                  exact this)
                have HTO := Lib.hid (hto.keep (w' := w14) (S' := (· < w14.heap.size)) fun j hj => ⟨hj.2, rfl⟩)
                clear hb14 C p1 p2 c0 ht2 ht3 hto
                have n0 := newL0 w14
                have HG := Lib.hid (newL w14 t)
                go_upto_region 34 with (refine store_L rfl (.tmp 22) (.tmp 193) rfl w14.heap.size Lf.zero t rfl rfl n0 ?_)
                generalize hW15 : World.setRow _ _ _ = w15
                obtain ⟨r22, hb15⟩ := HG.out w15 hW15
                have hx15 := STEP.out _ _ hx14 hb15
                have hW15' := hx15.size
                have R7 := Lib.hid (R7.out.keep (hb15.block _ R7.out.lt))
                have HTO := Lib.hid (hok1 HTO.out hb15)
                have HX15 := Lib.hid hx15
                have HR22 := Lib.hid r22
                clear hW15 HG n0 hb15 hx14 hx15 r22
                have HT19 := Lib.hid (show t.C.length = 19 by rw [HT2.out]; exact sgn_len _ _)
                have HTC32 := Lib.hid HTO.out.1.2.2.2.1
                have HTP32 := Lib.hid HTO.out.2.2.2.2.1
                have STP := Lib.hid (show ∀ ww w', Below w15.heap.size w15 ww → Below ww.heap.size ww w' → Below w15.heap.size w15 w' from fun ww w' h1 h2 => h1.trans (h2.mono h1.size))
                have KF := Lib.hid (show ∀ ww, Below w15.heap.size w15 ww → RowN ww g7 75 (dgl m) ∧ BxL ww (w.heap.size + 2) s ∧ BxL ww w14.heap.size t ∧ s.ok ww (· < ww.heap.size) ∧ t.ok ww (· < ww.heap.size) ∧ KR ww Kt ∧ Below w.heap.size w ww ∧ Below W1.heap.size W1 ww ∧ ww.cell? ⟨w14.heap.size, 1, none⟩ = some (.slice t.cA 19 t.cc) from fun ww h => by
                  have hX := HX15.out.trans (h.mono hW15')
                  obtain ⟨_, _, q3, q4, q5, _, q7⟩ := KEEP.out ww hX
                  have qt := HR22.out.keep (h.block _ HR22.out.lt)
                  have c1 := qt.c1
                  rw [HT19.out] at c1
                  exact ⟨R7.out.keep (h.block _ R7.out.lt), q3, qt, q5, hok1 HTO.out h, q4, q7, hX, c1⟩)
                have CW1 := Lib.hid (show ∀ ww, Below w15.heap.size w15 ww → Calls Tryd.prog 26 #[.slice s.cA 19 s.cc, .slice (some ⟨g7, 0, none⟩) 19 19, .int .i64 (i : Int), .int .i64 (n : Int), .slice s.pA s.P.length s.pc] ww fun e w' => ∃ v', e = .returned v' ∧ OwnS w' ww.heap.size v' (wayS f s.C (dgl m) i n s.P) ∧ Below ww.heap.size ww w' from fun ww h => by
                  obtain ⟨q1, _, _, q4, _, q6, _⟩ := KF.out ww h
                  exact way_all f HF.out s.C s.cA s.cc (dgl m) g7 _ i n s.P s.pA s.pc ww HC19.out HDL.out (dgl_le m) hin (by omega) HPS.out (by have := HPL.out; omega) q4.1 q1 q4.2 q6)
                have CW2 := Lib.hid (show ∀ ww, Below w15.heap.size w15 ww → Calls Tryd.prog 26 #[.slice t.cA 19 t.cc, .slice (some ⟨g7, 0, none⟩) 19 19, .int .i64 (i : Int), .int .i64 (n : Int), .slice t.pA t.P.length t.pc] ww fun e w' => ∃ v', e = .returned v' ∧ OwnS w' ww.heap.size v' (wayS f t.C (dgl m) i n t.P) ∧ Below ww.heap.size ww w' from fun ww h => by
                  obtain ⟨q1, _, _, _, q5, q6, _⟩ := KF.out ww h
                  exact way_all f HF.out t.C t.cA t.cc (dgl m) g7 _ i n t.P t.pA t.pc ww HT19.out HDL.out (dgl_le m) hin (by omega) HTP.out (by have := HPL.out; have := HPS.out; have := HTP.out; omega) q5.1 q1 q5.2 q6)
                obtain ⟨L1, hL1⟩ : ∃ L, wayS f s.C (dgl m) i n s.P = L := ⟨_, rfl⟩
                obtain ⟨L2, hL2⟩ : ∃ L, wayS f t.C (dgl m) i n t.P = L := ⟨_, rfl⟩
                have HSM1 := Lib.hid (show ∀ a ∈ L1, a.2.length ≤ 1000 ∧ a.1.size ≤ 1000 by rw [← hL1]; exact wayS_small f _ _ i n _ HC19.out HC32.out HP32.out)
                have HSM2 := Lib.hid (show ∀ a ∈ L2, a.2.length ≤ 1000 ∧ a.1.size ≤ 1000 by rw [← hL2]; exact wayS_small f _ _ i n _ HT19.out HTC32.out HTP32.out)
                have HLL := Lib.hid (show L1.length = L2.length by rw [← hL1, ← hL2, wayS_len, wayS_len])
                have HL1 := Lib.hid (show L1.length ≤ 100000 by rw [← hL1, wayS_len]; have := HPL.out; have := HPS.out; omega)
                rw [hL1] at CW1 HCO
                rw [hL2] at CW2 HCO
                clear hL1 hL2
                have CC := Lib.hid (show ∀ ww A1 k1 A2 k2, Below w15.heap.size w15 ww → StL ww (· < ww.heap.size) L1 A1 k1 → StL ww (· < ww.heap.size) L2 A2 k2 → Calls Tryd.prog 25 #[.slice A1 L1.length k1, .slice A2 L2.length k2] ww fun e w' => e = .returned (.bool true) ∧ Below ww.heap.size ww w' from fun ww A1 k1 A2 k2 h h1 h2 =>
                  collide_all L1 L2 A1 k1 A2 k2 ww HLL.out HL1.out h1 h2 (fun a ha => (HSM1.out a ha).1) (fun a ha => (HSM2.out a ha).1) (fun a ha => (HSM1.out a ha).2) (KF.out ww h).2.2.2.2.2.1 HCO.out)
                go_upto_region 36 with fail
                refine wp_region_noPanic ?_
                have h0 : Below w15.heap.size w15 w15.drew := (Below.refl _ _).drew
                refine wp_region_held_drew (S := fun ww => Below w15.heap.size w15 ww) (by kernel_rfl) h0 (fun _ => ?_)
                generalize w15.drew = V0 at h0 ⊢
                refine tk_val 0 204 (.pointer (some ⟨w.heap.size + 2, 1, none⟩)) rfl (by kernel_rfl) (by kernel_rfl) (by kernel_rfl) (fun _ _ _ _ h => h) rfl rfl (fun ww h => ev_fieldL1 (.tmp 9) (w.heap.size + 2) s rfl rfl (KF.out ww h).2.1) h0 ?_
                simp only [Act.put, List.setIfInBounds_toArray, List.set_cons_zero, List.set_cons_succ]
                refine tk_val 1 205 (.slice s.cA 19 s.cc) rfl (by kernel_rfl) (by kernel_rfl) (by kernel_rfl) (fun _ _ _ _ h => h) rfl rfl (fun ww h => ev_loadS1 (.tmp 204) (w.heap.size + 2) 1 _ _ _ rfl rfl (K0.out ww (KF.out ww h).2.2.2.2.2.2.2.1).2.1) h0 ?_
                simp only [Act.put, List.setIfInBounds_toArray, List.set_cons_zero, List.set_cons_succ]
                refine tk_move 2 206 (.tmp 17) (.slice (some ⟨g7, 0, none⟩) 19 19) rfl (by kernel_rfl) (by kernel_rfl) (by kernel_rfl) (fun _ _ _ _ h => h) rfl rfl rfl rfl h0 ?_
                simp only [Act.put, List.setIfInBounds_toArray, List.set_cons_zero, List.set_cons_succ]
                refine tk_val 3 207 (.pointer (some ⟨w.heap.size + 2, 0, none⟩)) rfl (by kernel_rfl) (by kernel_rfl) (by kernel_rfl) (fun _ _ _ _ h => h) rfl rfl (fun ww h => ev_fieldL0 (.tmp 9) (w.heap.size + 2) s rfl rfl (KF.out ww h).2.1) h0 ?_
                simp only [Act.put, List.setIfInBounds_toArray, List.set_cons_zero, List.set_cons_succ]
                refine tk_val 4 208 (.int .i64 (i : Int)) rfl (by kernel_rfl) (by kernel_rfl) (by kernel_rfl) (fun _ _ _ _ h => h) rfl rfl (fun ww h => ev_loadI (.tmp 207) (w.heap.size + 2) 0 _ rfl rfl (K0.out ww (KF.out ww h).2.2.2.2.2.2.2.1).1) h0 ?_
                simp only [Act.put, List.setIfInBounds_toArray, List.set_cons_zero, List.set_cons_succ]
                refine tk_move 5 209 (.tmp 1) (.int .i64 (n : Int)) rfl (by kernel_rfl) (by kernel_rfl) (by kernel_rfl) (fun _ _ _ _ h => h) rfl rfl rfl rfl h0 ?_
                simp only [Act.put, List.setIfInBounds_toArray, List.set_cons_zero, List.set_cons_succ]
                refine tk_val 6 210 (.pointer (some ⟨w.heap.size + 2, 2, none⟩)) rfl (by kernel_rfl) (by kernel_rfl) (by kernel_rfl) (fun _ _ _ _ h => h) rfl rfl (fun ww h => ev_fieldL2 (.tmp 9) (w.heap.size + 2) s rfl rfl (KF.out ww h).2.1) h0 ?_
                simp only [Act.put, List.setIfInBounds_toArray, List.set_cons_zero, List.set_cons_succ]
                refine tk_val 7 211 (.slice s.pA s.P.length s.pc) rfl (by kernel_rfl) (by kernel_rfl) (by kernel_rfl) (fun _ _ _ _ h => h) rfl rfl (fun ww h => ev_loadS1 (.tmp 210) (w.heap.size + 2) 2 _ _ _ rfl rfl (K0.out ww (KF.out ww h).2.2.2.2.2.2.2.1).2.2) h0 ?_
                simp only [Act.put, List.setIfInBounds_toArray, List.set_cons_zero, List.set_cons_succ]
                refine tk_val 9 213 (.pointer (some ⟨w14.heap.size, 1, none⟩)) rfl (by kernel_rfl) (by kernel_rfl) (by kernel_rfl) (fun _ _ _ _ h => h) rfl rfl (fun ww h => ev_fieldL1 (.tmp 22) (w14.heap.size) t rfl rfl (KF.out ww h).2.2.1) h0 ?_
                simp only [Act.put, List.setIfInBounds_toArray, List.set_cons_zero, List.set_cons_succ]
                refine tk_val 10 214 (.slice t.cA 19 t.cc) rfl (by kernel_rfl) (by kernel_rfl) (by kernel_rfl) (fun _ _ _ _ h => h) rfl rfl (fun ww h => ev_loadS1 (.tmp 213) w14.heap.size 1 _ _ _ rfl rfl (KF.out ww h).2.2.2.2.2.2.2.2) h0 ?_
                simp only [Act.put, List.setIfInBounds_toArray, List.set_cons_zero, List.set_cons_succ]
                refine tk_move 11 215 (.tmp 17) (.slice (some ⟨g7, 0, none⟩) 19 19) rfl (by kernel_rfl) (by kernel_rfl) (by kernel_rfl) (fun _ _ _ _ h => h) rfl rfl rfl rfl h0 ?_
                simp only [Act.put, List.setIfInBounds_toArray, List.set_cons_zero, List.set_cons_succ]
                refine tk_val 12 216 (.pointer (some ⟨w.heap.size + 2, 0, none⟩)) rfl (by kernel_rfl) (by kernel_rfl) (by kernel_rfl) (fun _ _ _ _ h => h) rfl rfl (fun ww h => ev_fieldL0 (.tmp 9) (w.heap.size + 2) s rfl rfl (KF.out ww h).2.1) h0 ?_
                simp only [Act.put, List.setIfInBounds_toArray, List.set_cons_zero, List.set_cons_succ]
                refine tk_val 13 217 (.int .i64 (i : Int)) rfl (by kernel_rfl) (by kernel_rfl) (by kernel_rfl) (fun _ _ _ _ h => h) rfl rfl (fun ww h => ev_loadI (.tmp 216) (w.heap.size + 2) 0 _ rfl rfl (K0.out ww (KF.out ww h).2.2.2.2.2.2.2.1).1) h0 ?_
                simp only [Act.put, List.setIfInBounds_toArray, List.set_cons_zero, List.set_cons_succ]
                refine tk_move 14 218 (.tmp 1) (.int .i64 (n : Int)) rfl (by kernel_rfl) (by kernel_rfl) (by kernel_rfl) (fun _ _ _ _ h => h) rfl rfl rfl rfl h0 ?_
                simp only [Act.put, List.setIfInBounds_toArray, List.set_cons_zero, List.set_cons_succ]
                refine tk_val 15 219 (.pointer (some ⟨w14.heap.size, 2, none⟩)) rfl (by kernel_rfl) (by kernel_rfl) (by kernel_rfl) (fun _ _ _ _ h => h) rfl rfl (fun ww h => ev_fieldL2 (.tmp 22) (w14.heap.size) t rfl rfl (KF.out ww h).2.2.1) h0 ?_
                simp only [Act.put, List.setIfInBounds_toArray, List.set_cons_zero, List.set_cons_succ]
                refine tk_val 16 220 (.slice t.pA t.P.length t.pc) rfl (by kernel_rfl) (by kernel_rfl) (by kernel_rfl) (fun _ _ _ _ h => h) rfl rfl (fun ww h => ev_loadS1 (.tmp 219) w14.heap.size 2 _ _ _ rfl rfl (KF.out ww h).2.2.1.c2) h0 ?_
                simp only [Act.put, List.setIfInBounds_toArray, List.set_cons_zero, List.set_cons_succ]
                refine lone 8 (by kernel_rfl) rfl (fun K hK => to_call 26 212 _ _ #[.slice s.cA 19 s.cc, .slice (some ⟨g7, 0, none⟩) 19 19, .int .i64 (i : Int), .int .i64 (n : Int), .slice s.pA s.P.length s.pc] _ rfl rfl rfl rfl enters_way (CW1.out _ h0) (fun e V1 hq => ?_))
                obtain ⟨v1, rfl, ho1, hq1⟩ := hq
                refine ⟨_, rfl, ?_⟩
                have h1 := STP.out _ _ h0 hq1
                refine hK _ _ h1 ?_
                simp only [Act.put, List.setIfInBounds_toArray, List.set_cons_zero, List.set_cons_succ]
                clear hK
                obtain ⟨A1, k1, rfl, hs1⟩ := ho1.stl
                clear ho1 hq1
                refine lone 17 (by kernel_rfl) rfl (fun K hK => to_call 26 221 _ _ #[.slice t.cA 19 t.cc, .slice (some ⟨g7, 0, none⟩) 19 19, .int .i64 (i : Int), .int .i64 (n : Int), .slice t.pA t.P.length t.pc] _ rfl rfl rfl rfl enters_way (CW2.out _ h1) (fun e V2 hq => ?_))
                obtain ⟨v2, rfl, ho2, hq2⟩ := hq
                refine ⟨_, rfl, ?_⟩
                have h2 := STP.out _ _ h1 hq2
                refine hK _ _ h2 ?_
                simp only [Act.put, List.setIfInBounds_toArray, List.set_cons_zero, List.set_cons_succ]
                clear hK
                obtain ⟨A2, k2, rfl, hs2⟩ := ho2.stl
                have hs1 := hs1.keep (w' := V2) (S' := (· < V2.heap.size)) fun j hj => ⟨Nat.lt_of_lt_of_le hj hq2.size, hq2.block j hj⟩
                clear ho2 hq2
                refine lone 18 (by kernel_rfl) rfl (fun K hK => to_call 25 222 _ _ #[.slice A1 L1.length k1, .slice A2 L2.length k2] _ rfl rfl rfl rfl enters_collide (CC.out _ A1 k1 A2 k2 h2 hs1 hs2) (fun e V3 hq => ?_))
                refine ⟨_, hq.1, ?_⟩
                have h3 := STP.out _ _ h2 hq.2
                refine hK _ _ h3 ?_
                simp only [Act.put, List.setIfInBounds_toArray, List.set_cons_zero, List.set_cons_succ]
                clear hK hq
                refine tk_assign 19 10 (.tmp 222) (.bool true) rfl (by kernel_rfl) (by kernel_rfl) (by kernel_rfl) (fun _ _ _ _ h => h) rfl rfl rfl rfl h3 ?_
                simp only [Act.put, List.setIfInBounds_toArray, List.set_cons_zero, List.set_cons_succ]
                refine wpAnyH_done (by kernel_rfl) (NoPanic.normal ?_) _
                have HFIN := Lib.hid (KF.out _ h3).2.2.2.2.2.2.1
                clear h0 h1 h2 h3 hs1 hs2
                go_wp2_with fail
                go_ret
                exact ⟨rfl, HFIN.out⟩
end Go.Proofs.YteicbdjennjcdaaDoor
