/- Chains: steps of the laws; ChainsDigitsSpec's walk. -/
import Derived.Test.YtllkkafajchioaaDoorXW
namespace Go.Proofs.YtllkkafajchioaaDoor
open Go.RowKit

section
variable {o : Oper} {a : Act} {w : World}
theorem ev_eql_int (t : TypeId) (x y : Operand) (n m : Int) (ho : o.op = .binOp .eql t x y t) (_ht : Tryd.prog.underlying t = some (.int .i64)) (hx : a.eval x = .int .i64 n) (hy : a.eval y = .int .i64 m) :
    (execOp a.eval o).run Tryd.prog w = .ok (.value (.bool (decide (n = m)))) w := by
  unfold execOp
  simp only [ho, hx, hy]
  go_simp
  first | rfl | (by_cases h : n = m <;> simp [h])
theorem ev_eql_bool (x y : Operand) (n m : Bool) (ho : o.op = .binOp .eql 4 x y 4) (hx : a.eval x = .bool n) (hy : a.eval y = .bool m) :
    (execOp a.eval o).run Tryd.prog w = .ok (.value (.bool (decide (n = m)))) w := by
  unfold execOp
  simp only [ho, hx, hy]
  go_simp
  cases n <;> cases m <;> rfl
theorem ev_eql_dig (x y : Operand) (l m : List UInt8) (hl : l.length = 32) (hm : m.length = 32) (ho : o.op = .binOp .eql 23 x y 23) (hx : a.eval x = .agg (U l).toArray) (hy : a.eval y = .agg (U m).toArray) :
    (execOp a.eval o).run Tryd.prog w = .ok (.value (.bool (decide (l = m)))) w := by
  have q1 := eq_dig l m hl hm
  unfold execOp
  simp only [ho, hx, hy]
  go_simp
theorem ev_eqt_int (t : TypeId) (x y : Operand) (n : Int) (ho : o.op = .binOp .eql t x y t) (ht : Tryd.prog.underlying t = some (.int .i64)) (hx : a.eval x = .int .i64 n) (hy : a.eval y = .int .i64 n) :
    (execOp a.eval o).run Tryd.prog w = .ok (.value (.bool true)) w := by
  rw [ev_eql_int t x y n n ho ht hx hy, decide_eq_true rfl]
theorem ev_eqt_bool (x y : Operand) (n : Bool) (ho : o.op = .binOp .eql 4 x y 4) (hx : a.eval x = .bool n) (hy : a.eval y = .bool n) :
    (execOp a.eval o).run Tryd.prog w = .ok (.value (.bool true)) w := by
  rw [ev_eql_bool x y n n ho hx hy, decide_eq_true rfl]
theorem ev_eqt_dig (x y : Operand) (l : List UInt8) (hl : l.length = 32) (ho : o.op = .binOp .eql 23 x y 23) (hx : a.eval x = .agg (U l).toArray) (hy : a.eval y = .agg (U l).toArray) :
    (execOp a.eval o).run Tryd.prog w = .ok (.value (.bool true)) w := by
  rw [ev_eql_dig x y l l hl hl ho hx hy, decide_eq_true rfl]
theorem ev_pick_t (c x y : Operand) (v : Value) (ho : o.op = .pick c x y) (hc : a.eval c = .bool true) (hx : a.eval x = v) :
    (execOp a.eval o).run Tryd.prog w = .ok (.value v) w := by
  unfold execOp
  simp only [ho, hc, hx]
  go_simp
theorem ev_not (x : Operand) (b : Bool) (ho : o.op = .unOp .not 4 x) (hx : a.eval x = .bool b) :
    (execOp a.eval o).run Tryd.prog w = .ok (.value (.bool (!b))) w := by
  unfold execOp
  simp only [ho, hx]
  go_simp
end
theorem enters_Digits : Enters Tryd.prog 14 := enters_of Tryd.func14 (by kernel_rfl) rfl
theorem enters_rDigits : Enters Tryd.prog 15 := enters_of Tryd.func15 (by kernel_rfl) rfl
theorem enters_SameInts : Enters Tryd.prog 13 := enters_of Tryd.func13 (by kernel_rfl) rfl
theorem enters_Same : Enters Tryd.prog 20 := enters_of Tryd.func20 (by kernel_rfl) rfl
theorem enters_Public : Enters Tryd.prog 18 := enters_of Tryd.func18 (by kernel_rfl) rfl
theorem enters_rPublic : Enters Tryd.prog 19 := enters_of Tryd.func19 (by kernel_rfl) rfl
theorem enters_rSign : Enters Tryd.prog 22 := enters_of Tryd.func22 (by kernel_rfl) rfl
theorem enters_Verify : Enters Tryd.prog 23 := enters_of Tryd.func23 (by kernel_rfl) rfl
theorem enters_rVerify : Enters Tryd.prog 24 := enters_of Tryd.func24 (by kernel_rfl) rfl
theorem enters_step : Enters Tryd.prog 25 := enters_of Tryd.func25 (by kernel_rfl) rfl

theorem earlier_any (m q : List UInt8) (n cap : Nat) (A : Option Addr) (hm : m.length = 32) (hq : q.length = 32) (hn : n ≤ 40) : ∃ (k : Int) (b : Bool),
    (∀ ww, Calls Tryd.prog 11 #[.agg (U m).toArray, .slice A n cap, .agg (U q).toArray] ww fun e w' => e = .returned (.tuple #[.int .i64 k, .bool b]) ∧ Below ww.heap.size ww w') ∧
    (∀ ww, Calls Tryd.prog 12 #[.agg (U m).toArray, .slice A n cap, .agg (U q).toArray] ww fun e w' => e = .returned (.tuple #[.int .i64 k, .bool b]) ∧ Below ww.heap.size ww w') := by
  by_cases h : n = 19
  · subst h
    exact ⟨_, _, fun ww => Earlier_yes m q cap A ww hm hq, fun ww => rEarlier_yes m q cap A ww hm hq⟩
  · exact ⟨_, _, fun ww => Earlier_no m q n cap A ww h (by omega), fun ww => rEarlier_no m q n cap A ww h (by omega)⟩

set_option maxRecDepth 100000 in
set_option maxHeartbeats 3200000 in
theorem digspec_all (m q : List UInt8) (L : List (List UInt8)) (A : Option Addr) (cap : Nat) (w : World) (hm : m.length = 32) (hq : q.length = 32) (hl : DL w (· < w.heap.size) L A cap) (hk : KR w Kt) :
    Calls Tryd.prog 3 #[.agg (U m).toArray, .agg (U q).toArray, .slice A L.length cap] w fun e w' => e = .returned (.bool true) ∧ Below w.heap.size w w' := by
  have HM := Lib.hid hm
  have HQ := Lib.hid hq
  have HK := Lib.hid hk
  have hlt0 := hk.lt
  have hcap := hl.1
  have hcm : cap ≤ 9223372036854775807 := hl.2.1
  clear hm hq hk hl
  by_cases h40 : 40 < L.length
  · generalize L.length = n at *
    go_enter Tryd.func3, Tryd.ntmps3
    go_wp2_with fail
    generalize hW1 : (w.alloc _).alloc _ = W1
    obtain ⟨_, _, hb1, hz1⟩ := box2 w (U m).toArray (U q).toArray 23 23 W1 hW1
    clear hW1
    refine (sane_all W1 (HK.out.keep (hb1.block 0 hlt0))).mono ?_
    rintro e w1 ⟨rfl, hb⟩
    have HB := Lib.hid (hb1.trans (hb.mono (by omega)))
    clear hb hb1 hz1
    go_wp2_with fail
    go_ret
    exact ⟨rfl, HB.out⟩
  obtain ⟨ek, eb, hE, hR⟩ := earlier_any m q L.length cap A HM.out HQ.out (by omega)
  have HE := Lib.hid hE
  have HR := Lib.hid hR
  clear hE hR
  generalize L.length = n at *
  go_enter Tryd.func3, Tryd.ntmps3
  go_wp2_with fail
  generalize hW1 : (w.alloc _).alloc _ = W1
  obtain ⟨h0, h1, hb1, hz1⟩ := box2 w (U m).toArray (U q).toArray 23 23 W1 hW1
  clear hW1
  have KE := Lib.hid (show ∀ ww, Below W1.heap.size W1 ww → RowB ww w.heap.size 23 m ∧ RowB ww (w.heap.size + 1) 23 q ∧ KR ww Kt ∧ Below w.heap.size w ww from fun ww h =>
    ⟨(h.block _ (by omega)).trans h0, (h.block _ (by omega)).trans h1, HK.out.keep ((h.block 0 (by omega)).trans (hb1.block 0 hlt0)), hb1.trans (h.mono (by omega))⟩)
  have STEP := Lib.hid (show ∀ ww w', Below W1.heap.size W1 ww → Below ww.heap.size ww w' → Below W1.heap.size W1 w' from fun ww w' h1 h2 => h1.trans (h2.mono h1.size))
  refine (sane_all W1 (HK.out.keep (hb1.block 0 hlt0))).mono ?_
  rintro e w1 ⟨rfl, hb⟩
  have rm := (KE.out _ hb).1
  have rq := (KE.out _ hb).2.1
  have HB1 := Lib.hid hb
  clear hb hb1 hz1 h0 h1
  go_wp2_with (first | (refine load_B rfl (.tmp 3) rfl w.heap.size rfl 23 m rm HM.out ?_) | (refine load_B rfl (.tmp 4) rfl (w.heap.size + 1) rfl 23 q rq HQ.out ?_))
  refine (HE.out w1).mono ?_
  rintro e w2 ⟨rfl, hb⟩
  have hb2 := STEP.out _ _ HB1.out hb
  have rm2 := (KE.out _ hb2).1
  have rq2 := (KE.out _ hb2).2.1
  have HB2 := Lib.hid hb2
  clear hb hb2 rm rq HB1
  go_wp2_with (first | (refine load_B rfl (.tmp 3) rfl w.heap.size rfl 23 m rm2 HM.out ?_) | (refine load_B rfl (.tmp 4) rfl (w.heap.size + 1) rfl 23 q rq2 HQ.out ?_))
  refine (HR.out w2).mono ?_
  rintro e w3 ⟨rfl, hb⟩
  have HB3 := Lib.hid (STEP.out _ _ HB2.out hb)
  clear hb rm2 rq2 HB2
  go_wp2_with fail
  have h0 : Below W1.heap.size W1 w3.drew := HB3.out.drew
  refine wp_region_noPanic ?_
  refine wp_region_held_drew (S := fun ww => Below W1.heap.size W1 ww) (by kernel_rfl) h0 (fun _ => ?_)
  refine tk_load 0 30 (.tmp 3) w.heap.size (0) m rfl (by kernel_rfl) (by kernel_rfl) (by kernel_rfl) (fun _ _ _ _ h => h) rfl rfl rfl rfl (fun ww h => (KE.out ww h).1.range) HM.out h0 ?_
  simp only [Act.put, List.setIfInBounds_toArray, List.set_cons_zero, List.set_cons_succ]
  refine tk_load 2 32 (.tmp 3) w.heap.size (0) m rfl (by kernel_rfl) (by kernel_rfl) (by kernel_rfl) (fun _ _ _ _ h => h) rfl rfl rfl rfl (fun ww h => (KE.out ww h).1.range) HM.out h0 ?_
  simp only [Act.put, List.setIfInBounds_toArray, List.set_cons_zero, List.set_cons_succ]
  generalize w3.drew = V0 at *
  refine lone 1 (by kernel_rfl) rfl (fun K hK => to_call 14 31 _ _ #[.agg (U m).toArray] _ rfl rfl rfl rfl enters_Digits (Digits_all m V0 HM.out) (fun e w5 h5 => ?_))
  obtain ⟨g5, h51, hr5, hg5, h52⟩ := h5
  refine ⟨_, h51, ?_⟩
  have hx5 := STEP.out _ _ h0 h52
  refine hK _ _ hx5 ?_
  simp only [Act.put, List.setIfInBounds_toArray, List.set_cons_zero, List.set_cons_succ]
  clear hK
  refine lone 3 (by kernel_rfl) rfl (fun K hK => to_call 15 33 _ _ #[.agg (U m).toArray] _ rfl rfl rfl rfl enters_rDigits (rDigits_all m w5 HM.out) (fun e w6 h6 => ?_))
  obtain ⟨A6, c6, h61, ho6, h62⟩ := h6
  refine ⟨_, h61, ?_⟩
  have hx6 := STEP.out _ _ hx5 h62
  have hr6 := hr5.keep (h62.block _ hr5.lt)
  have C := rSameInts_all (dgl m) (dgl m) (some ⟨g5, 0, none⟩) 19 A6 c6 w6 ((hr6.il (dgl_len _)).keep fun i hi => ⟨by rw [hi]; exact hr6.lt, rfl⟩) (ho6.il.keep fun i hi => ⟨hi.2, rfl⟩) (by rw [dgl_len]; omega) (by rw [dgl_len]; omega)
  rw [dgl_len, decide_eq_true rfl] at C
  refine hK _ _ hx6 ?_
  simp only [Act.put, List.setIfInBounds_toArray, List.set_cons_zero, List.set_cons_succ]
  clear hK
  refine lone 4 (by kernel_rfl) rfl (fun K hK => to_call 13 34 _ _ #[.slice (some ⟨g5, 0, none⟩) 19 19, .slice A6 19 c6] _ rfl rfl rfl rfl enters_SameInts C (fun e w7 h7 => ⟨_, h7.1, ?_⟩))
  have hx7 := STEP.out _ _ hx6 h7.2
  refine hK _ _ hx7 ?_
  simp only [Act.put, List.setIfInBounds_toArray, List.set_cons_zero, List.set_cons_succ]
  clear hK
  refine tk_move 5 35 (.tmp 34) (.bool true) rfl (by kernel_rfl) (by kernel_rfl) (by kernel_rfl) (fun _ _ _ _ h => h) rfl rfl rfl rfl hx7 ?_
  simp only [Act.put, List.setIfInBounds_toArray, List.set_cons_zero, List.set_cons_succ]
  refine tkw_val 6 36 (.int .i64 ek) rfl (by kernel_rfl) (by kernel_rfl) (by kernel_rfl) (fun _ _ _ _ h => h) (by kernel_rfl) rfl (fun w _ => ev_move (.tmp 7) (.int .i64 ek) rfl rfl) hx7 ?_
  simp only [Act.put, List.setIfInBounds_toArray, List.set_cons_zero, List.set_cons_succ]
  refine tkw_val 7 37 (.int .i64 ek) rfl (by kernel_rfl) (by kernel_rfl) (by kernel_rfl) (fun _ _ _ _ h => h) (by kernel_rfl) rfl (fun w _ => ev_move (.tmp 9) (.int .i64 ek) rfl rfl) hx7 ?_
  simp only [Act.put, List.setIfInBounds_toArray, List.set_cons_zero, List.set_cons_succ]
  refine tkw_val 8 38 (.bool true) rfl (by kernel_rfl) (by kernel_rfl) (by kernel_rfl) (fun _ _ _ _ h => h) (by kernel_rfl) rfl (fun w _ => ev_eqt_int 3 (.tmp 36) (.tmp 37) ek rfl Tryd.underlying3 rfl rfl) hx7 ?_
  simp only [Act.put, List.setIfInBounds_toArray, List.set_cons_zero, List.set_cons_succ]
  refine tk_val 9 39 (.bool true) rfl (by kernel_rfl) (by kernel_rfl) (by kernel_rfl) (fun _ _ _ _ h => h) rfl rfl (fun w _ => ev_pick_t (.tmp 35) (.tmp 38) (.const (.bool false)) _ rfl rfl rfl) hx7 ?_
  simp only [Act.put, List.setIfInBounds_toArray, List.set_cons_zero, List.set_cons_succ]
  refine tk_move 10 40 (.tmp 39) (.bool true) rfl (by kernel_rfl) (by kernel_rfl) (by kernel_rfl) (fun _ _ _ _ h => h) rfl rfl rfl rfl hx7 ?_
  simp only [Act.put, List.setIfInBounds_toArray, List.set_cons_zero, List.set_cons_succ]
  refine tkw_val 11 41 (.bool eb) rfl (by kernel_rfl) (by kernel_rfl) (by kernel_rfl) (fun _ _ _ _ h => h) (by kernel_rfl) rfl (fun w _ => ev_move (.tmp 8) (.bool eb) rfl rfl) hx7 ?_
  simp only [Act.put, List.setIfInBounds_toArray, List.set_cons_zero, List.set_cons_succ]
  refine tkw_val 12 42 (.bool eb) rfl (by kernel_rfl) (by kernel_rfl) (by kernel_rfl) (fun _ _ _ _ h => h) (by kernel_rfl) rfl (fun w _ => ev_move (.tmp 10) (.bool eb) rfl rfl) hx7 ?_
  simp only [Act.put, List.setIfInBounds_toArray, List.set_cons_zero, List.set_cons_succ]
  refine tkw_val 13 43 (.bool true) rfl (by kernel_rfl) (by kernel_rfl) (by kernel_rfl) (fun _ _ _ _ h => h) (by kernel_rfl) rfl (fun w _ => ev_eqt_bool (.tmp 41) (.tmp 42) eb rfl rfl rfl) hx7 ?_
  simp only [Act.put, List.setIfInBounds_toArray, List.set_cons_zero, List.set_cons_succ]
  refine tk_val 14 44 (.bool true) rfl (by kernel_rfl) (by kernel_rfl) (by kernel_rfl) (fun _ _ _ _ h => h) rfl rfl (fun w _ => ev_pick_t (.tmp 40) (.tmp 43) (.const (.bool false)) _ rfl rfl rfl) hx7 ?_
  simp only [Act.put, List.setIfInBounds_toArray, List.set_cons_zero, List.set_cons_succ]
  refine tk_assign 15 6 (.tmp 44) (.bool true) rfl (by kernel_rfl) (by kernel_rfl) (by kernel_rfl) (fun _ _ _ _ h => h) rfl rfl rfl rfl hx7 ?_
  simp only [Act.put, List.setIfInBounds_toArray, List.set_cons_zero, List.set_cons_succ]
  refine wpAnyH_done (by kernel_rfl) (NoPanic.normal ?_) _
  have HX7 := Lib.hid hx7
  clear hx7 hx6 hx5 h0 h7 h52 h62 hr5 hr6 ho6 C hg5
  go_wp2_with fail
  go_ret
  exact ⟨rfl, (KE.out _ HX7.out).2.2.2⟩
end Go.Proofs.YtllkkafajchioaaDoor
