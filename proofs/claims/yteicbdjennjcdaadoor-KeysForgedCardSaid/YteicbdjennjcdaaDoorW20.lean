/- Several texts joined: parts ML MM. -/
import Derived.Sort.QuietLawsIn
import Derived.Test.YteicbdjennjcdaaDoorW19
namespace Go.Proofs.YteicbdjennjcdaaDoor
section
set_option maxRecDepth 100000
open Go.RowKit

/-- no operation of the region defers -/
def noDefer (ops : Array Oper) : Bool := ops.all fun o => match o.op with | .defer _ => false | _ => true
theorem noDefer_at {ops : Array Oper} (h : noDefer ops = true) {i : Nat} {o : Oper} (hi : ops[i]? = some o) (c) : o.op ≠ .defer c := by
  intro hc
  obtain ⟨h1, h2⟩ := Array.getElem?_eq_some_iff.1 hi
  have := Array.all_eq_true.1 h i h1
  rw [h2, hc] at this
  exact absurd this (by simp)
section
variable {F : Fence} {n : Nat} {P : Program} {ops : Array Oper} {md : Region.Mode} {C : World → Prop}
theorem quiet_op_round {o : Oper} {a : Act} {K : Act → Prop} {K' : Act → World → Prop} {Q' : Exit → Act → World → Prop} {w : World} (hd : ∀ c, o.op ≠ .defer c) (hw : C w) (h : ∀ a w', C w' → K a → K' a w')
    (ha : o.askedIn F P a C) (hh : o.quietIn F n P a C K) : o.wpIn F n P a w K' Q' := by
  obtain ⟨v, h1, h2⟩ := hh
  have h3 := h1 w hw
  unfold Oper.quietAtIn at h3
  refine ⟨ha w hw, ?_⟩
  rw [Oper.semAt_eq _ _ _ hd]
  revert h3
  generalize (execOp a.eval o).run P w = r
  intro h3
  rcases r with ⟨x, w'⟩ | ⟨x, w'⟩
  · cases x with
    | value u => obtain ⟨rfl, rfl⟩ := h3; exact h _ _ hw h2
    | skip => obtain ⟨rfl, rfl⟩ := h3; exact h _ _ hw h2
    | enter f args =>
      obtain ⟨rfl, hd, hc⟩ := h3
      exact ⟨hd, hc.mono fun e w'' ⟨he, hw''⟩ => by subst he; exact h _ _ hw'' h2⟩
    | _ => exact h3.elim
  · exact h3.elim
theorem quiet_nth_round {i : Nat} {a : Act} {K : Act → Prop} {K' : Act → World → Prop} {Q' : Exit → Act → World → Prop} {w : World} (hD : noDefer ops = true) (hC : C w) (h : ∀ a w', C w' → K a → K' a w')
    (hh : qOpIn F n P ops C i K a) : wpOpIn F n P ops Q' i K' a w := by
  unfold qOpIn at hh
  unfold wpOpIn
  cases ho : ops[i]? with
  | none => simp only [ho] at hh ⊢; exact h _ _ hC hh
  | some o =>
    simp only [ho] at hh ⊢
    obtain ⟨ha, hh⟩ := hh
    by_cases hw : Region.wanted o (yielded ops a.tmps) = true
    · simp only [hw, if_true] at hh ⊢
      exact quiet_op_round (noDefer_at hD ho) hC h ha hh
    · simp only [hw] at hh ⊢
      exact ⟨ha w hC, h _ _ hC hh⟩
theorem quiet_any_round {Q : Act → Prop} {Q' : Exit → Act → World → Prop} (hD : noDefer ops = true) (hQ : ∀ a w, C w → Q a → Q' .normal a w) : ∀ (fuel : Nat) (listed : Array Bool) (a : Act) (w : World), C w →
    wpAnyQIn F n P md ops C Q fuel listed a → wpAnyIn F n P md ops Q' fuel listed a w
  | 0, _, _, _, hw, h => ⟨h.1, hQ _ _ hw h.2⟩
  | fuel + 1, _, _, _, hw, h => ⟨fun h0 => hQ _ _ hw (h.1 h0), fun i hi => quiet_nth_round hD hw (fun a' w' hw' => quiet_any_round hD hQ fuel _ a' w' hw') (h.2 i hi)⟩
/-- one walk of the order in which the operations are written serves every order, inside a round too -/
theorem region_quiet_round {id : Nat} {Q : Exit → Act → World → Prop} {a : Act} {w : World} (hD : noDefer ops = true) (hm : P.follows .mixedOrders = true) (hB : Region.lexB .any ops = true) (hC : C { w with drawn := w.drawn + 1 })
    (h : wpQuietIn F n P ops C (fun a' => ∀ w', C w' → Q .normal a' w') ops.toList a) : (Code.region id ops true).wpIn F n P Q a w := by
  simp only [Region.lexB, Bool.and_eq_true] at hB
  refine wpIn_region_any hm (quiet_any_round (Q := fun a' => ∀ w', C w' → Q .normal a' w') hD (fun _ w' hw' h => h w' hw') _ _ _ _ hC ?_)
  have := wpAnyQIn_lex (F := F) (n := n) (C := C) (md := .any) hB.1 ops.toList 0 (Array.replicate ops.size false) a (by simp) (by simpa using hB.2) h
  simpa using this
end
/-- an operation of a region, by its number -/
def OpAt (ops : Array Oper) (i : Nat) (op : Op) (n : Nat) (g : Option (Nat × Bool)) : Prop := ∃ o, ops[i]? = some o ∧ o.op = op ∧ o.dst = some n ∧ o.guard = g
theorem wn {ops : Array Oper} {a : Act} (o : Oper) (h : o.guard = none) : Region.wanted o (yielded ops a.tmps) = true := by simp [Region.wanted, h]
theorem wt {ops : Array Oper} {a : Act} {j d : Nat} {opj : Op} {gj : Option (Nat × Bool)} {b : Bool} (H : OpAt ops j opj d gj) (ht : a.tmps[d]? = some (.bool b)) (o : Oper) (h : o.guard = some (j, b)) : Region.wanted o (yielded ops a.tmps) = true := by
  obtain ⟨oj, h1, _, h3, _⟩ := H
  simp [Region.wanted, h, yielded, h1, h3, ht]
theorem wf {ops : Array Oper} {a : Act} {j d : Nat} {opj : Op} {gj : Option (Nat × Bool)} {b : Bool} (H : OpAt ops j opj d gj) (ht : a.tmps[d]? = some (.bool (!b))) (o : Oper) (h : o.guard = some (j, b)) : Region.wanted o (yielded ops a.tmps) = false := by
  obtain ⟨oj, h1, _, h3, _⟩ := H
  simp [Region.wanted, h, yielded, h1, h3, ht]

/-- the rest of a quiet region inside a round, from its i-th operation on -/
structure WI (l n : Nat) (ops : Array Oper) (C : World → Prop) (Q : Act → Prop) (i : Nat) (a : Act) : Prop where
  h : wpQuietIn (Fence.wide.inRound l) n Tryd.prog ops C Q (ops.toList.drop i) a
section
variable {l m : Nat} {ops : Array Oper} {a : Act} {C : World → Prop} {Q : Act → Prop} {i n : Nat} {op : Op} {g : Option (Nat × Bool)}
theorem wi_step {o : Oper} (hi : ops[i]? = some o) (h : wpQuietIn (Fence.wide.inRound l) m Tryd.prog ops C Q (o :: ops.toList.drop (i + 1)) a) : WI l m ops C Q i a := by
  obtain ⟨h1, h2⟩ := Array.getElem?_eq_some_iff.1 hi
  have e : ops.toList.drop i = o :: ops.toList.drop (i + 1) := by
    rw [List.drop_eq_getElem_cons (by simpa using h1)]
    simp [h2]
  refine ⟨?_⟩
  rw [e]
  exact h
theorem wi_val (H : OpAt ops i op n g) {i' : Nat} (e : i' = i + 1) (hw : ∀ o : Oper, o.guard = g → Region.wanted o (yielded ops a.tmps) = true) (v : Value) (hy : ∀ o : Oper, o.op = op → ∀ w, C w → (execOp a.eval o).run Tryd.prog w = .ok (.value v) w)
    (h : WI l m ops C Q i' (a.put (some n) v)) : WI l m ops C Q i a := by
  subst e
  obtain ⟨o, h1, h2, h3, h4⟩ := H
  refine wi_step h1 (BigFrame.wpQuietIn_want (fun _ _ _ _ => trivial) (hw o h4) fun K hK => ⟨v, fun w hc => ?_, by rw [h3]; exact hK _ h.h⟩)
  unfold Oper.quietAtIn
  rw [hy o h2 w hc]
  exact ⟨rfl, rfl⟩
theorem wi_skip (H : OpAt ops i op n g) {i' : Nat} (e : i' = i + 1) (hw : ∀ o : Oper, o.guard = g → Region.wanted o (yielded ops a.tmps) = false)
    (h : WI l m ops C Q i' (a.put (some n) undef)) : WI l m ops C Q i a := by
  subst e
  obtain ⟨o, h1, h2, h3, h4⟩ := H
  refine wi_step h1 (BigFrame.wpQuietIn_skip (fun _ _ _ _ => trivial) (hw o h4) ?_)
  rw [h3]
  exact h.h
theorem wi_move {x : Operand} {v : Value} (H : OpAt ops i (.move x) n g) {i' : Nat} (e : i' = i + 1) (hw : ∀ o : Oper, o.guard = g → Region.wanted o (yielded ops a.tmps) = true) (hx : a.eval x = v)
    (h : WI l m ops C Q i' (a.put (some n) v)) : WI l m ops C Q i a :=
  wi_val H e hw v (fun o ho w _ => by subst hx; simp [execOp, ho]) h
theorem wi_assign {x : Operand} {v : Value} (H : OpAt ops i (.assign x) n g) {i' : Nat} (e : i' = i + 1) (hw : ∀ o : Oper, o.guard = g → Region.wanted o (yielded ops a.tmps) = true) (hx : a.eval x = v)
    (h : WI l m ops C Q i' (a.put (some n) v)) : WI l m ops C Q i a :=
  wi_val H e hw v (fun o ho w _ => by subst hx; simp [execOp, ho]) h
theorem wi_call {k : Nat} {xs : Array Operand} {ts : Array TypeId} (H : OpAt ops i (.call { callee := .value (.func k), args := xs, argTypes := ts }) n g) {i' : Nat} (e : i' = i + 1) (hw : ∀ o : Oper, o.guard = g → Region.wanted o (yielded ops a.tmps) = true) (vs : Array Value) (v : Value)
    (hx : xs.toList.map a.eval = vs.toList) (he : Enters Tryd.prog k) (hC : ∀ w, C w → Calls Tryd.prog k vs w fun e w' => e = .returned v ∧ C w')
    (h : WI l m ops C Q i' (a.put (some n) v)) : WI l m ops C Q i a := by
  subst e
  obtain ⟨o, h1, h2, h3, h4⟩ := H
  refine wi_step h1 (BigFrame.wpQuietIn_want (fun _ _ _ _ => trivial) (hw o h4) fun K hK => ⟨v, fun w hc => ?_, by rw [h3]; exact hK _ h.h⟩)
  have hrun : (execOp a.eval o).run Tryd.prog w = .ok (.enter k vs) w := by
    obtain rfl : xs.map a.eval = vs := by apply Array.toList_inj.1; simpa using hx
    simp [execOp, h2, resolve, invoke, go_sem]
    exact he _ _
  unfold Oper.quietAtIn
  rw [hrun]
  exact ⟨rfl, fun h => by simp [Fence.wide] at h, callsIn_wide.2 (hC w hc)⟩
theorem wi_done (h : Q a) (i : Nat) (hi : ops.size ≤ i) : WI l m ops C Q i a := by
  refine ⟨?_⟩
  rw [List.drop_eq_nil_of_le (by simpa using hi)]
  exact wpQuietIn_nil h
theorem wi_region (ops : Array Oper) (C : World → Prop) {id : Nat} {Q : Exit → Act → World → Prop} {w : World} (hD : noDefer ops = true) (hm : Tryd.prog.follows .mixedOrders = true) (hB : Region.lexB .any ops = true) (hC : C { w with drawn := w.drawn + 1 })
    (h : WI l m ops C (fun a' => ∀ w', C w' → Q .normal a' w') 0 a) : (Code.region id ops true).wpIn (Fence.wide.inRound l) m Tryd.prog Q a w :=
  region_quiet_round hD hm hB hC (by simpa using h.h)
end
section
variable {o : Oper} {a : Act} {w : World}
end
theorem below_of {w0 w : World} {p : Addr} {v : Value} (h : Below w0.heap.size w0 w) (hc : w0.cell? p = some v) : w.cell? p = some v := (h.cell (World.block_lt_of_cell? _ _ hc)).trans hc
end
section
set_option maxRecDepth 100000
open Go.RowKit Go.Shelf

attribute [local go_sem] Oper.semAt_some

/-- how a signature came about -/
def exF (D K : List Nat) (has : Bool) (C O : List (List UInt8)) : Nat × Nat :=
  if has = true ∧ D = K then (1, 0) else match (erl D K 0).find? (fun i => decide (C.getD i.val [] = O.getD i.val [])) with | some i => (2, i.val) | none => (3, 0)
theorem res_2 {fn : Func} {p q : Tmp} (h : fn.results = #[.cell p 3, .cell q 3]) (tmps : Array Value) (w : World) (g g' : Nat) (x y : Int)
    (hp : tmps.getD p undef = .pointer (some ⟨g, 0, none⟩)) (hq : tmps.getD q undef = .pointer (some ⟨g', 0, none⟩)) (hx : w.cell? ⟨g, 0, none⟩ = some (.int .i64 x)) (hy : w.cell? ⟨g', 0, none⟩ = some (.int .i64 y)) :
    (results fn tmps).run Tryd.prog w = .ok (.tuple #[.int .i64 x, .int .i64 y]) w := by
  have hp' : tmps[p]?.getD undef = .pointer (some ⟨g, 0, none⟩) := by simpa using hp
  have hq' : tmps[q]?.getD undef = .pointer (some ⟨g', 0, none⟩) := by simpa using hq
  simp [results, h, hp', hq', asAddr, go_sem, hx, hy]
/-- the first that fits is the last of these -/
def Hits (C O : List (List UInt8)) (pre : List (Fin 19)) : Prop := ∃ p0 i, pre = p0 ++ [i] ∧ (∀ j ∈ p0, C.getD j.val [] ≠ O.getD j.val []) ∧ C.getD i.val [] = O.getD i.val []
def lastV (pre : List (Fin 19)) : Nat := (pre.map (·.val)).getLastD 0
theorem exF_none (D K : List Nat) (has : Bool) (C O : List (List UInt8)) (h : (has && decide (D = K)) = false) (hn : ∀ j ∈ erl D K 0, C.getD j.val [] ≠ O.getD j.val []) : exF D K has C O = (3, 0) := by
  have h' : ¬ (has = true ∧ D = K) := fun ⟨a, b⟩ => by rw [a, decide_eq_true b] at h; cases h
  unfold exF
  rw [if_neg h', List.find?_eq_none.2 fun j hj => by simpa using hn j hj]
theorem exF_some (D K : List Nat) (has : Bool) (C O : List (List UInt8)) (h : (has && decide (D = K)) = false) (pre : List (Fin 19)) (hp : pre <+: erl D K 0) (hh : Hits C O pre) : exF D K has C O = (2, lastV pre) := by
  have h' : ¬ (has = true ∧ D = K) := fun ⟨a, b⟩ => by rw [a, decide_eq_true b] at h; cases h
  obtain ⟨p0, i, rfl, h1, h2⟩ := hh
  obtain ⟨r, hr⟩ := hp
  unfold exF
  have e : (p0 ++ [i] ++ r).find? (fun i => decide (C.getD i.val [] = O.getD i.val [])) = some i := by
    rw [List.find?_append, List.find?_append, List.find?_eq_none.2 fun j hj => by simpa using h1 j hj, List.find?_cons, decide_eq_true h2]
    rfl
  rw [if_neg h', ← hr, e]
  simp [lastV]
theorem exF_same (D K : List Nat) (has : Bool) (C O : List (List UInt8)) (h : (has && decide (D = K)) = true) : exF D K has C O = (1, 0) := by
  simp only [Bool.and_eq_true, decide_eq_true_eq] at h
  exact if_pos h
theorem ev_eqDq {o : Oper} {a : Act} {w : World} (x y : Operand) (l m : List UInt8) (dq : Bool) (hq : decide (l = m) = dq) (hl : l.length = 32) (hm : m.length = 32) (ho : o.op = .binOp .eql 23 x y 23) (hx : a.eval x = .agg (U l).toArray) (hy : a.eval y = .agg (U m).toArray) :
    (execOp a.eval o).run Tryd.prog w = .ok (.value (.bool dq)) w := by
  subst hq
  exact ev_eqD x y l m hl hm ho hx hy
theorem ev_loadD {o : Oper} {a : Act} {w : World} (x : Operand) (b ofs : Nat) (d : List UInt8) (ho : o.op = .load 23 x) (hx : a.eval x = .pointer (some ⟨b, ofs, none⟩)) (h : w.rangeAt b ofs (U d)) (hd : d.length = 32) :
    (execOp a.eval o).run Tryd.prog w = .ok (.value (.agg (U d).toArray)) w := by
  unfold execOp
  simp only [ho, hx, Instr.loadAt, Instr.sureAddr, Sem.run_bind, Sem.run_pure, Result.andThen_ok, run_loadVar_mid w b ofs 23 (U d) _ h Tryd.underlying23 rfl (by rw [sz32, U_length, hd])]
theorem ev_loadS {o : Oper} {a : Act} {w : World} (x : Operand) (b : Nat) (A : Option Addr) (n c : Nat) (ho : o.op = .load 26 x) (hx : a.eval x = .pointer (some ⟨b, 0, none⟩)) (h : w.cell? ⟨b, 0, none⟩ = some (.slice A n c)) :
    (execOp a.eval o).run Tryd.prog w = .ok (.value (.slice A n c)) w := by
  unfold execOp
  simp only [ho, hx]
  go_simp
def ExI (C O : List (List UInt8)) (W9 : World) (pre : List (Fin 19)) (W : World) : Prop := Below W9.heap.size W9 W ∧ ∀ j ∈ pre, C.getD j.val [] ≠ O.getD j.val []
def ExX (C O : List (List UInt8)) (B : Nat) (w : World) (c : Code) (pre : List (Fin 19)) (W : World) : Prop := ((c = .ret ∧ Hits C O pre) ∧ (Boxed W (B + 4) 3 (.int .i64 2) ∧ Boxed W (B + 5) 3 (.int .i64 (lastV pre : Nat)))) ∧ Below w.heap.size w W
theorem enters_Digits : Enters Tryd.prog 23 := enters_of Tryd.func23 (by kernel_rfl) rfl
theorem enters_revealed : Enters Tryd.prog 85 := enters_of Tryd.func85 (by kernel_rfl) rfl
/-- the boxes of explain -/
structure ExB (w : World) (B : Nat) (b m : List UInt8) (C O : Value) (x y : Int) : Prop where
  bef : RowB w B 23 b
  msg : RowB w (B + 1) 23 m
  shown : Boxed w (B + 2) 26 C
  own : Boxed w (B + 3) 26 O
  kind : Boxed w (B + 4) 3 (.int .i64 x)
  at_ : Boxed w (B + 5) 3 (.int .i64 y)
theorem ExB.keep {w w' : World} {B : Nat} {b m : List UInt8} {C O : Value} {x y : Int} (h : ExB w B b m C O x y) (hk : ∀ j, B ≤ j → j < B + 6 → w'.heap[j]? = w.heap[j]?) : ExB w' B b m C O x y :=
  ⟨h.bef.keep (hk _ (by omega) (by omega)), h.msg.keep (hk _ (by omega) (by omega)), (hk _ (by omega) (by omega)).trans h.shown, (hk _ (by omega) (by omega)).trans h.own, (hk _ (by omega) (by omega)).trans h.kind, (hk _ (by omega) (by omega)).trans h.at_⟩
theorem exb_new (w W : World) (b m : List UInt8) (C O : Value)
    (h : (((((w.alloc (.cells (U b).toArray 23)).alloc (.cells (U m).toArray 23)).alloc (.cells #[C] 26)).alloc (.cells #[O] 26)).alloc (.cells #[.int .i64 0] 3)).alloc (.cells #[.int .i64 0] 3) = W) :
    ExB W w.heap.size b m C O 0 0 ∧ Below w.heap.size w W ∧ W.heap.size = w.heap.size + 6 := by
  obtain ⟨W3, hW3⟩ : ∃ W3, ((w.alloc (.cells (U b).toArray 23)).alloc (.cells (U m).toArray 23)).alloc (.cells #[C] 26) = W3 := ⟨_, rfl⟩
  rw [hW3] at h
  obtain ⟨a1, a2, a3, a4, a5⟩ := box3 w _ _ _ _ _ _ W3 hW3
  obtain ⟨c1, c2, c3, c4, c5⟩ := box3 W3 _ _ _ _ _ _ W h
  rw [a5] at c1 c2 c3 c4 c5
  exact ⟨⟨(c4.block _ (by omega)).trans a1, (c4.block _ (by omega)).trans a2, (c4.block _ (by omega)).trans a3, c1, c2, c3⟩, a4.trans (c4.mono (by omega)), c5⟩

set_option maxHeartbeats 3200000 in
theorem explain_in (n : Nat) (hn : 6 ≤ n) (b m : List UInt8) (has : Bool) (C O : List (List UInt8)) (cA oA : Option Addr) (cc oc : Nat) (w : World) (hb32 : b.length = 32) (hm32 : m.length = 32) (hC19 : C.length = 19) (hO19 : O.length = 19)
    (hC : DL w (· < w.heap.size) C cA cc) (hO : DL w (· < w.heap.size) O oA oc) :
    CallsIn Fence.wide n Tryd.prog 50 #[.agg (U b).toArray, .bool has, .agg (U m).toArray, .slice cA 19 cc, .slice oA 19 oc] w fun e w' =>
      e = .returned (.tuple #[.int .i64 ((exF (dgl m) (rvF b has) has C O).1 : Nat), .int .i64 ((exF (dgl m) (rvF b has) has C O).2 : Nat)]) ∧ Below w.heap.size w w' := by
  have h1 : 1 ≤ n := by omega
  have HB := Lib.hid hb32
  have HM := Lib.hid hm32
  have HC := Lib.hid hC
  have HO := Lib.hid hO
  have HC19 := Lib.hid hC19
  have HO19 := Lib.hid hO19
  clear hb32 hm32 hC hO hC19 hO19
  refine callsIn_of_wp_marks Tryd.func50 rfl trivial ?_ rfl
  simp only [Tryd.ntmps50, List.size_toArray, List.length_cons, List.length_nil, Nat.reduceAdd, Nat.reduceSub, Array.replicate_succ, Array.replicate_zero, List.push_toArray, List.append_toArray, List.nil_append, List.cons_append]
  refine wpIn_wide.2 ?_
  go_upto_region 1 with fail
  generalize hW1 : (((((w.alloc _).alloc _).alloc _).alloc _).alloc _).alloc _ = W1
  obtain ⟨hx1, hb1, hz1⟩ := exb_new w W1 b m _ _ hW1
  clear hW1
  have HX1 := Lib.hid hx1
  have HB1 := Lib.hid hb1
  have KEEP := Lib.hid (show ∀ ww, Below W1.heap.size W1 ww → ExB ww w.heap.size b m (.slice cA 19 cc) (.slice oA 19 oc) 0 0 ∧ Below w.heap.size w ww from fun ww h => ⟨HX1.out.keep fun j _ h2 => h.block j (by omega), HB1.out.trans (h.mono hb1.size)⟩)
  have STEP := Lib.hid (show ∀ ww w', Below W1.heap.size W1 ww → Below ww.heap.size ww w' → Below W1.heap.size W1 w' from fun ww w' h1 h2 => h1.trans (h2.mono h1.size))
  have hsz1 : w.heap.size + 6 ≤ W1.heap.size := by omega
  have hbx : Below W1.heap.size W1 W1.drew := (Below.refl _ _).drew
  clear hx1 hb1 hz1
  refine wp_region_noPanic ?_
  refine wp_region_held_drew (S := fun ww => Below W1.heap.size W1 ww) (by kernel_rfl) hbx (fun h0 => ?_)
  refine tk_load 0 15 (.tmp 7) (w.heap.size + 1) (0) m rfl (by kernel_rfl) (by kernel_rfl) (by kernel_rfl) (fun _ _ _ _ h => h) rfl rfl rfl rfl (fun ww h => (KEEP.out ww h).1.msg.range) HM.out h0 ?_
  simp only [Act.put, List.setIfInBounds_toArray, List.set_cons_zero, List.set_cons_succ]
  refine tk_load 2 17 (.tmp 5) w.heap.size (0) b rfl (by kernel_rfl) (by kernel_rfl) (by kernel_rfl) (fun _ _ _ _ h => h) rfl rfl rfl rfl (fun ww h => (KEEP.out ww h).1.bef.range) HB.out h0 ?_
  simp only [Act.put, List.setIfInBounds_toArray, List.set_cons_zero, List.set_cons_succ]
  refine tk_move 3 18 (.tmp 1) (.bool has) rfl (by kernel_rfl) (by kernel_rfl) (by kernel_rfl) (fun _ _ _ _ h => h) rfl rfl rfl rfl h0 ?_
  simp only [Act.put, List.setIfInBounds_toArray, List.set_cons_zero, List.set_cons_succ]
  clear h0
  generalize W1.drew = V0 at hbx ⊢
  refine lone 1 (by kernel_rfl) rfl (fun K hK => to_call 23 16 _ _ #[.agg (U m).toArray] _ rfl rfl rfl rfl enters_Digits (Digits_all m V0 HM.out) (fun e w5 hq => ?_))
  obtain ⟨g5, h51, hr5, hg5, hb5⟩ := hq
  refine ⟨_, h51, ?_⟩
  have hx5 := STEP.out _ _ hbx hb5
  refine hK _ _ hx5 ?_
  simp only [Act.put, List.setIfInBounds_toArray, List.set_cons_zero, List.set_cons_succ]
  clear hK
  have HR5 := Lib.hid hr5
  refine lone 4 (by kernel_rfl) rfl (fun K hK => to_call 85 19 _ _ #[.agg (U b).toArray, .bool has] _ rfl rfl rfl rfl enters_revealed (revealed_all b has w5 HB.out) (fun e w6 hq => ?_))
  obtain ⟨g6, h61, hr6, hg6, hb6⟩ := hq
  refine ⟨_, h61, ?_⟩
  have hx6 := STEP.out _ _ hx5 hb6
  refine hK _ _ hx6 ?_
  simp only [Act.put, List.setIfInBounds_toArray, List.set_cons_zero, List.set_cons_succ]
  clear hK
  have HR6 := Lib.hid hr6
  have HR56 := Lib.hid (HR5.out.keep (hb6.block _ hr5.lt))
  have hg56 : g5 < w6.heap.size ∧ W1.heap.size ≤ g5 := ⟨by have := hr5.lt; have := hb6.size; omega, by have := hbx.size; omega⟩
  have hg66 : g6 < w6.heap.size ∧ W1.heap.size ≤ g6 := ⟨hr6.lt, by have := hx5.size; omega⟩
  refine tk_assign 5 12 (.tmp 16) (.slice (some ⟨g5, 0, none⟩) 19 19) rfl (by kernel_rfl) (by kernel_rfl) (by kernel_rfl) (fun _ _ _ _ h => h) rfl rfl rfl rfl hx6 ?_
  simp only [Act.put, List.setIfInBounds_toArray, List.set_cons_zero, List.set_cons_succ]
  refine tk_assign 6 13 (.tmp 19) (.slice (some ⟨g6, 0, none⟩) 19 19) rfl (by kernel_rfl) (by kernel_rfl) (by kernel_rfl) (fun _ _ _ _ h => h) rfl rfl rfl rfl hx6 ?_
  simp only [Act.put, List.setIfInBounds_toArray, List.set_cons_zero, List.set_cons_succ]
  refine wpAnyH_done (by kernel_rfl) (NoPanic.normal ?_) _
  obtain ⟨hx6a, hb6a⟩ := KEEP.out _ hx6
  have HX6 := Lib.hid hx6a
  have HB6 := Lib.hid hb6a
  have hsz6 : w.heap.size + 6 ≤ w6.heap.size := by have := hx6.size; omega
  clear hx6a hb6a h51 hr5 hg5 hb5 h61 hr6 hg6 hb6 HR5 hx5 hx6 hbx KEEP STEP HX1 HB1
  have HLK := Lib.hid (rvF_len b has)
  have HLD := Lib.hid (dgl_len m)
  obtain ⟨D, hD⟩ : ∃ D, dgl m = D := ⟨_, rfl⟩
  obtain ⟨K, hKv⟩ : ∃ K, rvF b has = K := ⟨_, rfl⟩
  rw [hD] at HR56 HLD
  rw [hKv] at HR6 HLK
  have HDD := Lib.hid hD
  have HKK := Lib.hid hKv
  clear hD hKv
  go_upto_region 2 with fail
  go_cut [25] from 20 to 25 (fun c wx => c = .bool (has && decide (D = K)) ∧ Hid (Below w6.heap.size w6 wx))
  case first =>
    cases has with
    | false =>
      go_wp2_with fail
      go_meet
      exact ⟨rfl, Lib.hid (Below.refl _ _)⟩
    | true =>
      go_wp2_with fail
      have CE := Equal_all D K _ _ _ _ w6 ((HR56.out.il HLD.out).keep fun i hi => ⟨by subst hi; exact hg56.1, rfl⟩) ((HR6.out.il HLK.out).keep fun i hi => ⟨by subst hi; exact hg66.1, rfl⟩) (by rw [HLD.out]; omega) (by rw [HLD.out, HLK.out])
      rw [HLD.out, HLK.out] at CE
      refine CE.mono ?_
      rintro e w7 ⟨rfl, hb7⟩
      have HB7 := Lib.hid hb7
      clear hb7 CE
      obtain ⟨dq, hdq⟩ : ∃ dq, decide (D = K) = dq := ⟨_, rfl⟩
      rw [hdq]
      have HDQ := Lib.hid hdq
      clear hdq
      go_wp2_with fail
      go_meet
      exact ⟨by rw [HDQ.out]; rfl, HB7⟩
  case rest =>
    obtain ⟨rfl, HBc⟩ := hcut
    have HX7 := Lib.hid (HX6.out.keep (w' := wc) fun j _ h2 => HBc.out.block j (by omega))
    have HB7 := Lib.hid (HB6.out.trans (HBc.out.mono (by omega)))
    have HR57 := Lib.hid (HR56.out.keep (HBc.out.block _ hg56.1))
    have HR67 := Lib.hid (HR6.out.keep (HBc.out.block _ hg66.1))
    have hsz7 : w6.heap.size ≤ wc.heap.size := HBc.out.size
    clear HX6 HB6 HR56 HR6 HBc
    by_cases heq : (has && decide (D = K)) = true
    · have HV := Lib.hid (exF_same D K has C O heq)
      rw [heq]
      have k1 := HX7.out.kind.cell
      have k2 := HX7.out.kind.frozen
      have k3 := HX7.out.at_.cell
      have k4 := HX7.out.at_.frozen
      clear heq
      go_wp2_with fail
      have b1 := HX7.out.kind.set (.int .i64 1)
      have b2 := (HX7.out.at_.other (B' := w.heap.size + 4) (by omega) (.int .i64 1)).set (.int .i64 0)
      have b3 := b1.other (B' := w.heap.size + 5) (by omega) (.int .i64 0)
      refine ⟨_, res_2 rfl _ _ _ _ _ _ rfl rfl b3.cell b2.cell, ?_, ?_⟩
      · rw [HDD.out, HKK.out, HV.out]; rfl
      · exact ((HB7.out.setCell (show w.heap.size ≤ w.heap.size + 4 by omega) _).setCell (show w.heap.size ≤ w.heap.size + 5 by omega) _)
    have hc : (has && decide (D = K)) = false := by simpa using heq
    have HCF := Lib.hid hc
    rw [hc]
    clear hc heq
    obtain ⟨cb, co, rfl, hcb, _⟩ := HC.out.2.2.2.2 (by rw [HC19.out]; omega)
    obtain ⟨ob, oo, rfl, hob, _⟩ := HO.out.2.2.2.2 (by rw [HO19.out]; omega)
    have hccap : 19 ≤ cc ∧ 19 ≤ oc := ⟨by have := HC.out.1; rw [HC19.out] at this; exact this, by have := HO.out.1; rw [HO19.out] at this; exact this⟩
    go_wp2_with fail
    refine (earlier_all _ _ _ _ _ _ wc).mono ?_
    rintro e W9 ⟨rfl, h9⟩
    obtain ⟨e1, e2, hb9, hz9⟩ := box2 wc _ _ _ _ W9 h9.symm
    clear h9
    have HE1 := Lib.hid (cell_of_row W9 wc.heap.size 0 _ _ _ e1)
    have HE2 := Lib.hid (cell_of_row W9 (wc.heap.size + 1) 0 _ _ _ e2)
    have HX9 := Lib.hid (HX7.out.keep (w' := W9) fun j _ h2 => hb9.block j (by omega))
    have HB9 := Lib.hid (HB7.out.trans (hb9.mono (by omega)))
    have HR59 := Lib.hid (HR57.out.keep (hb9.block _ (by omega)))
    have HR69 := Lib.hid (HR67.out.keep (hb9.block _ (by omega)))
    have hz9' : wc.heap.size + 2 ≤ W9.heap.size := by omega
    clear e1 e2 hb9 hz9 HX7 HB7 HR57 HR67
    go_wp2_with fail
    refine (wpIn_wide (n := n)).1 ?_
    refine wpIn_rangeFunc_ownH rfl h1 (gf := 105) (lb := #[.pointer (some ⟨wc.heap.size, 0, none⟩), .pointer (some ⟨wc.heap.size + 1, 0, none⟩)]) rfl trivial (enters_of Tryd.func105 (by kernel_rfl) rfl)
      (earlier_stops (n - 1) (by omega) wc.heap.size (wc.heap.size + 1) g5 g6 _ _ D K HLD.out HLK.out W9 (fun i hi => by rcases hi with rfl | rfl | rfl | rfl <;> omega) HE1.out HE2.out HR59.out HR69.out) KS.trans (fun W l o o' hl _ _ _ => ks_put (B := W9.heap.size) (fun i hi => by rcases hi with rfl | rfl | rfl | rfl <;> omega) W l o' hl) (Below.refl _ _) (fun _ => rfl)
      (ExI C O W9) (ExX C O w.heap.size w)
      (fun s X Y row hs' hg hr => ⟨(ownFrom_below (β := List (Fin 19)) (Nat.le_refl _) (Nat.le_refl _)) s X Y row hs'.1 hg hr, hs'.2⟩)
      (fun c s X Y row hs' hg hr => ⟨⟨hs'.1.1, boxed_own _ _ (fun (_ : Unit) => Value.int .i64 2) () X Y row hs'.1.2.1 hg (fun r e => (hr r e).2), boxed_own _ _ (fun (_ : Unit) => Value.int .i64 (lastV s : Nat)) () X Y row hs'.1.2.2 hg (fun r e => (hr r e).2)⟩, (ownFrom_below (β := List (Fin 19)) (Nat.le_refl _) HB9.out.size) s X Y row hs'.2 hg hr⟩)
      ⟨Below.refl _ _, fun j hj => by cases hj⟩
      (fun x a' _ => a' = { tmps := #[.agg (U b).toArray, .bool has, .agg (U m).toArray, .slice (some ⟨cb, co, none⟩) 19 cc, .slice (some ⟨ob, oo, none⟩) 19 oc, .pointer (some ⟨w.heap.size, 0, none⟩), undef, .pointer (some ⟨w.heap.size + 1, 0, none⟩), .pointer (some ⟨w.heap.size + 1 + 1, 0, none⟩), .pointer (some ⟨w.heap.size + 1 + 1 + 1, 0, none⟩), .pointer (some ⟨w.heap.size + 1 + 1 + 1 + 1, 0, none⟩), .pointer (some ⟨w.heap.size + 1 + 1 + 1 + 1 + 1, 0, none⟩),
        .slice (some ⟨g5, 0, none⟩) 19 19, .slice (some ⟨g6, 0, none⟩) 19 19, .int .i64 (x.val : Int), .agg (U m).toArray, .slice (some ⟨g5, 0, none⟩) 19 19, .agg (U b).toArray, .bool has, .slice (some ⟨g6, 0, none⟩) 19 19, u20, u21, u22, u23, u24, .bool false, .slice (some ⟨g5, 0, none⟩) 19 19, .slice (some ⟨g6, 0, none⟩) 19 19, .func (.func 105) #[] #[.pointer (some ⟨wc.heap.size, 0, none⟩), .pointer (some ⟨wc.heap.size + 1, 0, none⟩)], .int .i64 (x.val : Int), undef, undef, undef, undef, undef, undef, undef, undef, undef, undef], defers := [] })
      (fun _ _ => ownFrom_pure _ _)
      ?assign ?body ?done ?stop
    case assign =>
      rintro l pre x W Kk ⟨hB1, hp⟩ hK
      have HP := Lib.hid hp
      clear hp
      unfold EI
      gi_wp2
      exact hK _ _ (KeepsFrom.refl _ _) (KS.refl _ _) ⟨hB1, HP.out⟩ rfl
    case body =>
      rintro l pre x a' W hl hloop ⟨hbw, hp⟩ rfl hlt
      have HP := Lib.hid hp
      have HBW := Lib.hid hbw
      have hsz := hbw.size
      clear hp hlt
      have hmx : Tryd.prog.follows Departure.mixedOrders = true := by kernel_rfl
      have HXW := Lib.hid (HX9.out.keep (w' := W) fun j _ h2 => hbw.block j (by omega))
      have HBB := Lib.hid (HB9.out.trans (hbw.mono HB9.out.size))
      clear hbw
      have hx := x.isLt
      obtain ⟨d, hd⟩ : ∃ d, C[x.val]? = some d := ⟨_, List.getElem?_eq_getElem (by rw [HC19.out]; exact hx)⟩
      obtain ⟨e, he⟩ : ∃ e, O[x.val]? = some e := ⟨_, List.getElem?_eq_getElem (by rw [HO19.out]; exact hx)⟩
      have hd32 := Lib.hid (HC.out.2.2.2.1 d (List.mem_of_getElem? hd))
      have he32 := Lib.hid (HO.out.2.2.2.1 e (List.mem_of_getElem? he))
      have HRC := Lib.hid (show ∀ ww, Below W.heap.size W ww → ww.rangeAt cb (co + x.val * 32) (U d) ∧ ww.rangeAt ob (oo + x.val * 32) (U e) from fun ww hw => by
        have hbb := HBB.out.trans (hw.mono HBB.out.size)
        obtain ⟨b', o', e', _, hc'⟩ := HC.out.2.2.2.2 (by rw [HC19.out]; omega)
        injection e' with e'
        injection e' with e1 e2
        subst e1 e2
        obtain ⟨b', o', e', _, ho'⟩ := HO.out.2.2.2.2 (by rw [HO19.out]; omega)
        injection e' with e'
        injection e' with e1 e2
        subst e1 e2
        exact ⟨fun j u hu => (World.cell?_of_block (hbb.block _ hcb)).trans (hc' x.val d hd j u hu), fun j u hu => (World.cell?_of_block (hbb.block _ hob)).trans (ho' x.val e he j u hu)⟩)
      have HGC := Lib.hid (show C.getD x.val [] = d by rw [List.getD_eq_getElem?_getD, hd]; rfl)
      have HGO := Lib.hid (show O.getD x.val [] = e by rw [List.getD_eq_getElem?_getD, he]; rfl)
      clear hd he
      have c2 := HXW.out.shown.cell
      have c3 := HXW.out.own.cell
      have HC2 := Lib.hid c2
      have HC3 := Lib.hid c3
      clear c2 c3
      obtain ⟨dq, hdq⟩ : ∃ dq, decide (d = e) = dq := ⟨_, rfl⟩
      have HDQ := Lib.hid hdq
      clear hdq
      have hW0 : w.heap.size + 6 ≤ W.heap.size := by omega
      gi_wp2
      refine wi_region _ (Below W.heap.size W) (by kernel_rfl) hmx (by kernel_rfl) ((Below.refl _ _).drew) ?_
      refine wi_val ⟨_, rfl, rfl, rfl, rfl⟩ (i' := 1) rfl wn (.slice (some ⟨cb, co, none⟩) 19 cc) (fun o' ho ww hw => ev_loadS (.tmp 8) (w.heap.size + 2) _ _ _ ho (by kernel_rfl) (below_of hw HC2.out)) ?_
      simp only [Act.put, List.setIfInBounds_toArray, List.set_cons_zero, List.set_cons_succ]
      refine wi_move ⟨_, rfl, rfl, rfl, rfl⟩ (i' := 2) rfl wn (v := .int .i64 (x.val : Int)) (by kernel_rfl) ?_
      simp only [Act.put, List.setIfInBounds_toArray, List.set_cons_zero, List.set_cons_succ]
      refine wi_val ⟨_, rfl, rfl, rfl, rfl⟩ (i' := 3) rfl wn (.pointer (some ⟨cb, co + x.val * 32, none⟩)) (fun o' ho ww hw => ev_index (.tmp 30) (.tmp 31) cb co 19 cc x.val ho (by kernel_rfl) (by kernel_rfl) hx) ?_
      simp only [Act.put, List.setIfInBounds_toArray, List.set_cons_zero, List.set_cons_succ]
      refine wi_val ⟨_, rfl, rfl, rfl, rfl⟩ (i' := 4) rfl wn (.agg (U d).toArray) (fun o' ho ww hw => ev_loadD (.tmp 32) cb (co + x.val * 32) d ho (by kernel_rfl) (HRC.out ww hw).1 hd32.out) ?_
      simp only [Act.put, List.setIfInBounds_toArray, List.set_cons_zero, List.set_cons_succ]
      refine wi_val ⟨_, rfl, rfl, rfl, rfl⟩ (i' := 5) rfl wn (.slice (some ⟨ob, oo, none⟩) 19 oc) (fun o' ho ww hw => ev_loadS (.tmp 9) (w.heap.size + 3) _ _ _ ho (by kernel_rfl) (below_of hw HC3.out)) ?_
      simp only [Act.put, List.setIfInBounds_toArray, List.set_cons_zero, List.set_cons_succ]
      refine wi_move ⟨_, rfl, rfl, rfl, rfl⟩ (i' := 6) rfl wn (v := .int .i64 (x.val : Int)) (by kernel_rfl) ?_
      simp only [Act.put, List.setIfInBounds_toArray, List.set_cons_zero, List.set_cons_succ]
      refine wi_val ⟨_, rfl, rfl, rfl, rfl⟩ (i' := 7) rfl wn (.pointer (some ⟨ob, oo + x.val * 32, none⟩)) (fun o' ho ww hw => ev_index (.tmp 34) (.tmp 35) ob oo 19 oc x.val ho (by kernel_rfl) (by kernel_rfl) hx) ?_
      simp only [Act.put, List.setIfInBounds_toArray, List.set_cons_zero, List.set_cons_succ]
      refine wi_val ⟨_, rfl, rfl, rfl, rfl⟩ (i' := 8) rfl wn (.agg (U e).toArray) (fun o' ho ww hw => ev_loadD (.tmp 36) ob (oo + x.val * 32) e ho (by kernel_rfl) (HRC.out ww hw).2 he32.out) ?_
      simp only [Act.put, List.setIfInBounds_toArray, List.set_cons_zero, List.set_cons_succ]
      refine wi_val ⟨_, rfl, rfl, rfl, rfl⟩ (i' := 9) rfl wn (.bool dq) (fun o' ho ww hw => ev_eqDq (.tmp 33) (.tmp 37) d e dq HDQ.out hd32.out he32.out ho (by kernel_rfl) (by kernel_rfl)) ?_
      simp only [Act.put, List.setIfInBounds_toArray, List.set_cons_zero, List.set_cons_succ]
      refine wi_done ?_ 9 (Nat.le_refl _)
      intro W' hW'
      have HXV := Lib.hid (HXW.out.keep (w' := W') fun j _ h2 => hW'.block j (by omega))
      have HBV := Lib.hid (HBB.out.trans (hW'.mono HBB.out.size))
      have HBW2 := Lib.hid (HBW.out.trans (hW'.mono hsz))
      have HKS := Lib.hid (show KS (KB wc.heap.size (wc.heap.size + 1) g5 g6) W W' from ks_below hW' fun i hi => by rcases hi with rfl | rfl | rfl | rfl <;> omega)
      have HKF := Lib.hid ((keeps_below hW').from W9.heap.size)
      have k1 := HXV.out.kind.cell
      have k2 := HXV.out.kind.frozen
      have k3 := HXV.out.at_.cell
      have k4 := HXV.out.at_.frozen
      clear hW'
      cases dq with
      | true =>
        have HEQ := Lib.hid (show d = e from of_decide_eq_true HDQ.out)
        gi_wp2
        have b1 := HXV.out.kind.set (.int .i64 2)
        have b2 := (HXV.out.at_.other (B' := w.heap.size + 4) (by omega) (.int .i64 2)).set (.int .i64 (x.val : Int))
        have b3 := b1.other (B' := w.heap.size + 5) (by omega) (.int .i64 (x.val : Int))
        refine ⟨HKF.out.trans (((KeepsOthers.setCell _ _ _).trans (KeepsOthers.setCell _ _ _)).from _), ⟨⟨rfl, pre, x, rfl, HP.out, by rw [HGC.out, HGO.out, HEQ.out]⟩, b3, ?_⟩, (HBV.out.setCell (show w.heap.size ≤ w.heap.size + 4 by omega) _).setCell (show w.heap.size ≤ w.heap.size + 5 by omega) _⟩
        rw [show lastV (pre ++ [x]) = x.val by simp [lastV]]
        exact b2
      | false =>
        have HNE := Lib.hid (show ¬ d = e from of_decide_eq_false HDQ.out)
        gi_wp2
        refine ⟨HKF.out, HKS.out, HBW2.out, fun j hj => ?_⟩
        rcases List.mem_append.1 hj with hj | hj
        · exact HP.out j hj
        · rw [List.mem_singleton.1 hj, HGC.out, HGO.out]
          exact HNE.out
    case done =>
      rintro Dd ys W hDd rfl ⟨hB1, hp⟩ hK
      have HV := Lib.hid (exF_none D K has C O HCF.out hp)
      have HXW := Lib.hid (HX9.out.keep (w' := W) fun j _ h2 => hB1.block j (by omega))
      have HBB := Lib.hid (HB9.out.trans (hB1.mono HB9.out.size))
      have k1 := HXW.out.kind.cell
      have k2 := HXW.out.kind.frozen
      have k3 := HXW.out.at_.cell
      have k4 := HXW.out.at_.frozen
      clear hp hB1
      go_wp2_with fail
      have b1 := HXW.out.kind.set (.int .i64 3)
      have b2 := (HXW.out.at_.other (B' := w.heap.size + 4) (by omega) (.int .i64 3)).set (.int .i64 0)
      have b3 := b1.other (B' := w.heap.size + 5) (by omega) (.int .i64 0)
      have hK1 := (KeepsOthers.setCell W ⟨w.heap.size + 4, 0, none⟩ (.int .i64 3)).same Dd _ hK rfl
      have hK2 := (KeepsOthers.setCell (W.setCell ⟨w.heap.size + 4, 0, none⟩ (.int .i64 3)) ⟨w.heap.size + 5, 0, none⟩ (.int .i64 0)).same Dd _ hK1 rfl
      have d2 := (b3.kept (grownBy_putObj' _ Dd (.deferred none)) (by simp; omega)).cell
      have d3 := (b2.kept (grownBy_putObj' _ Dd (.deferred none)) (by simp; omega)).cell
      refine ⟨by simp, .inl ⟨_, _, rfl, run_takeDeferred hK2, ?_⟩⟩
      refine ⟨_, res_2 rfl _ _ _ _ _ _ rfl rfl d2 d3, ?_, ?_⟩
      · rw [HDD.out, HKK.out, HV.out]; rfl
      · exact ((HBB.out.setCell (show w.heap.size ≤ w.heap.size + 4 by omega) _).setCell (show w.heap.size ≤ w.heap.size + 5 by omega) _).trans (belowK_b (w := w) (Nat.le_refl _) _ Dd _ _ (by omega) hK2 rfl rfl)
    case stop =>
      rintro Dd c pre W hDd hpre ⟨⟨⟨rfl, hh⟩, bR1, bR2⟩, hBW⟩ hK
      have HV := Lib.hid (exF_some D K has C O HCF.out pre hpre hh)
      refine wpIn_wide.2 ?_
      go_wp2_with fail
      have d2 := (bR1.kept (grownBy_putObj' _ Dd (.deferred none)) (by simp; omega)).cell
      have d3 := (bR2.kept (grownBy_putObj' _ Dd (.deferred none)) (by simp; omega)).cell
      refine ⟨by simp, .inl ⟨_, _, rfl, run_takeDeferred hK, ?_⟩⟩
      refine ⟨_, res_2 rfl _ _ _ _ _ _ rfl rfl d2 d3, ?_, ?_⟩
      · rw [HDD.out, HKK.out, HV.out]; rfl
      · exact hBW.trans (belowK_b (w := w) (Nat.le_refl _) _ Dd _ _ (by omega) hK rfl rfl)
theorem explain_all (b m : List UInt8) (has : Bool) (C O : List (List UInt8)) (cA oA : Option Addr) (cc oc : Nat) (w : World) (hb32 : b.length = 32) (hm32 : m.length = 32) (hC19 : C.length = 19) (hO19 : O.length = 19)
    (hC : DL w (· < w.heap.size) C cA cc) (hO : DL w (· < w.heap.size) O oA oc) :
    Calls Tryd.prog 50 #[.agg (U b).toArray, .bool has, .agg (U m).toArray, .slice cA 19 cc, .slice oA 19 oc] w fun e w' =>
      e = .returned (.tuple #[.int .i64 ((exF (dgl m) (rvF b has) has C O).1 : Nat), .int .i64 ((exF (dgl m) (rvF b has) has C O).2 : Nat)]) ∧ Below w.heap.size w w' :=
  callsIn_wide.1 (explain_in 6 (Nat.le_refl _) b m has C O cA oA cc oc w hb32 hm32 hC19 hO19 hC hO)
end
end Go.Proofs.YteicbdjennjcdaaDoor
