/- Chains: steps of a region that draws its order, by hand (as for the digests). -/
import Derived.Test.YtllkkafajchioaaDoorXA
import Derived.Deep.RegionHeld3
import Derived.Shelf.Abstract
import Derived.Maps.AppendAt
namespace Go.Proofs.YtllkkafajchioaaDoor
open Go.RowKit

section
variable {md : Region.Mode} {ops : Array Oper} {Q : Exit → Act → World → Prop} {S : World → Prop} {fuel : Nat} {listed : Array Bool} {a : Act} {w : World}

/-- an operation that yields v wherever S holds -/
theorem tk_val (i n : Nat) (v : Value) {oi : Oper} (hi : ops[i]? = some oi)
    (hs : Region.noSelect ops = true) (hf : Region.free md ops listed i = true) (hr : (Region.ready md ops listed).contains i = true) (hQ : ∀ c a v w, Q (.panic c) (a.put (some n) v) w → Q (.panic c) a w)
    (hg : oi.guard = none) (hd : oi.dst = some n) (hy : ∀ w, S w → (execOp a.eval oi).run Tryd.prog w = .ok (.value v) w) (h0 : S w)
    (h : wpAnyH Tryd.prog md ops Q S fuel (listed.setIfInBounds i true) (a.put (some n) v) w) : wpAnyH Tryd.prog md ops Q S (fuel + 1) listed a w :=
  wpAnyH_take (i := i) (oi := oi) (v := v) hi hs hf hr (fun c a w hq => hQ c a _ w (by rw [hd] at hq; exact hq)) (.inl ⟨by simp [Region.wanted, hg], hy⟩) h0 (by rw [hd]; exact h)
theorem tk_move (i n : Nat) (x : Operand) (v : Value) {oi : Oper} (hi : ops[i]? = some oi)
    (hs : Region.noSelect ops = true) (hf : Region.free md ops listed i = true) (hr : (Region.ready md ops listed).contains i = true) (hQ : ∀ c a v w, Q (.panic c) (a.put (some n) v) w → Q (.panic c) a w)
    (hg : oi.guard = none) (ho : oi.op = .move x) (hd : oi.dst = some n) (hx : a.eval x = v) (h0 : S w)
    (h : wpAnyH Tryd.prog md ops Q S fuel (listed.setIfInBounds i true) (a.put (some n) v) w) : wpAnyH Tryd.prog md ops Q S (fuel + 1) listed a w :=
  tk_val i n v hi hs hf hr hQ hg hd (fun w _ => by subst hx; simp [execOp, ho]) h0 h
/-- the load of a digest that S keeps -/
theorem tk_load (i n : Nat) (x : Operand) (b ofs : Nat) (l : List UInt8) {oi : Oper} (hi : ops[i]? = some oi)
    (hs : Region.noSelect ops = true) (hf : Region.free md ops listed i = true) (hr : (Region.ready md ops listed).contains i = true) (hQ : ∀ c a v w, Q (.panic c) (a.put (some n) v) w → Q (.panic c) a w)
    (hg : oi.guard = none) (ho : oi.op = .load 23 x) (hd : oi.dst = some n) (hx : a.eval x = .pointer (some ⟨b, ofs, none⟩)) (hS : ∀ w, S w → w.rangeAt b ofs (U l)) (hl : l.length = 32) (h0 : S w)
    (h : wpAnyH Tryd.prog md ops Q S fuel (listed.setIfInBounds i true) (a.put (some n) (.agg (U l).toArray)) w) : wpAnyH Tryd.prog md ops Q S (fuel + 1) listed a w :=
  wpAnyH_take (i := i) (oi := oi) (v := .agg (U l).toArray) hi hs hf hr (fun c a w hq => hQ c a _ w (by rw [hd] at hq; exact hq))
    (yieldsIf_load_mid (by simp [Region.wanted, hg]) _ x ho b ofs hx (U l) _ hS Tryd.underlying23 rfl (by rw [sz32, U_length, hl])) h0 (by rw [hd]; exact h)

/-- the one operation that may come up -/
theorem lone (i : Nat) {oi : Oper} (hr : Region.ready md ops listed = [i]) (hi : ops[i]? = some oi)
    (h : ∀ K' : Act → World → Prop, (∀ a w, S w → wpAnyH Tryd.prog md ops Q S fuel (listed.setIfInBounds i true) a w → K' a w) → if Region.wanted oi (yielded ops a.tmps) = true then Oper.wp Tryd.prog oi a w K' Q else K' (a.put oi.dst undef) w) :
    wpAnyH Tryd.prog md ops Q S (fuel + 1) listed a w :=
  wpAnyH_ready hr (by simp) (AllReadyH.cons hi (fun K' hK => h K' fun a w hS hW => hK.out a w hS fun _ => hW) AllReadyH.nil)
theorem to_call {o : Oper} {K : Act → World → Prop} {E : Prop} (k : Nat) (n : Nat) (xs : Array Operand) (ts : Array TypeId) (vs : Array Value) (R : Ending → World → Prop) (hgd : o.guard = none) (ho : o.op = .call { callee := .value (.func k), args := xs, argTypes := ts }) (hd : o.dst = some n)
    (hx : xs.toList.map a.eval = vs.toList) (he : Enters Tryd.prog k) (C : Calls Tryd.prog k vs w R) (hK : ∀ e w', R e w' → ∃ v, e = .returned v ∧ K (a.put (some n) v) w') : if Region.wanted o (yielded ops a.tmps) = true then Oper.wp Tryd.prog o a w K Q else E := by
  have hw : Region.wanted o (yielded ops a.tmps) = true := by simp [Region.wanted, hgd]
  rw [if_pos hw]
  have hrun : (execOp a.eval o).run Tryd.prog w = .ok (.enter k vs) w := by
    obtain rfl : xs.map a.eval = vs := by apply Array.toList_inj.1; simpa using hx
    simp [execOp, ho, resolve, invoke, go_sem]
    exact he _ _
  unfold Oper.wp
  rw [hrun]
  simp only [Oper.upon]
  refine C.mono fun e w' hR => ?_
  obtain ⟨v, rfl, hk⟩ := hK e w' hR
  rw [hd]
  exact hk
end
section
variable {o : Oper} {a : Act} {w : World}
theorem ev_slice_to (x y : Operand) (b ofs len cap K : Nat) (ho : o.op = .slice 24 x none (some y) none) (hx : a.eval x = .slice (some ⟨b, ofs, none⟩) len cap) (hy : a.eval y = .int .i64 K) (hk : K ≤ cap) :
    (execOp a.eval o).run Tryd.prog w = .ok (.value (.slice (some ⟨b, ofs, none⟩) K cap)) w := by
  have b1 : (K : Int) ≤ cap := by omega
  unfold execOp
  simp only [ho, hx, hy, Option.map]
  go_simp
theorem ev_slice_from (x y : Operand) (b ofs len cap K : Nat) (ho : o.op = .slice 24 x (some y) none none) (hx : a.eval x = .slice (some ⟨b, ofs, none⟩) len cap) (hy : a.eval y = .int .i64 K) (hk : K ≤ len) (hc : len ≤ cap) (hkc : K < cap) :
    (execOp a.eval o).run Tryd.prog w = .ok (.value (.slice (some ⟨b, ofs + K * 32, none⟩) (len - K) (cap - K))) w := by
  have b1 : (K : Int) ≤ len := by omega
  have b2 : (len : Int) ≤ cap := by omega
  have b3 : ¬ cap = K := by omega
  unfold execOp
  simp only [ho, hx, hy, Option.map]
  go_simp
theorem ev_index (x y : Operand) (b ofs len cap K : Nat) (ho : o.op = .indexAddr 24 x y) (hx : a.eval x = .slice (some ⟨b, ofs, none⟩) len cap) (hy : a.eval y = .int .i64 K) (hk : K < len) :
    (execOp a.eval o).run Tryd.prog w = .ok (.value (.pointer (some ⟨b, ofs + K * 32, none⟩))) w := by
  have b1 : (K : Int) < len := by omega
  have b2 : (0 : Int) ≤ K := by omega
  unfold execOp
  simp only [ho, hx, hy]
  go_simp
theorem ev_sub (x y : Operand) (p q : Int) (ho : o.op = .binOp .sub 3 x y 3) (hx : a.eval x = .int .i64 p) (hy : a.eval y = .int .i64 q) (h1 : -9223372036854775808 ≤ p - q) (h2 : p - q ≤ 9223372036854775807) :
    (execOp a.eval o).run Tryd.prog w = .ok (.value (.int .i64 (p - q))) w := by
  have hw : IntKind.i64.wrap (p - q) = p - q := IntWalk.i64_in _ ⟨h1, h2⟩
  unfold execOp
  simp only [ho, hx, hy]
  go_simp
end
section
variable {ops : Array Oper} {o : Oper} {a : Act} {K : Act → World → Prop} {Q : Exit → Act → World → Prop} {E : Prop} {w : World}
theorem to_app (n : Nat) (s x : Operand) (hgd : o.guard = none) (ho : o.op = .call { callee := .builtin .append, args := #[s, x], argTypes := #[24, 24] }) (hdst : o.dst = some n)
    (base : Nat) (v : Value) (S : Nat → Prop) (L P : List (List UInt8)) (A : Option Addr) (cap : Nat) (hs : a.eval s = v) (hx : a.eval x = .slice A P.length cap) (hown : OwnD w base v L) (hsrc : DL w S P A cap)
    (hlen : L.length + P.length ≤ 1099511627776) (hbase : base ≤ w.heap.size)
    (h : ∀ A' c' w', OwnD w' base (.slice A' (L.length + P.length) c') (L ++ P) → w.grownBy w' v.ownBlock → ((Value.slice A' (L.length + P.length) c').ownBlock = v.ownBlock ∨ (Value.slice A' (L.length + P.length) c').ownBlock = some w.heap.size) → K (a.put (some n) (.slice A' (L.length + P.length) c')) w') :
    if Region.wanted o (yielded ops a.tmps) = true then Oper.wp Tryd.prog o a w K Q else E := by
  have hw : Region.wanted o (yielded ops a.tmps) = true := by simp [Region.wanted, hgd]
  rw [if_pos hw]
  obtain ⟨i, hi, hz0, hz1, hz2⟩ := info_parts info_d
  have done : ∀ v' w', OwnD w' base v' (L ++ P) → w.grownBy w' v.ownBlock → (v'.ownBlock = v.ownBlock ∨ v'.ownBlock = some w.heap.size) → K (a.put (some n) v') w' := fun v' w' h1 h2 h3 => by
    obtain ⟨A', c', e⟩ := h1.slice
    rw [List.length_append] at e
    subst e
    exact h A' c' w' h1 h2 h3
  rcases A with _ | ad
  · obtain rfl := hsrc.2.2.1 rfl
    have h0 := hsrc.1
    obtain rfl : P = [] := List.eq_nil_of_length_eq_zero (by omega)
    have hrun := run_append_owned_none (P := Tryd.prog) (w := w) base 24 o.type 23 i 32 Tryd.underlying24 hi v L.length (L.flatMap U) hown.1
    have hx' : a.eval x = .slice none 0 0 := hx
    have := done v w (by rw [List.append_nil]; exact hown) ⟨rfl, rfl, rfl, Nat.le_refl _, fun _ _ _ => rfl⟩ (.inl rfl)
    unfold Oper.wp
    simp [execOp, ho, resolve, invoke, builtin, hs, hx', hrun, Result.andThen]
    show K (a.put o.dst _) _
    rw [hdst]
    exact this
  · obtain ⟨v', w', hrun, h1, h2, _, h4⟩ := run_append_own_at (P := Tryd.prog) (w := w) base 24 o.type 23 i (.agg (U z32).toArray) 32 32 Tryd.underlying24 hi hz0 hz1 hz2 rfl (by omega) v L.length (L.flatMap U) hown.1
      ad P.length cap (P.flatMap U) (flat_len P hsrc.2.2.2.1) (fun j u hu => by
        obtain ⟨k, d, e1, e2, e3⟩ := flat_idx P j u hsrc.2.2.2.1 hu
        have hp : 0 < P.length := by have := (List.getElem?_eq_some_iff.1 e1).1; omega
        obtain ⟨b, ofs, e, _, hc⟩ := hsrc.2.2.2.2 hp
        injection e with e
        subst e
        rw [Go.WideShapes.add_plain]
        have := hc k d e1 _ u e2
        rwa [show ofs + k * 32 + (j - k * 32) = ofs + j by omega] at this)
      (fun u hu => by
        obtain ⟨d, _, hud⟩ := List.mem_flatMap.1 hu
        exact U_one d u hud) (by simp only [maxLen]; omega) (by omega) hbase
    have h1' : OwnD w' base v' (L ++ P) := by
      refine ⟨?_, fun c hc => ?_⟩
      · rw [List.length_append, List.flatMap_append]
        exact h1
      · rcases List.mem_append.1 hc with hc | hc
        · exact hown.2 c hc
        · exact hsrc.2.2.2.1 c hc
    have := done v' w' h1' h2 h4
    unfold Oper.wp
    simp [execOp, ho, resolve, invoke, builtin, hs, hx, hrun, Result.andThen]
    show K (a.put o.dst _) _
    rw [hdst]
    exact this
theorem to_bs0 (n : Nat) (hgd : o.guard = none) (ho : o.op = .buildSlice 24 0 #[]) (hd : o.dst = some n)
    (hK : K (a.put (some n) (.slice (some ⟨w.heap.size, 0, none⟩) 0 0)) (w.alloc (.cells #[] 23))) : if Region.wanted o (yielded ops a.tmps) = true then Oper.wp Tryd.prog o a w K Q else E := by
  have hw : Region.wanted o (yielded ops a.tmps) = true := by simp [Region.wanted, hgd]
  rw [if_pos hw]
  unfold Oper.wp execOp
  simp only [ho]
  go_simp
  exact hK
theorem to_bs1 (n : Nat) (x : Operand) (d : List UInt8) (hgd : o.guard = none) (ho : o.op = .buildSlice 24 1 #[(0, x)]) (hdst : o.dst = some n) (hx : a.eval x = .agg (U d).toArray) (hd : d.length = 32)
    (hK : K (a.put (some n) (.slice (some ⟨w.heap.size, 0, none⟩) 1 1)) (w.alloc (.cells (U d).toArray 23))) : if Region.wanted o (yielded ops a.tmps) = true then Oper.wp Tryd.prog o a w K Q else E := by
  have hw : Region.wanted o (yielded ops a.tmps) = true := by simp [Region.wanted, hgd]
  rw [if_pos hw]
  have hrun := run_bs d hd w
  unfold Oper.wp
  simp [execOp, ho, hx, hrun, Result.andThen]
  show K (a.put o.dst _) _
  rw [hdst]
  exact hK
theorem to_alloc (n : Nat) (hgd : o.guard = none) (ho : o.op = .alloc 23) (hd : o.dst = some n)
    (hK : K (a.put (some n) (.pointer (some ⟨w.heap.size, 0, none⟩))) (w.alloc (.cells (U (flb 32 [])).toArray 23))) : if Region.wanted o (yielded ops a.tmps) = true then Oper.wp Tryd.prog o a w K Q else E :=
  step_alloc_B hgd ho (by rw [hd]; exact hK)
theorem to_store (x y : Operand) (hgd : o.guard = none) (ho : o.op = .store 23 x y) (hd : o.dst = none)
    (g : Nat) (l l' : List UInt8) (hx : a.eval x = .pointer (some ⟨g, 0, none⟩)) (hy : a.eval y = .agg (U l').toArray) (h : RowB w g 23 l) (hl : l.length = 32) (hl' : l'.length = 32)
    (hK : K a (w.setRow g (U l').toArray)) : if Region.wanted o (yielded ops a.tmps) = true then Oper.wp Tryd.prog o a w K Q else E :=
  step_store_B hgd x y ho g l l' hx hy h hl hl' (by rw [hd]; exact hK)
end

section
variable {md : Region.Mode} {ops : Array Oper} {Q : Exit → Act → World → Prop} {S : World → Prop} {fuel : Nat} {listed : Array Bool} {a : Act} {w : World}
theorem tk_assign (i n : Nat) (x : Operand) (v : Value) {oi : Oper} (hi : ops[i]? = some oi)
    (hs : Region.noSelect ops = true) (hf : Region.free md ops listed i = true) (hr : (Region.ready md ops listed).contains i = true) (hQ : ∀ c a v w, Q (.panic c) (a.put (some n) v) w → Q (.panic c) a w)
    (hg : oi.guard = none) (ho : oi.op = .assign x) (hd : oi.dst = some n) (hx : a.eval x = v) (h0 : S w)
    (h : wpAnyH Tryd.prog md ops Q S fuel (listed.setIfInBounds i true) (a.put (some n) v) w) : wpAnyH Tryd.prog md ops Q S (fuel + 1) listed a w :=
  tk_val i n v hi hs hf hr hQ hg hd (fun w _ => by subst hx; simp [execOp, ho]) h0 h
end
theorem ev_len {o : Oper} {a : Act} {w : World} (x : Operand) (A : Option Addr) (n cap : Nat) (ho : o.op = .call { callee := .builtin .len, args := #[x], argTypes := #[24] }) (hx : a.eval x = .slice A n cap) :
    (execOp a.eval o).run Tryd.prog w = .ok (.value (.int .i64 n)) w := by
  unfold execOp
  simp [ho, hx, resolve, invoke, builtin]
  go_simp
theorem ev_extract {o : Oper} {a : Act} {w : World} (x : Operand) (k : Nat) (vs : Array Value) (v : Value) (ho : o.op = .extract x k) (hx : a.eval x = .tuple vs) (hk : vs[k]? = some v) :
    (execOp a.eval o).run Tryd.prog w = .ok (.value v) w := by
  unfold execOp
  simp [ho, hx, Instr.extract, hk]

theorem apart_app {v v' : Value} {w : World} {g : Nat} (hn : v.ownBlock ≠ some g) (hat : v'.ownBlock = v.ownBlock ∨ v'.ownBlock = some w.heap.size) (hg : g < w.heap.size) : v'.ownBlock ≠ some g := by
  rcases hat with h | h
  · rw [h]; exact hn
  · rw [h]; intro e; injection e with e; omega
theorem apart_new {w : World} {b : Nat} {v : Value} {L : List (List UInt8)} (h : OwnD w b v L) : v.ownBlock ≠ some w.heap.size := fun e => by
  have := (World.ownsRow.lt h.1 _ e).2
  omega
theorem nilD (w : World) : OwnD (w.alloc (.cells #[] 23)) w.heap.size (.slice (some ⟨w.heap.size, 0, none⟩) 0 0) [] := ownD_empty w
section
variable {ops : Array Oper} {o : Oper} {a : Act} {K : Act → World → Prop} {Q : Exit → Act → World → Prop} {E : Prop} {w : World}
theorem wp_bs0b (n : Nat) (ho : o.op = .buildSlice 41 0 #[]) (hd : o.dst = some n)
    (hK : K (a.put (some n) (.slice (some ⟨w.heap.size, 0, none⟩) 0 0)) (w.alloc (.cells #[] 5))) : Oper.wp Tryd.prog o a w K Q := by
  unfold Oper.wp execOp
  simp only [ho]
  go_simp
  exact hK
theorem wp_call (k : Nat) (n : Nat) (xs : Array Operand) (ts : Array TypeId) (vs : Array Value) (R : Ending → World → Prop) (ho : o.op = .call { callee := .value (.func k), args := xs, argTypes := ts }) (hd : o.dst = some n)
    (hx : xs.toList.map a.eval = vs.toList) (he : Enters Tryd.prog k) (C : Calls Tryd.prog k vs w R) (hK : ∀ e w', R e w' → ∃ v, e = .returned v ∧ K (a.put (some n) v) w') : Oper.wp Tryd.prog o a w K Q := by
  have hrun : (execOp a.eval o).run Tryd.prog w = .ok (.enter k vs) w := by
    obtain rfl : xs.map a.eval = vs := by apply Array.toList_inj.1; simpa using hx
    simp [execOp, ho, resolve, invoke, go_sem]
    exact he _ _
  unfold Oper.wp
  rw [hrun]
  simp only [Oper.upon]
  refine C.mono fun e w' hR => ?_
  obtain ⟨v, rfl, hk⟩ := hK e w' hR
  rw [hd]
  exact hk
end
section
variable {md : Region.Mode} {ops : Array Oper} {Q : Exit → Act → World → Prop} {S : World → Prop} {fuel : Nat} {listed : Array Bool} {a : Act} {w : World}
theorem tkw_val (i n : Nat) (v : Value) {oi : Oper} (hi : ops[i]? = some oi)
    (hs : Region.noSelect ops = true) (hf : Region.free md ops listed i = true) (hr : (Region.ready md ops listed).contains i = true) (hQ : ∀ c a v w, Q (.panic c) (a.put (some n) v) w → Q (.panic c) a w)
    (hw : Region.wanted oi (yielded ops a.tmps) = true) (hd : oi.dst = some n) (hy : ∀ w, S w → (execOp a.eval oi).run Tryd.prog w = .ok (.value v) w) (h0 : S w)
    (h : wpAnyH Tryd.prog md ops Q S fuel (listed.setIfInBounds i true) (a.put (some n) v) w) : wpAnyH Tryd.prog md ops Q S (fuel + 1) listed a w :=
  wpAnyH_take (i := i) (oi := oi) (v := v) hi hs hf hr (fun c a w hq => hQ c a _ w (by rw [hd] at hq; exact hq)) (.inl ⟨hw, hy⟩) h0 (by rw [hd]; exact h)
theorem tkw_load (i n : Nat) (x : Operand) (b ofs : Nat) (l : List UInt8) {oi : Oper} (hi : ops[i]? = some oi)
    (hs : Region.noSelect ops = true) (hf : Region.free md ops listed i = true) (hr : (Region.ready md ops listed).contains i = true) (hQ : ∀ c a v w, Q (.panic c) (a.put (some n) v) w → Q (.panic c) a w)
    (hw : Region.wanted oi (yielded ops a.tmps) = true) (ho : oi.op = .load 23 x) (hd : oi.dst = some n) (hx : a.eval x = .pointer (some ⟨b, ofs, none⟩)) (hS : ∀ w, S w → w.rangeAt b ofs (U l)) (hl : l.length = 32) (h0 : S w)
    (h : wpAnyH Tryd.prog md ops Q S fuel (listed.setIfInBounds i true) (a.put (some n) (.agg (U l).toArray)) w) : wpAnyH Tryd.prog md ops Q S (fuel + 1) listed a w :=
  wpAnyH_take (i := i) (oi := oi) (v := .agg (U l).toArray) hi hs hf hr (fun c a w hq => hQ c a _ w (by rw [hd] at hq; exact hq))
    (yieldsIf_load_mid hw _ x ho b ofs hx (U l) _ hS Tryd.underlying23 rfl (by rw [sz32, U_length, hl])) h0 (by rw [hd]; exact h)
end
section
variable {o : Oper} {a : Act} {w : World}
theorem ev_neq (x y : Operand) (l : List UInt8) (hl : l.length = 32) (ho : o.op = .binOp .neq 23 x y 23) (hx : a.eval x = .agg (U l).toArray) (hy : a.eval y = .agg (U l).toArray) :
    (execOp a.eval o).run Tryd.prog w = .ok (.value (.bool false)) w := by
  have q1 := eq_self l hl
  unfold execOp
  simp only [ho, hx, hy]
  go_simp
theorem ev_neqi (t : TypeId) (x y : Operand) (n : Int) (ho : o.op = .binOp .neq t x y t) (_ht : Tryd.prog.underlying t = some (.int .i64)) (hx : a.eval x = .int .i64 n) (hy : a.eval y = .int .i64 n) :
    (execOp a.eval o).run Tryd.prog w = .ok (.value (.bool false)) w := by
  unfold execOp
  simp only [ho, hx, hy]
  go_simp
theorem ev_arr (x : Operand) (g : Nat) (ho : o.op = .slice 23 x none none none) (hx : a.eval x = .pointer (some ⟨g, 0, none⟩)) :
    (execOp a.eval o).run Tryd.prog w = .ok (.value (.slice (some ⟨g, 0, none⟩) 32 32)) w := by
  unfold execOp
  simp only [ho, hx, Option.map]
  go_simp
theorem ev_pick (c x y : Operand) (ho : o.op = .pick c x y) (hc : a.eval c = .bool false) (hy : a.eval y = .bool false) :
    (execOp a.eval o).run Tryd.prog w = .ok (.value (.bool false)) w := by
  unfold execOp
  simp only [ho, hc, hy]
  go_simp
theorem ev_move (x : Operand) (v : Value) (ho : o.op = .move x) (hx : a.eval x = v) :
    (execOp a.eval o).run Tryd.prog w = .ok (.value v) w := by
  subst hx
  simp [execOp, ho]
end

end Go.Proofs.YtllkkafajchioaaDoor
