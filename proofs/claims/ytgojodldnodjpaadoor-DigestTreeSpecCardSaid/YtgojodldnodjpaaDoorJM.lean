/- Digest: steps of a region that draws its order, by hand. -/
import Derived.Test.YtgojodldnodjpaaDoorJH
import Derived.Deep.RegionHeld3
import Derived.Shelf.Abstract
namespace Go.Proofs.YtgojodldnodjpaaDoor
open Go.RowKit

section
variable {md : Region.Mode} {ops : Array Oper} {Q : Exit → Act → World → Prop} {S : World → Prop} {fuel : Nat} {listed : Array Bool} {a : Act} {w : World}

theorem RowB.ld {w : World} {b : Nat} {t : TypeId} {l : List UInt8} (h : RowB w b t l) (hl : l.length = 32) : (loadVar 26 ⟨b, 0, none⟩).run Tryd.prog w = .ok (.agg (U l).toArray) w :=
  run_loadVar_row w b t 26 _ (0, 0) _ h Tryd.underlying26 rfl (by rw [sz32, U_size, hl])
theorem RowB.range {w : World} {b : Nat} {t : TypeId} {l : List UInt8} (h : RowB w b t l) : w.rangeAt b 0 (U l) := fun j u hu => by
  rw [Nat.zero_add, cell_of_row w b j _ _ _ h]
  simpa using hu

/-- an operation that yields v wherever S holds -/
theorem tk_val (i n : Nat) (v : Value) {oi : Oper} (hi : ops[i]? = some oi)
    (hs : Region.noSelect ops = true) (hf : Region.free md ops listed i = true) (hr : (Region.ready md ops listed).contains i = true) (hQ : ∀ c a v w, Q (.panic c) (a.put (some n) v) w → Q (.panic c) a w)
    (hg : oi.guard = none) (hd : oi.dst = some n) (hy : ∀ w, S w → (execOp a.eval oi).run Tryd.prog w = .ok (.value v) w) (h0 : S w)
    (h : wpAnyH Tryd.prog md ops Q S fuel (listed.setIfInBounds i true) (a.put (some n) v) w) : wpAnyH Tryd.prog md ops Q S (fuel + 1) listed a w :=
  wpAnyH_take (i := i) (oi := oi) (v := v) hi hs hf hr (fun c a w hq => hQ c a _ w (by rw [hd] at hq; exact hq)) (.inl ⟨by simp [Region.wanted, hg], hy⟩) h0 (by rw [hd]; exact h)
theorem tk_move (i n : Nat) (x : Operand) (v : Value) {oi : Oper} (hi : ops[i]? = some oi)
    (hs : Region.noSelect ops = true) (hf : Region.free md ops listed i = true) (hr : (Region.ready md ops listed).contains i = true) (hQ : ∀ c a v w, Q (.panic c) (a.put (some n) v) w → Q (.panic c) a w)
    (hg : oi.guard = none) (ho : oi.op = .move x) (hd : oi.dst = some n) (hx : a.eval x = v) (h0 : S w)
    (h : wpAnyH Tryd.prog md ops Q S fuel (listed.setIfInBounds i true) (a.put (some n) v) w) : wpAnyH Tryd.prog md ops Q S (fuel + 1) listed a w :=
  tk_val i n v hi hs hf hr hQ hg hd (fun w _ => by subst hx; simp [execOp, ho]) h0 h
/-- the load of a digest that S keeps -/
theorem tk_load (i n : Nat) (x : Operand) (b ofs : Nat) (l : List UInt8) {oi : Oper} (hi : ops[i]? = some oi)
    (hs : Region.noSelect ops = true) (hf : Region.free md ops listed i = true) (hr : (Region.ready md ops listed).contains i = true) (hQ : ∀ c a v w, Q (.panic c) (a.put (some n) v) w → Q (.panic c) a w)
    (hg : oi.guard = none) (ho : oi.op = .load 26 x) (hd : oi.dst = some n) (hx : a.eval x = .pointer (some ⟨b, ofs, none⟩)) (hS : ∀ w, S w → w.rangeAt b ofs (U l)) (hl : l.length = 32) (h0 : S w)
    (h : wpAnyH Tryd.prog md ops Q S fuel (listed.setIfInBounds i true) (a.put (some n) (.agg (U l).toArray)) w) : wpAnyH Tryd.prog md ops Q S (fuel + 1) listed a w :=
  wpAnyH_take (i := i) (oi := oi) (v := .agg (U l).toArray) hi hs hf hr (fun c a w hq => hQ c a _ w (by rw [hd] at hq; exact hq))
    (yieldsIf_load_mid (by simp [Region.wanted, hg]) _ x ho b ofs hx (U l) _ hS Tryd.underlying26 rfl (by rw [sz32, U_length, hl])) h0 (by rw [hd]; exact h)

/-- the one operation that may come up -/
theorem lone (i : Nat) {oi : Oper} (hr : Region.ready md ops listed = [i]) (hi : ops[i]? = some oi)
    (h : ∀ K' : Act → World → Prop, (∀ a w, S w → wpAnyH Tryd.prog md ops Q S fuel (listed.setIfInBounds i true) a w → K' a w) → if Region.wanted oi (yielded ops a.tmps) = true then Oper.wp Tryd.prog oi a w K' Q else K' (a.put oi.dst undef) w) :
    wpAnyH Tryd.prog md ops Q S (fuel + 1) listed a w :=
  wpAnyH_ready hr (by simp) (AllReadyH.cons hi (fun K' hK => h K' fun a w hS hW => hK.out a w hS fun _ => hW) AllReadyH.nil)
theorem to_call {o : Oper} {K : Act → World → Prop} {E : Prop} (k : Nat) (n : Nat) (xs : Array Operand) (ts : Array TypeId) (vs : Array Value) (R : Ending → World → Prop) (hgd : o.guard = none) (ho : o.op = .call { callee := .value (.func k), args := xs, argTypes := ts }) (hd : o.dst = some n)
    (hx : xs.toList.map a.eval = vs.toList) (he : Enters Tryd.prog k) (C : Calls Tryd.prog k vs w R) (hK : ∀ e w', R e w' → ∃ v, e = .returned v ∧ K (a.put (some n) v) w') : if Region.wanted o (yielded ops a.tmps) = true then Oper.wp Tryd.prog o a w K Q else E := by
  have hw : Region.wanted o (yielded ops a.tmps) = true := by simp [Region.wanted, hgd]
  rw [if_pos hw]
  have hrun : (execOp a.eval o).run Tryd.prog w = .ok (.enter k vs) w := by
    obtain rfl : xs.map a.eval = vs := by apply Array.toList_inj.1; simpa using hx
    simp [execOp, ho, resolve, invoke, go_sem]
    exact he _ _
  unfold Oper.wp
  rw [hrun]
  simp only [Oper.upon]
  refine C.mono fun e w' hR => ?_
  obtain ⟨v, rfl, hk⟩ := hK e w' hR
  rw [hd]
  exact hk
end
section
variable {o : Oper} {a : Act} {w : World}
theorem ev_slice_to (x y : Operand) (b ofs len cap K : Nat) (ho : o.op = .slice 30 x none (some y) none) (hx : a.eval x = .slice (some ⟨b, ofs, none⟩) len cap) (hy : a.eval y = .int .i64 K) (hk : K ≤ cap) :
    (execOp a.eval o).run Tryd.prog w = .ok (.value (.slice (some ⟨b, ofs, none⟩) K cap)) w := by
  have b1 : (K : Int) ≤ cap := by omega
  unfold execOp
  simp only [ho, hx, hy, Option.map]
  go_simp
theorem ev_slice_from (x y : Operand) (b ofs len cap K : Nat) (ho : o.op = .slice 30 x (some y) none none) (hx : a.eval x = .slice (some ⟨b, ofs, none⟩) len cap) (hy : a.eval y = .int .i64 K) (hk : K ≤ len) (hc : len ≤ cap) (hkc : K < cap) :
    (execOp a.eval o).run Tryd.prog w = .ok (.value (.slice (some ⟨b, ofs + K * 32, none⟩) (len - K) (cap - K))) w := by
  have b1 : (K : Int) ≤ len := by omega
  have b2 : (len : Int) ≤ cap := by omega
  have b3 : ¬ cap = K := by omega
  unfold execOp
  simp only [ho, hx, hy, Option.map]
  go_simp
theorem ev_index (x y : Operand) (b ofs len cap K : Nat) (ho : o.op = .indexAddr 30 x y) (hx : a.eval x = .slice (some ⟨b, ofs, none⟩) len cap) (hy : a.eval y = .int .i64 K) (hk : K < len) :
    (execOp a.eval o).run Tryd.prog w = .ok (.value (.pointer (some ⟨b, ofs + K * 32, none⟩))) w := by
  have b1 : (K : Int) < len := by omega
  have b2 : (0 : Int) ≤ K := by omega
  unfold execOp
  simp only [ho, hx, hy]
  go_simp
theorem ev_sub (x y : Operand) (p q : Int) (ho : o.op = .binOp .sub 3 x y 3) (hx : a.eval x = .int .i64 p) (hy : a.eval y = .int .i64 q) (h1 : -9223372036854775808 ≤ p - q) (h2 : p - q ≤ 9223372036854775807) :
    (execOp a.eval o).run Tryd.prog w = .ok (.value (.int .i64 (p - q))) w := by
  have hw : IntKind.i64.wrap (p - q) = p - q := IntWalk.i64_in _ ⟨h1, h2⟩
  unfold execOp
  simp only [ho, hx, hy]
  go_simp
end
end Go.Proofs.YtgojodldnodjpaaDoor
