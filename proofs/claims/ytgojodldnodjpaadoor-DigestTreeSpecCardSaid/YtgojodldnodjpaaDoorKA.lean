/- Digest: steps by hand for DigestNext and DigestTreeSpec; the list with a further element. -/
import Derived.Test.YtgojodldnodjpaaDoorJV
import Derived.Test.YtgojodldnodjpaaDoorJK
import Derived.Deep.RegionHeld3
import Derived.Deep.CutRange
namespace Go.Proofs.YtgojodldnodjpaaDoor
open Go.ChangeShapes Go.WideShapes Go.ChangeAt Go.WideElems Go.RowKit

section
variable {ops : Array Oper} {o : Oper} {a : Act} {K : Act → World → Prop} {Q : Exit → Act → World → Prop} {E : Prop} {w : World}
theorem wp_bs0b (n : Nat) (ho : o.op = .buildSlice 22 0 #[]) (hd : o.dst = some n)
    (hK : K (a.put (some n) (.slice (some ⟨w.heap.size, 0, none⟩) 0 0)) (w.alloc (.cells #[] 5))) : Oper.wp Tryd.prog o a w K Q := by
  unfold Oper.wp execOp
  simp only [ho]
  go_simp
  exact hK
theorem wp_call (k : Nat) (n : Nat) (xs : Array Operand) (ts : Array TypeId) (vs : Array Value) (R : Ending → World → Prop) (ho : o.op = .call { callee := .value (.func k), args := xs, argTypes := ts }) (hd : o.dst = some n)
    (hx : xs.toList.map a.eval = vs.toList) (he : Enters Tryd.prog k) (C : Calls Tryd.prog k vs w R) (hK : ∀ e w', R e w' → ∃ v, e = .returned v ∧ K (a.put (some n) v) w') : Oper.wp Tryd.prog o a w K Q := by
  have hrun : (execOp a.eval o).run Tryd.prog w = .ok (.enter k vs) w := by
    obtain rfl : xs.map a.eval = vs := by apply Array.toList_inj.1; simpa using hx
    simp [execOp, ho, resolve, invoke, go_sem]
    exact he _ _
  unfold Oper.wp
  rw [hrun]
  simp only [Oper.upon]
  refine C.mono fun e w' hR => ?_
  obtain ⟨v, rfl, hk⟩ := hK e w' hR
  rw [hd]
  exact hk
end
section
variable {md : Region.Mode} {ops : Array Oper} {Q : Exit → Act → World → Prop} {S : World → Prop} {fuel : Nat} {listed : Array Bool} {a : Act} {w : World}
theorem tkw_val (i n : Nat) (v : Value) {oi : Oper} (hi : ops[i]? = some oi)
    (hs : Region.noSelect ops = true) (hf : Region.free md ops listed i = true) (hr : (Region.ready md ops listed).contains i = true) (hQ : ∀ c a v w, Q (.panic c) (a.put (some n) v) w → Q (.panic c) a w)
    (hw : Region.wanted oi (yielded ops a.tmps) = true) (hd : oi.dst = some n) (hy : ∀ w, S w → (execOp a.eval oi).run Tryd.prog w = .ok (.value v) w) (h0 : S w)
    (h : wpAnyH Tryd.prog md ops Q S fuel (listed.setIfInBounds i true) (a.put (some n) v) w) : wpAnyH Tryd.prog md ops Q S (fuel + 1) listed a w :=
  wpAnyH_take (i := i) (oi := oi) (v := v) hi hs hf hr (fun c a w hq => hQ c a _ w (by rw [hd] at hq; exact hq)) (.inl ⟨hw, hy⟩) h0 (by rw [hd]; exact h)
theorem tkw_load (i n : Nat) (x : Operand) (b ofs : Nat) (l : List UInt8) {oi : Oper} (hi : ops[i]? = some oi)
    (hs : Region.noSelect ops = true) (hf : Region.free md ops listed i = true) (hr : (Region.ready md ops listed).contains i = true) (hQ : ∀ c a v w, Q (.panic c) (a.put (some n) v) w → Q (.panic c) a w)
    (hw : Region.wanted oi (yielded ops a.tmps) = true) (ho : oi.op = .load 26 x) (hd : oi.dst = some n) (hx : a.eval x = .pointer (some ⟨b, ofs, none⟩)) (hS : ∀ w, S w → w.rangeAt b ofs (U l)) (hl : l.length = 32) (h0 : S w)
    (h : wpAnyH Tryd.prog md ops Q S fuel (listed.setIfInBounds i true) (a.put (some n) (.agg (U l).toArray)) w) : wpAnyH Tryd.prog md ops Q S (fuel + 1) listed a w :=
  wpAnyH_take (i := i) (oi := oi) (v := .agg (U l).toArray) hi hs hf hr (fun c a w hq => hQ c a _ w (by rw [hd] at hq; exact hq))
    (yieldsIf_load_mid hw _ x ho b ofs hx (U l) _ hS Tryd.underlying26 rfl (by rw [sz32, U_length, hl])) h0 (by rw [hd]; exact h)
end
section
variable {o : Oper} {a : Act} {w : World}
theorem ev_neq (x y : Operand) (l : List UInt8) (hl : l.length = 32) (ho : o.op = .binOp .neq 26 x y 26) (hx : a.eval x = .agg (U l).toArray) (hy : a.eval y = .agg (U l).toArray) :
    (execOp a.eval o).run Tryd.prog w = .ok (.value (.bool false)) w := by
  have q1 := eq_self l hl
  unfold execOp
  simp only [ho, hx, hy]
  go_simp
theorem ev_neqi (t : TypeId) (x y : Operand) (n : Int) (ho : o.op = .binOp .neq t x y t) (_ht : Tryd.prog.underlying t = some (.int .i64)) (hx : a.eval x = .int .i64 n) (hy : a.eval y = .int .i64 n) :
    (execOp a.eval o).run Tryd.prog w = .ok (.value (.bool false)) w := by
  unfold execOp
  simp only [ho, hx, hy]
  go_simp
theorem ev_arr (x : Operand) (g : Nat) (ho : o.op = .slice 26 x none none none) (hx : a.eval x = .pointer (some ⟨g, 0, none⟩)) :
    (execOp a.eval o).run Tryd.prog w = .ok (.value (.slice (some ⟨g, 0, none⟩) 32 32)) w := by
  unfold execOp
  simp only [ho, hx, Option.map]
  go_simp
theorem ev_pick (c x y : Operand) (ho : o.op = .pick c x y) (hc : a.eval c = .bool false) (hy : a.eval y = .bool false) :
    (execOp a.eval o).run Tryd.prog w = .ok (.value (.bool false)) w := by
  unfold execOp
  simp only [ho, hc, hy]
  go_simp
theorem ev_move (x : Operand) (v : Value) (ho : o.op = .move x) (hx : a.eval x = v) :
    (execOp a.eval o).run Tryd.prog w = .ok (.value v) w := by
  subst hx
  simp [execOp, ho]
end
theorem enters_Tree : Enters Tryd.prog 17 := enters_of Tryd.func17 (by kernel_rfl) rfl
theorem enters_Tagged : Enters Tryd.prog 14 := enters_of Tryd.func14 (by kernel_rfl) rfl

theorem hf_pow1 (n t : Nat) (h : n = 2 ^ t) (hn : n ≤ 1000000) : hf (n + 1) = n := by
  have hp : 0 < 2 ^ t := Nat.pos_of_ne_zero (by simp)
  subst h
  exact (hf_of_pow (by omega) (by omega) (by omega) (by omega)).symm
theorem take_app (L : List (List UInt8)) (d : List UInt8) : (L ++ [d]).take L.length = L := by simp
theorem drop_app (L : List (List UInt8)) (d : List UInt8) : (L ++ [d]).drop L.length = [d] := by simp
theorem tree_next (f t : Nat) (L : List (List UInt8)) (d : List UInt8) (h : L.length = 2 ^ t) (hn : L.length ≤ 1000000) (hf1 : L.length + 1 ≤ f) : tree f (L ++ [d]) = noded (tree f L) (tree f [d]) := by
  have hp : 0 < 2 ^ t := Nat.pos_of_ne_zero (by simp)
  have hl : (L ++ [d]).length = L.length + 1 := by simp
  cases f with
  | zero => omega
  | succ f =>
    rw [tree_two f (L ++ [d]) (by omega), hl, hf_pow1 L.length t h hn, take_app, drop_app, tree_fuel f (f + 1) L (by omega) (by omega) (by omega), tree_fuel f (f + 1) [d] (by simp; omega) (by simp) (by simp)]
theorem pth_one (f : Nat) (d : List UInt8) (i : Nat) : pth f [d] i = [] := by
  cases f with
  | zero => rfl
  | succ f => rw [pth, if_pos (by simp)]
theorem pth_next (f t : Nat) (L : List (List UInt8)) (d : List UInt8) (h : L.length = 2 ^ t) (hn : L.length ≤ 1000000) (hf1 : L.length + 1 ≤ f) : pth f (L ++ [d]) L.length = [tree f L] := by
  have hp : 0 < 2 ^ t := Nat.pos_of_ne_zero (by simp)
  have hl : (L ++ [d]).length = L.length + 1 := by simp
  cases f with
  | zero => omega
  | succ f =>
    rw [pth, if_neg (by omega), hl, hf_pow1 L.length t h hn, if_neg (by omega), take_app, drop_app, pth_one, tree_fuel f (f + 1) L (by omega) (by omega) (by omega)]
    rfl

/-- the boxes of two digests, and a row of one digest -/
structure NX (W9 : World) (d : List UInt8) (z : Option Nat) (x y : Option (Nat × List UInt8)) (w : World) : Prop where
  st : St W9 x y w
  row : ∀ g, z = some g → RowB w g 26 d
section
variable {W9 w w' : World} {d : List UInt8} {z : Option Nat} {x y : Option (Nat × List UInt8)}
theorem NX.step (h : NX W9 d z x y w) (hb : Below w.heap.size w w') : NX W9 d z x y w' :=
  ⟨h.st.step hb, fun g e => (h.row g e).keep (hb.block _ (h.row g e).lt)⟩
theorem NX.base (W9 : World) (d : List UInt8) : NX W9 d none none none W9.drew := ⟨St.none W9, (fun _ e => nomatch e)⟩
theorem NX.mkrow (h : NX W9 d none x y w) : NX W9 d (some w.heap.size) x y (w.alloc (.cells (U d).toArray 26)) := by
  refine ⟨h.st.step ((Below.refl _ _).alloc (Nat.le_refl _) _), fun g e => ?_⟩
  injection e with e; subst e
  exact heap_alloc_new w _
theorem NX.new1 (h : NX W9 d z none y w) : NX W9 d z (some (w.heap.size, flb 32 [])) y (w.alloc (.cells (U (flb 32 [])).toArray 26)) :=
  ⟨h.st.new1, fun g e => (h.row g e).keep (Below.heap_alloc _ _ _ (h.row g e).lt)⟩
theorem NX.new2 (h : NX W9 d z x none w) : NX W9 d z x (some (w.heap.size, flb 32 [])) (w.alloc (.cells (U (flb 32 [])).toArray 26)) :=
  ⟨h.st.new2, fun g e => (h.row g e).keep (Below.heap_alloc _ _ _ (h.row g e).lt)⟩
end
end Go.Proofs.YtgojodldnodjpaaDoor
