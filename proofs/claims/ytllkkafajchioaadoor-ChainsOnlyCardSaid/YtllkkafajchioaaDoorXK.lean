/- Chains: publicOf, its walk. -/
import Derived.Test.YtllkkafajchioaaDoorXJ
namespace Go.Proofs.YtllkkafajchioaaDoor
open Go.RowKit Go.Shelf

attribute [local go_sem] Oper.semAt_some

section
variable {F : Fence} {n : Nat} {ops : Array Oper} {rest : List Oper} {o : Oper} {a : Act} {w : World} {K : Act → World → Prop} {Q : Exit → Act → World → Prop} {E : Prop}
theorem inr_val (m : Nat) (v : Value) (w' : World) (hg : o.guard = none) (hd : o.dst = some m) (ha : o.about Tryd.prog w a.eval = none) (hnd : ∀ c, o.op ≠ .defer c) (hrun : (execOp a.eval o).run Tryd.prog w = .ok (.value v) w') (hK : K (a.put (some m) v) w') :
    if Region.wanted o (yielded ops a.tmps) = true then Oper.wpIn F n Tryd.prog o a w K Q else E := by
  have hw : Region.wanted o (yielded ops a.tmps) = true := by simp [Region.wanted, hg]
  rw [if_pos hw]
  unfold Oper.wpIn
  refine ⟨(fun f hf => by rw [ha] at hf; cases hf), ?_⟩
  rw [Oper.semAt_plain F _ _ hnd, hrun]
  show K (a.put o.dst v) w'
  rw [hd]
  exact hK
theorem inr_skip (w' : World) (hg : o.guard = none) (hd : o.dst = none) (ha : o.about Tryd.prog w a.eval = none) (hnd : ∀ c, o.op ≠ .defer c) (hrun : (execOp a.eval o).run Tryd.prog w = .ok .skip w') (hK : K a w') :
    if Region.wanted o (yielded ops a.tmps) = true then Oper.wpIn F n Tryd.prog o a w K Q else E := by
  have hw : Region.wanted o (yielded ops a.tmps) = true := by simp [Region.wanted, hg]
  rw [if_pos hw]
  unfold Oper.wpIn
  refine ⟨(fun f hf => by rw [ha] at hf; cases hf), ?_⟩
  rw [Oper.semAt_plain F _ _ hnd, hrun]
  show K (a.put o.dst undef) w'
  rw [hd]
  exact hK
theorem inr_load1 (m : Nat) (x : Operand) (B : Nat) (v : Value) (hg : o.guard = none) (hd : o.dst = some m) (ho : o.op = .load 59 x) (hx : a.eval x = .pointer (some ⟨B, 0, none⟩)) (hc : w.cell? ⟨B, 0, none⟩ = some v) (hK : K (a.put (some m) v) w) :
    if Region.wanted o (yielded ops a.tmps) = true then Oper.wpIn F n Tryd.prog o a w K Q else E :=
  inr_val m v w hg hd (by simp [Oper.about, ho]) (by rw [ho]; intro c hc; cases hc) (by
    unfold execOp
    simp only [ho, hx]
    go_simp) hK
theorem inr_arr (m : Nat) (x : Operand) (B : Nat) (hg : o.guard = none) (hd : o.dst = some m) (ho : o.op = .slice 23 x none none none) (hx : a.eval x = .pointer (some ⟨B, 0, none⟩)) (hK : K (a.put (some m) (.slice (some ⟨B, 0, none⟩) 32 32)) w) :
    if Region.wanted o (yielded ops a.tmps) = true then Oper.wpIn F n Tryd.prog o a w K Q else E :=
  inr_val m _ w hg hd (by simp [Oper.about, ho]) (by rw [ho]; intro c hc; cases hc) (ev_arr x B ho hx) hK
theorem inr_bs (m : Nat) (x : Operand) (v : Value) (Ad : Option Addr) (k c : Nat) (hg : o.guard = none) (hd : o.dst = some m) (ho : o.op = .buildSlice 59 1 #[(0, x)]) (hx : a.eval x = v) (hv : v = .slice Ad k c) (hK : K (a.put (some m) (.slice (some ⟨w.heap.size, 0, none⟩) 1 1)) (w.alloc (.cells #[v] 41))) :
    if Region.wanted o (yielded ops a.tmps) = true then Oper.wpIn F n Tryd.prog o a w K Q else E :=
  inr_val m _ _ hg hd (by simp [Oper.about, ho]) (by rw [ho]; intro c hc; cases hc) (by
    subst hv
    have hrun : (Instr.buildSlice 59 1 #[(0, .slice Ad k c)]).run Tryd.prog w = .ok (.slice (some ⟨w.heap.size, 0, none⟩) 1 1) (w.alloc (.cells #[.slice Ad k c] 41)) := by go_simp
    simp [execOp, ho, hx, hrun, Result.andThen]) hK
theorem inr_app (m : Nat) (s x : Operand) (n₃ g k : Nat) (v u : Value) (xs : List Value) (hg : o.guard = none) (hd : o.dst = some m) (ho : o.op = .call { callee := .builtin .append, args := #[s, x], argTypes := #[59, 59] }) (hs : a.eval s = v) (hx : a.eval x = .slice (some ⟨g, 0, none⟩) 1 1)
    (hown : w.ownsRow n₃ 41 1 v k xs) (hu : w.cell? ⟨g, 0, none⟩ = some u) (h1 : u.oneCell' = true) (hk : k ≤ 1000) (hb : n₃ ≤ w.heap.size)
    (hK : ∀ v' w', w'.ownsRow n₃ 41 1 v' (k + 1) (xs ++ [u]) → w.grownBy w' v.ownBlock → K (a.put (some m) v') w') :
    if Region.wanted o (yielded ops a.tmps) = true then Oper.wpIn F n Tryd.prog o a w K Q else E := by
  obtain ⟨i, hi, hz0, hz1, hz2⟩ := info_parts info_bs
  obtain ⟨v', w', hrun, h2, h3, _⟩ := run_append_own (P := Tryd.prog) (w := w) n₃ 59 o.type 41 i (.slice none 0 0) 1 24 Tryd.underlying59 hi hz0 hz1 hz2 rfl (by omega) v k xs hown ⟨g, 0, none⟩ 1 1 [u] rfl (fun j y hj => by
    cases j with
    | zero => simp at hj; subst hj; exact hu
    | succ j => simp at hj) (fun y hy => by rw [List.mem_singleton.1 hy]; exact h1) (by simp only [maxLen]; omega) (by omega) hb
  exact inr_val m v' w' hg hd (by simp [Oper.about, ho, resolve, Target.leads, Sem.run_pure]) (by rw [ho]; intro c hc; cases hc) (by simp [execOp, ho, resolve, invoke, builtin, hs, hx, hrun, Result.andThen]) (hK v' w' h2 h3)
theorem inr_store1 (x y : Operand) (B : Nat) (v u : Value) (hg : o.guard = none) (hd : o.dst = none) (ho : o.op = .store 59 x y) (hx : a.eval x = .pointer (some ⟨B, 0, none⟩)) (hy : a.eval y = u) (Ad : Option Addr) (k c : Nat) (hu : u = .slice Ad k c) (hc : w.cell? ⟨B, 0, none⟩ = some v) (hf : w.frozen? ⟨B, 0, none⟩ = false) (hK : K a (w.setCell ⟨B, 0, none⟩ u)) :
    if Region.wanted o (yielded ops a.tmps) = true then Oper.wpIn F n Tryd.prog o a w K Q else E :=
  inr_skip _ hg hd (by simp [Oper.about, ho]) (by rw [ho]; intro c hc; cases hc) (by
    subst hu
    unfold execOp
    simp only [ho, hx, hy]
    go_simp) hK
theorem in_loadN (hg : o.guard = none) (x : Operand) (ho : o.op = .load 47 x) (b : Nat) (D : List Nat) (hx : a.eval x = .pointer (some ⟨b, 0, none⟩)) (h : RowN w b 47 D) (hd : D.length = 19)
    (hK : wpListIn F n Tryd.prog ops Q rest (a.put o.dst (.agg (NI D).toArray)) w) : wpListIn F n Tryd.prog ops Q (o :: rest) a w :=
  in_value _ w hg (by simp [Oper.about, ho]) (by rw [ho]; intro c hc; cases hc) (by
    have h1 := run_loadVar_row (P := Tryd.prog) w b 47 47 _ (0, 0) _ h Tryd.underlying47 rfl (by rw [sz19, NI_size, hd])
    unfold execOp
    simp only [ho, hx, Instr.loadAt, Instr.sureAddr, Sem.run_bind, Sem.run_pure, Result.andThen_ok, h1]) hK
end
end Go.Proofs.YtllkkafajchioaaDoor
