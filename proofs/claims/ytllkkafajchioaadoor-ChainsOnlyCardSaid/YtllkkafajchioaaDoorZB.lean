/- Chains: two own slices of bytes; appends of an element's bytes. -/
import Derived.Test.YtllkkafajchioaaDoorZA
namespace Go.Proofs.YtllkkafajchioaaDoor
open Go.RowKit

theorem enters_ends : Enters Tryd.prog 26 := enters_of Tryd.func26 (by kernel_rfl) rfl
theorem enters_lawstep : Enters Tryd.prog 25 := enters_of Tryd.func25 (by kernel_rfl) rfl

/-- two slices of bytes of the call's own, apart -/
structure Two (w2 : World) (v1 v2 : Value) (l1 l2 : List UInt8) (wx : World) : Prop where
  below : Below w2.heap.size w2 wx
  one : Own wx w2.heap.size v1 l1
  two : Own wx w2.heap.size v2 l2
  apart : ∀ g, v1.ownBlock = some g → v2.ownBlock ≠ some g
theorem Two.swap {w2 wx : World} {v1 v2 : Value} {l1 l2 : List UInt8} (h : Two w2 v1 v2 l1 l2 wx) : Two w2 v2 v1 l2 l1 wx :=
  ⟨h.below, h.two, h.one, fun g e e' => h.apart g e' e⟩
theorem Two.app1 {w2 wx w' : World} {v1 v2 v' : Value} {l1 l2 l' : List UInt8} (h : Two w2 v1 v2 l1 l2 wx) (ho : Own w' w2.heap.size v' l') (hg : wx.grownBy w' v1.ownBlock) (hp : v'.ownBlock = v1.ownBlock ∨ v'.ownBlock = some wx.heap.size) : Two w2 v' v2 l' l2 w' := by
  refine ⟨below_own h.below hg h.one (Nat.le_refl _) h.below.size, ho, h.two.kept fun g e => hg.block g (World.ownsRow.lt h.two g e).2 (fun e' => h.apart g e'.symm e), fun g e e' => ?_⟩
  rcases hp with hp | hp
  · exact h.apart g (hp ▸ e) e'
  · have := (World.ownsRow.lt h.two g e').2
    rw [hp] at e
    injection e with e
    omega
theorem Two.app2 {w2 wx w' : World} {v1 v2 v' : Value} {l1 l2 l' : List UInt8} (h : Two w2 v1 v2 l1 l2 wx) (ho : Own w' w2.heap.size v' l') (hg : wx.grownBy w' v2.ownBlock) (hp : v'.ownBlock = v2.ownBlock ∨ v'.ownBlock = some wx.heap.size) : Two w2 v1 v' l1 l' w' :=
  (h.swap.app1 ho hg hp).swap
theorem ev_arr_at {o : Oper} {a : Act} {w : World} (x : Operand) (g n : Nat) (ho : o.op = .slice 23 x none none none) (hx : a.eval x = .pointer (some ⟨g, n, none⟩)) :
    (execOp a.eval o).run Tryd.prog w = .ok (.value (.slice (some ⟨g, n, none⟩) 32 32)) w := by
  unfold execOp
  simp only [ho, hx, Option.map]
  go_simp
section
variable {ops : Array Oper} {o : Oper} {a : Act} {K : Act → World → Prop} {Q : Exit → Act → World → Prop} {E : Prop} {w : World}
theorem to_load (n : Nat) (x : Operand) (g : Nat) (t : TypeId) (l : List UInt8) (hgd : o.guard = none) (ho : o.op = .load 23 x) (hd : o.dst = some n) (hx : a.eval x = .pointer (some ⟨g, 0, none⟩)) (h : RowB w g t l) (hl : l.length = 32)
    (hK : K (a.put (some n) (.agg (U l).toArray)) w) : if Region.wanted o (yielded ops a.tmps) = true then Oper.wp Tryd.prog o a w K Q else E := by
  have hw : Region.wanted o (yielded ops a.tmps) = true := by simp [Region.wanted, hgd]
  rw [if_pos hw]
  exact wp_load_row 23 x ho g hx t _ (0, 0) _ h Tryd.underlying23 rfl (by rw [sz32, U_size, hl]) (by rw [hd]; exact hK)
theorem to_appb (n : Nat) (s x : Operand) (hgd : o.guard = none) (ho : o.op = .call { callee := .builtin .append, args := #[s, x], argTypes := #[41, 41] }) (hdst : o.dst = some n)
    (base : Nat) (v : Value) (l d : List UInt8) (b ofs c : Nat) (hs : a.eval s = v) (hx : a.eval x = .slice (some ⟨b, ofs, none⟩) 32 c) (hown : Own w base v l) (hsrc : w.rangeAt b ofs (U d)) (hd : d.length = 32)
    (hlen : l.length + 32 ≤ 1099511627776) (hbase : base ≤ w.heap.size)
    (h : ∀ v' w', Own w' base v' (l ++ d) → w.grownBy w' v.ownBlock → (v'.ownBlock = v.ownBlock ∨ v'.ownBlock = some w.heap.size) → K (a.put (some n) v') w') :
    if Region.wanted o (yielded ops a.tmps) = true then Oper.wp Tryd.prog o a w K Q else E := by
  have hw : Region.wanted o (yielded ops a.tmps) = true := by simp [Region.wanted, hgd]
  rw [if_pos hw]
  obtain ⟨i, hi, hz0, hz1, hz2⟩ := info_parts info_u8
  obtain ⟨v', w', hrun, h1, h2, _, h4⟩ := run_append_own_at (P := Tryd.prog) (w := w) base 41 o.type 5 i (.int .u8 0) 1 1 Tryd.underlying41 hi hz0 hz1 hz2 rfl (by omega) v l.length (U l) hown
    ⟨b, ofs, none⟩ 32 c (U d) (by rw [U_length, hd]) (fun j u hu => by rw [Go.WideShapes.add_plain]; exact hsrc j u hu) (U_one d) (by simp only [maxLen]; omega) (by omega) hbase
  have h1' : Own w' base v' (l ++ d) := by
    unfold Own
    rw [List.length_append, U_append, hd]
    exact h1
  have := h v' w' h1' h2 h4
  unfold Oper.wp
  simp [execOp, ho, resolve, invoke, builtin, hs, hx, hrun, Result.andThen]
  show K (a.put o.dst _) _
  rw [hdst]
  exact this
end
end Go.Proofs.YtllkkafajchioaaDoor
