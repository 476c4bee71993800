/- Digest: appends in regions that draw. -/
import Derived.Test.YtgojodldnodjpaaDoorHO
import Derived.Deep.RegionLaw
namespace Go.Proofs.YtgojodldnodjpaaDoor
open Go.RowKit

theorem wp_app_own {o : Oper} {a : Act} {K : Act → World → Prop} {Q : Exit → Act → World → Prop} {w : World} (s x : Operand)
    (ho : o.op = .call { callee := .builtin .append, args := #[s, x], argTypes := #[22, 22] })
    (base : Nat) (v : Value) (S : Nat → Prop) (A : Option Addr) (cap : Nat) (l l2 : List UInt8) (hs : a.eval s = v) (hx : a.eval x = .slice A l2.length cap) (hown : Own w base v l) (hsrc : Byt w S l2 A cap)
    (hlen : l.length + l2.length ≤ 140737488355328) (hbase : base ≤ w.heap.size)
    (h : ∀ v' w', Own w' base v' (l ++ l2) → w.grownBy w' v.ownBlock → K (a.put o.dst v') w') : o.wp Tryd.prog a w K Q := by
  obtain ⟨i, hi, hz0, hz1, hz2⟩ := info_parts info_u8
  rcases A with _ | ad
  · obtain rfl := hsrc.2.2.1 rfl
    have h0 := hsrc.1
    obtain rfl : l2 = [] := List.eq_nil_of_length_eq_zero (by omega)
    have hrun := run_append_owned_none (P := Tryd.prog) (w := w) base 22 o.type 5 i 1 Tryd.underlying22 hi v l.length (U l) hown
    have hx' : a.eval x = .slice none 0 0 := hx
    have := h v w (by rw [List.append_nil]; exact hown) ⟨rfl, rfl, rfl, Nat.le_refl _, fun _ _ _ => rfl⟩
    unfold Oper.wp
    simp [execOp, ho, resolve, invoke, builtin, hs, hx', hrun, Result.andThen]
    exact this
  · refine wp_append_own w s x 22 ho base 5 i (.int .u8 0) 1 1 Tryd.underlying22 hi hz0 hz1 hz2 rfl (by omega) v l.length (U l) hs hown ad l2.length cap (U l2)
      hx (by rw [U_length, Nat.mul_one]) (fun j u hu => ?_) (U_one l2) (by simp only [maxLen]; omega) (by omega) hbase ?_
    · have hj : j < l2.length := by
        by_cases h : j < l2.length
        · exact h
        · rw [List.getElem?_eq_none (by rw [U_length]; omega)] at hu; cases hu
      obtain ⟨b, o, e, _, hc⟩ := hsrc.2.2.2 (by omega)
      injection e with e
      subst e
      rw [Go.WideShapes.add_plain]
      exact hc j u hu
    · intro v' w' h1 h2 _
      refine h v' w' ?_ h2
      unfold Own
      rw [List.length_append, U_append]
      exact h1
theorem step_app_own {ops : Array Oper} {o : Oper} {a : Act} {K : Act → World → Prop} {Q : Exit → Act → World → Prop} {E : Prop} {w : World} (hgd : o.guard = none) (s x : Operand)
    (ho : o.op = .call { callee := .builtin .append, args := #[s, x], argTypes := #[22, 22] })
    (base : Nat) (v : Value) (S : Nat → Prop) (A : Option Addr) (cap : Nat) (l l2 : List UInt8) (hs : a.eval s = v) (hx : a.eval x = .slice A l2.length cap) (hown : Own w base v l) (hsrc : Byt w S l2 A cap)
    (hlen : l.length + l2.length ≤ 140737488355328) (hbase : base ≤ w.heap.size)
    (h : ∀ v' w', Own w' base v' (l ++ l2) → w.grownBy w' v.ownBlock → K (a.put o.dst v') w') : if Region.wanted o (yielded ops a.tmps) = true then Oper.wp Tryd.prog o a w K Q else E := by
  have hw : Region.wanted o (yielded ops a.tmps) = true := by simp [Region.wanted, hgd]
  rw [if_pos hw]
  exact wp_app_own s x ho base v S A cap l l2 hs hx hown hsrc hlen hbase h

/-- append of a digest's bytes onto a slice without room -/
theorem step_app_new {ops : Array Oper} {o : Oper} {a : Act} {K : Act → World → Prop} {Q : Exit → Act → World → Prop} {E : Prop} {w : World} (hgd : o.guard = none) (s x : Operand)
    (ho : o.op = .call { callee := .builtin .append, args := #[s, x], argTypes := #[22, 22] })
    (g b n : Nat) (t : TypeId) (l : List UInt8) (hs : a.eval s = .slice (some ⟨g, 0, none⟩) 0 0) (hx : a.eval x = .slice (some ⟨b, 0, none⟩) n n) (hn : n = l.length) (hpos : 0 < n) (hrow : RowB w b t l)
    (hlen : l.length ≤ 140737488355328)
    (h : ∀ A' c' w', Own w' w.heap.size (.slice A' l.length c') l → Below w.heap.size w w' → K (a.put o.dst (.slice A' l.length c')) w') : if Region.wanted o (yielded ops a.tmps) = true then Oper.wp Tryd.prog o a w K Q else E := by
  have hw : Region.wanted o (yielded ops a.tmps) = true := by simp [Region.wanted, hgd]
  rw [if_pos hw]
  obtain ⟨i, hi, hz0, hz1, hz2⟩ := info_parts info_u8
  subst hn
  obtain ⟨v', w', hrun, h1, h2⟩ := run_append_arg_grows (P := Tryd.prog) w 22 o.type 5 i (.int .u8 0) 1 1 Tryd.underlying22 hi hz0 hz1 hz2 rfl (by omega) ⟨g, 0, none⟩ 0 0 [] rfl
    (fun j u hu => by cases hu) ⟨b, 0, none⟩ l.length l.length (U l) (by rw [U_length, Nat.mul_one]) (fun j u hu => by
      rw [Go.WideShapes.add_plain, Nat.zero_add, cell_of_row w b j _ _ _ hrow]
      simpa using hu) (by omega) (by simp only [maxLen]; omega) (by omega)
  rw [Nat.zero_add, List.nil_append] at h1
  have hown : Own w' w.heap.size v' l := h1
  obtain ⟨A', c', rfl, _⟩ := hown.byt
  have := h A' c' w' hown ((Below.refl _ _).grown h2 (Nat.le_refl _) (fun k hk => by cases hk))
  unfold Oper.wp
  simp [execOp, ho, resolve, invoke, builtin, hs, hx, hrun, Result.andThen]
  exact this
end Go.Proofs.YtgojodldnodjpaaDoor
