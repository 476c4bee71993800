/- Digest: more steps by hand: lists made, appended, allocated. -/
import Derived.Test.YtgojodldnodjpaaDoorJQ
import Derived.Maps.AppendAt
namespace Go.Proofs.YtgojodldnodjpaaDoor
open Go.RowKit

theorem flat_idx : ∀ (P : List (List UInt8)) (j : Nat) (u : Value), (∀ d ∈ P, d.length = 32) → (P.flatMap U)[j]? = some u → ∃ i d, P[i]? = some d ∧ (U d)[j - i * 32]? = some u ∧ i * 32 ≤ j
  | [], j, u, _, h => by simp at h
  | c :: P, j, u, hd, h => by
    have h1 := hd c (List.mem_cons_self ..)
    rw [List.flatMap_cons] at h
    by_cases hj : j < 32
    · rw [List.getElem?_append_left (by rw [U_length, h1]; exact hj)] at h
      exact ⟨0, c, rfl, by simpa using h, by omega⟩
    · rw [List.getElem?_append_right (by rw [U_length, h1]; omega), U_length, h1] at h
      obtain ⟨i, d, e1, e2, e3⟩ := flat_idx P (j - 32) u (fun x hx => hd x (List.mem_cons_of_mem _ hx)) h
      exact ⟨i + 1, d, by simpa using e1, by rw [show j - (i + 1) * 32 = j - 32 - i * 32 by omega]; exact e2, by omega⟩
theorem DL.one {w : World} {g : Nat} {t : TypeId} {d : List UInt8} (h : RowB w g t d) (hd : d.length = 32) : DL w (· = g) [d] (some ⟨g, 0, none⟩) 1 := by
  refine ⟨Nat.le_refl _, by simp only [maxLen]; omega, (fun e => by cases e), fun x hx => by rw [List.mem_singleton.1 hx]; exact hd, fun _ => ⟨g, 0, rfl, rfl, fun i x hx => ?_⟩⟩
  cases i with
  | zero => simp at hx; subst hx; exact h.range
  | succ i => simp at hx

section
variable {ops : Array Oper} {o : Oper} {a : Act} {K : Act → World → Prop} {Q : Exit → Act → World → Prop} {E : Prop} {w : World}
theorem to_app (n : Nat) (s x : Operand) (hgd : o.guard = none) (ho : o.op = .call { callee := .builtin .append, args := #[s, x], argTypes := #[30, 30] }) (hdst : o.dst = some n)
    (base : Nat) (v : Value) (S : Nat → Prop) (L P : List (List UInt8)) (A : Option Addr) (cap : Nat) (hs : a.eval s = v) (hx : a.eval x = .slice A P.length cap) (hown : OwnD w base v L) (hsrc : DL w S P A cap)
    (hlen : L.length + P.length ≤ 1099511627776) (hbase : base ≤ w.heap.size)
    (h : ∀ A' c' w', OwnD w' base (.slice A' (L.length + P.length) c') (L ++ P) → w.grownBy w' v.ownBlock → ((Value.slice A' (L.length + P.length) c').ownBlock = v.ownBlock ∨ (Value.slice A' (L.length + P.length) c').ownBlock = some w.heap.size) → K (a.put (some n) (.slice A' (L.length + P.length) c')) w') :
    if Region.wanted o (yielded ops a.tmps) = true then Oper.wp Tryd.prog o a w K Q else E := by
  have hw : Region.wanted o (yielded ops a.tmps) = true := by simp [Region.wanted, hgd]
  rw [if_pos hw]
  obtain ⟨i, hi, hz0, hz1, hz2⟩ := info_parts info_d
  have done : ∀ v' w', OwnD w' base v' (L ++ P) → w.grownBy w' v.ownBlock → (v'.ownBlock = v.ownBlock ∨ v'.ownBlock = some w.heap.size) → K (a.put (some n) v') w' := fun v' w' h1 h2 h3 => by
    obtain ⟨A', c', e⟩ := h1.slice
    rw [List.length_append] at e
    subst e
    exact h A' c' w' h1 h2 h3
  rcases A with _ | ad
  · obtain rfl := hsrc.2.2.1 rfl
    have h0 := hsrc.1
    obtain rfl : P = [] := List.eq_nil_of_length_eq_zero (by omega)
    have hrun := run_append_owned_none (P := Tryd.prog) (w := w) base 30 o.type 26 i 32 Tryd.underlying30 hi v L.length (L.flatMap U) hown.1
    have hx' : a.eval x = .slice none 0 0 := hx
    have := done v w (by rw [List.append_nil]; exact hown) ⟨rfl, rfl, rfl, Nat.le_refl _, fun _ _ _ => rfl⟩ (.inl rfl)
    unfold Oper.wp
    simp [execOp, ho, resolve, invoke, builtin, hs, hx', hrun, Result.andThen]
    show K (a.put o.dst _) _
    rw [hdst]
    exact this
  · obtain ⟨v', w', hrun, h1, h2, _, h4⟩ := run_append_own_at (P := Tryd.prog) (w := w) base 30 o.type 26 i (.agg (U z32).toArray) 32 32 Tryd.underlying30 hi hz0 hz1 hz2 rfl (by omega) v L.length (L.flatMap U) hown.1
      ad P.length cap (P.flatMap U) (flat_len P hsrc.2.2.2.1) (fun j u hu => by
        obtain ⟨k, d, e1, e2, e3⟩ := flat_idx P j u hsrc.2.2.2.1 hu
        have hp : 0 < P.length := by have := (List.getElem?_eq_some_iff.1 e1).1; omega
        obtain ⟨b, ofs, e, _, hc⟩ := hsrc.2.2.2.2 hp
        injection e with e
        subst e
        rw [Go.WideShapes.add_plain]
        have := hc k d e1 _ u e2
        rwa [show ofs + k * 32 + (j - k * 32) = ofs + j by omega] at this)
      (fun u hu => by
        obtain ⟨d, _, hud⟩ := List.mem_flatMap.1 hu
        exact U_one d u hud) (by simp only [maxLen]; omega) (by omega) hbase
    have h1' : OwnD w' base v' (L ++ P) := by
      refine ⟨?_, fun c hc => ?_⟩
      · rw [List.length_append, List.flatMap_append]
        exact h1
      · rcases List.mem_append.1 hc with hc | hc
        · exact hown.2 c hc
        · exact hsrc.2.2.2.1 c hc
    have := done v' w' h1' h2 h4
    unfold Oper.wp
    simp [execOp, ho, resolve, invoke, builtin, hs, hx, hrun, Result.andThen]
    show K (a.put o.dst _) _
    rw [hdst]
    exact this
theorem to_bs0 (n : Nat) (hgd : o.guard = none) (ho : o.op = .buildSlice 30 0 #[]) (hd : o.dst = some n)
    (hK : K (a.put (some n) (.slice (some ⟨w.heap.size, 0, none⟩) 0 0)) (w.alloc (.cells #[] 26))) : if Region.wanted o (yielded ops a.tmps) = true then Oper.wp Tryd.prog o a w K Q else E := by
  have hw : Region.wanted o (yielded ops a.tmps) = true := by simp [Region.wanted, hgd]
  rw [if_pos hw]
  unfold Oper.wp execOp
  simp only [ho]
  go_simp
  exact hK
theorem to_bs1 (n : Nat) (x : Operand) (d : List UInt8) (hgd : o.guard = none) (ho : o.op = .buildSlice 30 1 #[(0, x)]) (hdst : o.dst = some n) (hx : a.eval x = .agg (U d).toArray) (hd : d.length = 32)
    (hK : K (a.put (some n) (.slice (some ⟨w.heap.size, 0, none⟩) 1 1)) (w.alloc (.cells (U d).toArray 26))) : if Region.wanted o (yielded ops a.tmps) = true then Oper.wp Tryd.prog o a w K Q else E := by
  have hw : Region.wanted o (yielded ops a.tmps) = true := by simp [Region.wanted, hgd]
  rw [if_pos hw]
  have hrun := run_bs d hd w
  unfold Oper.wp
  simp [execOp, ho, hx, hrun, Result.andThen]
  show K (a.put o.dst _) _
  rw [hdst]
  exact hK
theorem to_alloc (n : Nat) (hgd : o.guard = none) (ho : o.op = .alloc 26) (hd : o.dst = some n)
    (hK : K (a.put (some n) (.pointer (some ⟨w.heap.size, 0, none⟩))) (w.alloc (.cells (U (flb 32 [])).toArray 26))) : if Region.wanted o (yielded ops a.tmps) = true then Oper.wp Tryd.prog o a w K Q else E :=
  step_alloc_B hgd ho (by rw [hd]; exact hK)
theorem to_store (x y : Operand) (hgd : o.guard = none) (ho : o.op = .store 26 x y) (hd : o.dst = none)
    (g : Nat) (l l' : List UInt8) (hx : a.eval x = .pointer (some ⟨g, 0, none⟩)) (hy : a.eval y = .agg (U l').toArray) (h : RowB w g 26 l) (hl : l.length = 32) (hl' : l'.length = 32)
    (hK : K a (w.setRow g (U l').toArray)) : if Region.wanted o (yielded ops a.tmps) = true then Oper.wp Tryd.prog o a w K Q else E :=
  step_store_B hgd x y ho g l l' hx hy h hl hl' (by rw [hd]; exact hK)
end

section
variable {md : Region.Mode} {ops : Array Oper} {Q : Exit → Act → World → Prop} {S : World → Prop} {fuel : Nat} {listed : Array Bool} {a : Act} {w : World}
theorem tk_assign (i n : Nat) (x : Operand) (v : Value) {oi : Oper} (hi : ops[i]? = some oi)
    (hs : Region.noSelect ops = true) (hf : Region.free md ops listed i = true) (hr : (Region.ready md ops listed).contains i = true) (hQ : ∀ c a v w, Q (.panic c) (a.put (some n) v) w → Q (.panic c) a w)
    (hg : oi.guard = none) (ho : oi.op = .assign x) (hd : oi.dst = some n) (hx : a.eval x = v) (h0 : S w)
    (h : wpAnyH Tryd.prog md ops Q S fuel (listed.setIfInBounds i true) (a.put (some n) v) w) : wpAnyH Tryd.prog md ops Q S (fuel + 1) listed a w :=
  tk_val i n v hi hs hf hr hQ hg hd (fun w _ => by subst hx; simp [execOp, ho]) h0 h
end
theorem ev_len {o : Oper} {a : Act} {w : World} (x : Operand) (A : Option Addr) (n cap : Nat) (ho : o.op = .call { callee := .builtin .len, args := #[x], argTypes := #[30] }) (hx : a.eval x = .slice A n cap) :
    (execOp a.eval o).run Tryd.prog w = .ok (.value (.int .i64 n)) w := by
  unfold execOp
  simp [ho, hx, resolve, invoke, builtin]
  go_simp
theorem ev_extract {o : Oper} {a : Act} {w : World} (x : Operand) (k : Nat) (vs : Array Value) (v : Value) (ho : o.op = .extract x k) (hx : a.eval x = .tuple vs) (hk : vs[k]? = some v) :
    (execOp a.eval o).run Tryd.prog w = .ok (.value v) w := by
  unfold execOp
  simp [ho, hx, Instr.extract, hk]

/-- what an append leaves of a box beside it -/
theorem RowB.grown {w w' : World} {g : Nat} {t : TypeId} {l : List UInt8} {v : Value} (h : RowB w g t l) (hg : w.grownBy w' v.ownBlock) (hn : v.ownBlock ≠ some g) : RowB w' g t l :=
  h.keep (hg.block g h.lt (Ne.symm hn))
theorem apart_app {v v' : Value} {w : World} {g : Nat} (hn : v.ownBlock ≠ some g) (hat : v'.ownBlock = v.ownBlock ∨ v'.ownBlock = some w.heap.size) (hg : g < w.heap.size) : v'.ownBlock ≠ some g := by
  rcases hat with h | h
  · rw [h]; exact hn
  · rw [h]; intro e; injection e with e; omega
theorem apart_new {w : World} {b : Nat} {v : Value} {L : List (List UInt8)} (h : OwnD w b v L) : v.ownBlock ≠ some w.heap.size := fun e => by
  have := (World.ownsRow.lt h.1 _ e).2
  omega
theorem nilD (w : World) : OwnD (w.alloc (.cells #[] 26)) w.heap.size (.slice (some ⟨w.heap.size, 0, none⟩) 0 0) [] := ownD_empty w
end Go.Proofs.YtgojodldnodjpaaDoor
