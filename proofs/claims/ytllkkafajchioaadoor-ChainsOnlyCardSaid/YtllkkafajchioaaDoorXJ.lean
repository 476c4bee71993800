/- Chains: publicOf: the last elements, collected. -/
import Derived.Test.YtllkkafajchioaaDoorXI
namespace Go.Proofs.YtllkkafajchioaaDoor
open Go.RowKit Go.Shelf

attribute [local go_sem] Oper.semAt_some

def EN (bs : List Nat) : List Value := bs.map fun b => Value.slice (some ⟨b, 0, none⟩) 32 32
theorem EN_len (bs : List Nat) : (EN bs).length = bs.length := by simp [EN]
theorem EN_app (bs : List Nat) (b : Nat) : EN (bs ++ [b]) = EN bs ++ [Value.slice (some ⟨b, 0, none⟩) 32 32] := by simp [EN]
theorem info_bs : (Tryd.prog.info? 41).map (fun i => (i.zero, i.size, i.bytes)) = some (some (.slice none 0 0), 1, 24) := by kernel_rfl
/-- the ends so far -/
def EnI (w : World) (n₃ B Rb : Nat) (pre : List (List UInt8)) (W : World) : Prop :=
  ∃ (bs : List Nat) (v : Value), bs.length = pre.length ∧ Boxed W B 59 v ∧ W.ownsRow n₃ 41 1 v bs.length (EN bs) ∧ (∀ (j b : Nat) x, bs[j]? = some b → pre[j]? = some x → n₃ ≤ b ∧ RowB W b 23 (nz x)) ∧ RowB W Rb 23 (flb 32 []) ∧ Below w.heap.size w W ∧ n₃ ≤ W.heap.size
theorem rowb_from {W W' : World} {b : Nat} {x : List UInt8} {row : Option Nat} (h : RowB W b 23 x) (hg : W.grownBy W' row) (hr : ∀ r, row = some r → ∃ o : Obj, W.heap[r]? = some o ∧ o.isCells = false) : RowB W' b 23 x :=
  rowb_own b x () W W' row h hg hr
theorem eni_from (w : World) (n₃ B Rb : Nat) (hn : w.heap.size ≤ n₃) : OwnFrom n₃ (EnI w n₃ B Rb) := by
  rintro pre X Y row ⟨bs, v, h1, h2, h3, h4, h5, h6, h7⟩ hg hr
  have hr2 := fun r e => (hr r e).2
  obtain ⟨v2, k2, k3, rfl⟩ := (holdsRow_own (β := Unit) n₃ B 59 41 1 (fun _ => bs.length) (fun _ => EN bs) (fun _ u => u = v)) () X Y row ⟨v, h2, h3, rfl⟩ hg hr2
  exact ⟨bs, v2, h1, k2, k3, (fun j b x hj hx => ⟨(h4 j b x hj hx).1, rowb_from (h4 j b x hj hx).2 hg hr2⟩), rowb_from h5 hg hr2, (ownFrom_below (β := Unit) (n₀ := w.heap.size) (B := n₃) (Nat.le_refl _) hn) () X Y row h6 hg hr, Nat.le_trans h7 hg.size⟩
/-- an element more -/
theorem eni_step (w : World) (n₃ B Rb Bx : Nat) (S : Nat → Prop) (hB : w.heap.size ≤ B) (hB3 : B < n₃) (_hRb : Rb < n₃) (hRB : Rb ≠ B) (hS : ∀ i, S i → i < n₃ ∧ i ≠ B) (pre : List (List UInt8)) (x : List UInt8) (W w1 : World) (bs : List Nat) (v v' : Value)
    (h1 : bs.length = pre.length) (h2 : Boxed W B 59 v) (h3 : W.ownsRow n₃ 41 1 v bs.length (EN bs)) (h4 : ∀ (j b : Nat) x, bs[j]? = some b → pre[j]? = some x → n₃ ≤ b ∧ RowB W b 23 (nz x)) (h5 : RowB W Rb 23 (flb 32 [])) (h6 : Below w.heap.size w W) (h7 : n₃ ≤ W.heap.size)
    (hx : RowB W Bx 23 (nz x)) (hBx : n₃ ≤ Bx) (tmp : Obj) (ho : w1.ownsRow n₃ 41 1 v' (bs.length + 1) (EN bs ++ [Value.slice (some ⟨Bx, 0, none⟩) 32 32])) (hg : (W.drew.alloc tmp).grownBy w1 v.ownBlock) (_hn : w.heap.size ≤ n₃) :
    w1.cell? ⟨B, 0, none⟩ = some v ∧ w1.frozen? ⟨B, 0, none⟩ = false ∧ KeepsFrom n₃ W (w1.setCell ⟨B, 0, none⟩ v') ∧ KS S W (w1.setCell ⟨B, 0, none⟩ v') ∧ EnI w n₃ B Rb (pre ++ [x]) (w1.setCell ⟨B, 0, none⟩ v') := by
  have h2' : Boxed W.drew B 59 v := h2
  have h3' : W.drew.ownsRow n₃ 41 1 v bs.length (EN bs) := h3
  have keep : ∀ i, i < W.heap.size → v.ownBlock ≠ some i → w1.heap[i]? = W.heap[i]? := fun i hi hne => by
    have := hg.block i (by simp; omega) (Ne.symm hne)
    rw [this]
    exact (Below.heap_alloc W.drew tmp i hi)
  have hnB : v.ownBlock ≠ some B := fun e => by have := (World.ownsRow.lt h3 B e).1; omega
  have hb1 : Boxed w1 B 59 v := (keep B h2.lt hnB).trans h2
  have keep2 : ∀ i, i < W.heap.size → v.ownBlock ≠ some i → i ≠ B → (w1.setCell ⟨B, 0, none⟩ v').heap[i]? = W.heap[i]? := fun i hi hne hiB => by
    exact (Below.heap_setCell w1 ⟨B, 0, none⟩ v' i hiB).trans (keep i hi hne)
  have hrow : ∀ b y, RowB W b 23 y → v.ownBlock ≠ some b := fun b y hy e => by
    rcases h3.2 with ⟨rfl, _⟩ | ⟨g, cap, cur, rfl, _, hgb, _⟩
    · simp [Value.ownBlock] at e
    · obtain rfl : g = b := by simpa [Value.ownBlock] using e
      have := (show W.heap[g]? = _ from hy).symm.trans hgb
      simp at this
  have hsz : W.heap.size ≤ w1.heap.size := by have := hg.size; simp at this; omega
  have hnB' : v'.ownBlock ≠ some B := fun e => by have := (World.ownsRow.lt ho B e).1; omega
  have hsz2 : W.heap.size ≤ (w1.setCell ⟨B, 0, none⟩ v').heap.size := Nat.le_trans hsz ((Below.refl 0 w1).setCell (Nat.zero_le _) v').size
  refine ⟨hb1.cell, hb1.frozen, ?_, fun i hi => ?_, ⟨bs ++ [Bx], v', by simp [h1], hb1.set v', ?_, ?_, ?_, ?_, by omega⟩⟩
  · refine ⟨hsz2, fun k o hk hko hc => ?_⟩
    refine (keep2 k (Array.getElem?_eq_some_iff.1 hko).1 (fun e => ?_) (by omega)).trans hko
    rcases h3.2 with ⟨rfl, _⟩ | ⟨g, cap, cur, rfl, _, hgb, _⟩
    · simp [Value.ownBlock] at e
    · obtain rfl : g = k := by simpa [Value.ownBlock] using e
      rw [hgb] at hko
      cases hko
      cases hc
  · have := hS i hi
    exact keep2 i (by omega) (fun e => by have := (World.ownsRow.lt h3 i e).1; omega) this.2
  · rw [EN_app, List.length_append]
    exact World.ownsRow.kept ho (grownBy_setCell' w1 B v') (.inr hnB')
  · intro j b y hj hy
    by_cases hlt : j < bs.length
    · rw [List.getElem?_append_left hlt] at hj
      rw [List.getElem?_append_left (by omega)] at hy
      obtain ⟨k1, k2⟩ := h4 j b y hj hy
      exact ⟨k1, (keep2 b k2.lt (hrow b _ k2) (by omega)).trans k2⟩
    · have hj1 : j - bs.length = 0 := by
        rw [List.getElem?_append_right (by omega)] at hj
        by_cases h0 : j - bs.length = 0
        · exact h0
        · rw [List.getElem?_eq_none (by simp; omega)] at hj; cases hj
      rw [List.getElem?_append_right (by omega), hj1] at hj
      rw [List.getElem?_append_right (by omega), show j - pre.length = 0 by omega] at hy
      simp at hj hy
      subst hj hy
      exact ⟨hBx, (keep2 Bx hx.lt (hrow Bx _ hx) (by omega)).trans hx⟩
  · exact (keep2 Rb h5.lt (hrow Rb _ h5) hRB).trans h5
  · refine ⟨?_, ?_, ?_, Nat.le_trans h6.size hsz2, fun k hk => ?_⟩
    · exact hg.os.trans h6.os
    · exact hg.tape.trans h6.tape
    · exact hg.output.trans h6.output
    · exact (keep2 k (by have := h6.size; omega) (fun e => by have := (World.ownsRow.lt h3 k e).1; omega) (by omega)).trans (h6.block k hk)
end Go.Proofs.YtllkkafajchioaaDoor
