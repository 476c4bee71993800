/- Several texts joined: parts XJ XK XL XM XN. -/
import Derived.Test.YteicbdjennjcdaaDoorW06
namespace Go.Proofs.YteicbdjennjcdaaDoor
section
set_option maxRecDepth 100000
open Go.RowKit Go.Shelf

attribute [local go_sem] Oper.semAt_some

def EN (bs : List Nat) : List Value := bs.map fun b => Value.slice (some ⟨b, 0, none⟩) 32 32
theorem EN_len (bs : List Nat) : (EN bs).length = bs.length := by simp [EN]
theorem EN_app (bs : List Nat) (b : Nat) : EN (bs ++ [b]) = EN bs ++ [Value.slice (some ⟨b, 0, none⟩) 32 32] := by simp [EN]
theorem info_bs : (Tryd.prog.info? 62).map (fun i => (i.zero, i.size, i.bytes)) = some (some (.slice none 0 0), 1, 24) := by kernel_rfl
/-- the ends so far -/
def EnI (w : World) (n₃ B Rb : Nat) (pre : List (List UInt8)) (W : World) : Prop :=
  ∃ (bs : List Nat) (v : Value), bs.length = pre.length ∧ Boxed W B 100 v ∧ W.ownsRow n₃ 62 1 v bs.length (EN bs) ∧ (∀ (j b : Nat) x, bs[j]? = some b → pre[j]? = some x → n₃ ≤ b ∧ RowB W b 23 (nz x)) ∧ RowB W Rb 23 (flb 32 []) ∧ Below w.heap.size w W ∧ n₃ ≤ W.heap.size
theorem rowb_from {W W' : World} {b : Nat} {x : List UInt8} {row : Option Nat} (h : RowB W b 23 x) (hg : W.grownBy W' row) (hr : ∀ r, row = some r → ∃ o : Obj, W.heap[r]? = some o ∧ o.isCells = false) : RowB W' b 23 x :=
  rowb_own b x () W W' row h hg hr
theorem eni_from (w : World) (n₃ B Rb : Nat) (hn : w.heap.size ≤ n₃) : OwnFrom n₃ (EnI w n₃ B Rb) := by
  rintro pre X Y row ⟨bs, v, h1, h2, h3, h4, h5, h6, h7⟩ hg hr
  have hr2 := fun r e => (hr r e).2
  obtain ⟨v2, k2, k3, rfl⟩ := (holdsRow_own (β := Unit) n₃ B 100 62 1 (fun _ => bs.length) (fun _ => EN bs) (fun _ u => u = v)) () X Y row ⟨v, h2, h3, rfl⟩ hg hr2
  exact ⟨bs, v2, h1, k2, k3, (fun j b x hj hx => ⟨(h4 j b x hj hx).1, rowb_from (h4 j b x hj hx).2 hg hr2⟩), rowb_from h5 hg hr2, (ownFrom_below (β := Unit) (n₀ := w.heap.size) (B := n₃) (Nat.le_refl _) hn) () X Y row h6 hg hr, Nat.le_trans h7 hg.size⟩
/-- an element more -/
theorem eni_step (w : World) (n₃ B Rb Bx : Nat) (S : Nat → Prop) (hB : w.heap.size ≤ B) (hB3 : B < n₃) (_hRb : Rb < n₃) (hRB : Rb ≠ B) (hS : ∀ i, S i → i < n₃ ∧ i ≠ B) (pre : List (List UInt8)) (x : List UInt8) (W w1 : World) (bs : List Nat) (v v' : Value)
    (h1 : bs.length = pre.length) (h2 : Boxed W B 100 v) (h3 : W.ownsRow n₃ 62 1 v bs.length (EN bs)) (h4 : ∀ (j b : Nat) x, bs[j]? = some b → pre[j]? = some x → n₃ ≤ b ∧ RowB W b 23 (nz x)) (h5 : RowB W Rb 23 (flb 32 [])) (h6 : Below w.heap.size w W) (h7 : n₃ ≤ W.heap.size)
    (hx : RowB W Bx 23 (nz x)) (hBx : n₃ ≤ Bx) (tmp : Obj) (ho : w1.ownsRow n₃ 62 1 v' (bs.length + 1) (EN bs ++ [Value.slice (some ⟨Bx, 0, none⟩) 32 32])) (hg : (W.drew.alloc tmp).grownBy w1 v.ownBlock) (_hn : w.heap.size ≤ n₃) :
    w1.cell? ⟨B, 0, none⟩ = some v ∧ w1.frozen? ⟨B, 0, none⟩ = false ∧ KeepsFrom n₃ W (w1.setCell ⟨B, 0, none⟩ v') ∧ KS S W (w1.setCell ⟨B, 0, none⟩ v') ∧ EnI w n₃ B Rb (pre ++ [x]) (w1.setCell ⟨B, 0, none⟩ v') := by
  have h2' : Boxed W.drew B 100 v := h2
  have h3' : W.drew.ownsRow n₃ 62 1 v bs.length (EN bs) := h3
  have keep : ∀ i, i < W.heap.size → v.ownBlock ≠ some i → w1.heap[i]? = W.heap[i]? := fun i hi hne => by
    have := hg.block i (by simp; omega) (Ne.symm hne)
    rw [this]
    exact (Below.heap_alloc W.drew tmp i hi)
  have hnB : v.ownBlock ≠ some B := fun e => by have := (World.ownsRow.lt h3 B e).1; omega
  have hb1 : Boxed w1 B 100 v := (keep B h2.lt hnB).trans h2
  have keep2 : ∀ i, i < W.heap.size → v.ownBlock ≠ some i → i ≠ B → (w1.setCell ⟨B, 0, none⟩ v').heap[i]? = W.heap[i]? := fun i hi hne hiB => by
    exact (Below.heap_setCell w1 ⟨B, 0, none⟩ v' i hiB).trans (keep i hi hne)
  have hrow : ∀ b y, RowB W b 23 y → v.ownBlock ≠ some b := fun b y hy e => by
    rcases h3.2 with ⟨rfl, _⟩ | ⟨g, cap, cur, rfl, _, hgb, _⟩
    · simp [Value.ownBlock] at e
    · obtain rfl : g = b := by simpa [Value.ownBlock] using e
      have := (show W.heap[g]? = _ from hy).symm.trans hgb
      simp at this
  have hsz : W.heap.size ≤ w1.heap.size := by have := hg.size; simp at this; omega
  have hnB' : v'.ownBlock ≠ some B := fun e => by have := (World.ownsRow.lt ho B e).1; omega
  have hsz2 : W.heap.size ≤ (w1.setCell ⟨B, 0, none⟩ v').heap.size := Nat.le_trans hsz ((Below.refl 0 w1).setCell (Nat.zero_le _) v').size
  refine ⟨hb1.cell, hb1.frozen, ?_, fun i hi => ?_, ⟨bs ++ [Bx], v', by simp [h1], hb1.set v', ?_, ?_, ?_, ?_, by omega⟩⟩
  · refine ⟨hsz2, fun k o hk hko hc => ?_⟩
    refine (keep2 k (Array.getElem?_eq_some_iff.1 hko).1 (fun e => ?_) (by omega)).trans hko
    rcases h3.2 with ⟨rfl, _⟩ | ⟨g, cap, cur, rfl, _, hgb, _⟩
    · simp [Value.ownBlock] at e
    · obtain rfl : g = k := by simpa [Value.ownBlock] using e
      rw [hgb] at hko
      cases hko
      cases hc
  · have := hS i hi
    exact keep2 i (by omega) (fun e => by have := (World.ownsRow.lt h3 i e).1; omega) this.2
  · rw [EN_app, List.length_append]
    exact World.ownsRow.kept ho (grownBy_setCell' w1 B v') (.inr hnB')
  · intro j b y hj hy
    by_cases hlt : j < bs.length
    · rw [List.getElem?_append_left hlt] at hj
      rw [List.getElem?_append_left (by omega)] at hy
      obtain ⟨k1, k2⟩ := h4 j b y hj hy
      exact ⟨k1, (keep2 b k2.lt (hrow b _ k2) (by omega)).trans k2⟩
    · have hj1 : j - bs.length = 0 := by
        rw [List.getElem?_append_right (by omega)] at hj
        by_cases h0 : j - bs.length = 0
        · exact h0
        · rw [List.getElem?_eq_none (by simp; omega)] at hj; cases hj
      rw [List.getElem?_append_right (by omega), hj1] at hj
      rw [List.getElem?_append_right (by omega), show j - pre.length = 0 by omega] at hy
      simp at hj hy
      subst hj hy
      exact ⟨hBx, (keep2 Bx hx.lt (hrow Bx _ hx) (by omega)).trans hx⟩
  · exact (keep2 Rb h5.lt (hrow Rb _ h5) hRB).trans h5
  · refine ⟨?_, ?_, ?_, Nat.le_trans h6.size hsz2, fun k hk => ?_⟩
    · exact hg.os.trans h6.os
    · exact hg.tape.trans h6.tape
    · exact hg.output.trans h6.output
    · exact (keep2 k (by have := h6.size; omega) (fun e => by have := (World.ownsRow.lt h3 k e).1; omega) (by omega)).trans (h6.block k hk)
end
section
set_option maxRecDepth 100000
open Go.RowKit Go.Shelf

attribute [local go_sem] Oper.semAt_some

section
variable {F : Fence} {n : Nat} {ops : Array Oper} {rest : List Oper} {o : Oper} {a : Act} {w : World} {K : Act → World → Prop} {Q : Exit → Act → World → Prop} {E : Prop}
theorem inr_val (m : Nat) (v : Value) (w' : World) (hg : o.guard = none) (hd : o.dst = some m) (ha : o.about Tryd.prog w a.eval = none) (hnd : ∀ c, o.op ≠ .defer c) (hrun : (execOp a.eval o).run Tryd.prog w = .ok (.value v) w') (hK : K (a.put (some m) v) w') :
    if Region.wanted o (yielded ops a.tmps) = true then Oper.wpIn F n Tryd.prog o a w K Q else E := by
  have hw : Region.wanted o (yielded ops a.tmps) = true := by simp [Region.wanted, hg]
  rw [if_pos hw]
  unfold Oper.wpIn
  refine ⟨(fun f hf => by rw [ha] at hf; cases hf), ?_⟩
  rw [Oper.semAt_plain F _ _ hnd, hrun]
  show K (a.put o.dst v) w'
  rw [hd]
  exact hK
theorem inr_skip (w' : World) (hg : o.guard = none) (hd : o.dst = none) (ha : o.about Tryd.prog w a.eval = none) (hnd : ∀ c, o.op ≠ .defer c) (hrun : (execOp a.eval o).run Tryd.prog w = .ok .skip w') (hK : K a w') :
    if Region.wanted o (yielded ops a.tmps) = true then Oper.wpIn F n Tryd.prog o a w K Q else E := by
  have hw : Region.wanted o (yielded ops a.tmps) = true := by simp [Region.wanted, hg]
  rw [if_pos hw]
  unfold Oper.wpIn
  refine ⟨(fun f hf => by rw [ha] at hf; cases hf), ?_⟩
  rw [Oper.semAt_plain F _ _ hnd, hrun]
  show K (a.put o.dst undef) w'
  rw [hd]
  exact hK
theorem inr_load1 (m : Nat) (x : Operand) (B : Nat) (v : Value) (hg : o.guard = none) (hd : o.dst = some m) (ho : o.op = .load 100 x) (hx : a.eval x = .pointer (some ⟨B, 0, none⟩)) (hc : w.cell? ⟨B, 0, none⟩ = some v) (hK : K (a.put (some m) v) w) :
    if Region.wanted o (yielded ops a.tmps) = true then Oper.wpIn F n Tryd.prog o a w K Q else E :=
  inr_val m v w hg hd (by simp [Oper.about, ho]) (by rw [ho]; intro c hc; cases hc) (by
    unfold execOp
    simp only [ho, hx]
    go_simp) hK
theorem inr_arr (m : Nat) (x : Operand) (B : Nat) (hg : o.guard = none) (hd : o.dst = some m) (ho : o.op = .slice 23 x none none none) (hx : a.eval x = .pointer (some ⟨B, 0, none⟩)) (hK : K (a.put (some m) (.slice (some ⟨B, 0, none⟩) 32 32)) w) :
    if Region.wanted o (yielded ops a.tmps) = true then Oper.wpIn F n Tryd.prog o a w K Q else E :=
  inr_val m _ w hg hd (by simp [Oper.about, ho]) (by rw [ho]; intro c hc; cases hc) (ev_arr x B ho hx) hK
theorem inr_bs (m : Nat) (x : Operand) (v : Value) (Ad : Option Addr) (k c : Nat) (hg : o.guard = none) (hd : o.dst = some m) (ho : o.op = .buildSlice 100 1 #[(0, x)]) (hx : a.eval x = v) (hv : v = .slice Ad k c) (hK : K (a.put (some m) (.slice (some ⟨w.heap.size, 0, none⟩) 1 1)) (w.alloc (.cells #[v] 62))) :
    if Region.wanted o (yielded ops a.tmps) = true then Oper.wpIn F n Tryd.prog o a w K Q else E :=
  inr_val m _ _ hg hd (by simp [Oper.about, ho]) (by rw [ho]; intro c hc; cases hc) (by
    subst hv
    have hrun : (Instr.buildSlice 100 1 #[(0, .slice Ad k c)]).run Tryd.prog w = .ok (.slice (some ⟨w.heap.size, 0, none⟩) 1 1) (w.alloc (.cells #[.slice Ad k c] 62)) := by go_simp
    simp [execOp, ho, hx, hrun, Result.andThen]) hK
theorem inr_app (m : Nat) (s x : Operand) (n₃ g k : Nat) (v u : Value) (xs : List Value) (hg : o.guard = none) (hd : o.dst = some m) (ho : o.op = .call { callee := .builtin .append, args := #[s, x], argTypes := #[100, 100] }) (hs : a.eval s = v) (hx : a.eval x = .slice (some ⟨g, 0, none⟩) 1 1)
    (hown : w.ownsRow n₃ 62 1 v k xs) (hu : w.cell? ⟨g, 0, none⟩ = some u) (h1 : u.oneCell' = true) (hk : k ≤ 1000) (hb : n₃ ≤ w.heap.size)
    (hK : ∀ v' w', w'.ownsRow n₃ 62 1 v' (k + 1) (xs ++ [u]) → w.grownBy w' v.ownBlock → K (a.put (some m) v') w') :
    if Region.wanted o (yielded ops a.tmps) = true then Oper.wpIn F n Tryd.prog o a w K Q else E := by
  obtain ⟨i, hi, hz0, hz1, hz2⟩ := info_parts info_bs
  obtain ⟨v', w', hrun, h2, h3, _⟩ := run_append_own (P := Tryd.prog) (w := w) n₃ 100 o.type 62 i (.slice none 0 0) 1 24 Tryd.underlying100 hi hz0 hz1 hz2 rfl (by omega) v k xs hown ⟨g, 0, none⟩ 1 1 [u] rfl (fun j y hj => by
    cases j with
    | zero => simp at hj; subst hj; exact hu
    | succ j => simp at hj) (fun y hy => by rw [List.mem_singleton.1 hy]; exact h1) (by simp only [maxLen]; omega) (by omega) hb
  exact inr_val m v' w' hg hd (by simp [Oper.about, ho, resolve, Target.leads, Sem.run_pure]) (by rw [ho]; intro c hc; cases hc) (by simp [execOp, ho, resolve, invoke, builtin, hs, hx, hrun, Result.andThen]) (hK v' w' h2 h3)
theorem inr_store1 (x y : Operand) (B : Nat) (v u : Value) (hg : o.guard = none) (hd : o.dst = none) (ho : o.op = .store 100 x y) (hx : a.eval x = .pointer (some ⟨B, 0, none⟩)) (hy : a.eval y = u) (Ad : Option Addr) (k c : Nat) (hu : u = .slice Ad k c) (hc : w.cell? ⟨B, 0, none⟩ = some v) (hf : w.frozen? ⟨B, 0, none⟩ = false) (hK : K a (w.setCell ⟨B, 0, none⟩ u)) :
    if Region.wanted o (yielded ops a.tmps) = true then Oper.wpIn F n Tryd.prog o a w K Q else E :=
  inr_skip _ hg hd (by simp [Oper.about, ho]) (by rw [ho]; intro c hc; cases hc) (by
    subst hu
    unfold execOp
    simp only [ho, hx, hy]
    go_simp) hK
theorem in_loadN (hg : o.guard = none) (x : Operand) (ho : o.op = .load 75 x) (b : Nat) (D : List Nat) (hx : a.eval x = .pointer (some ⟨b, 0, none⟩)) (h : RowN w b 75 D) (hd : D.length = 19)
    (hK : wpListIn F n Tryd.prog ops Q rest (a.put o.dst (.agg (NI D).toArray)) w) : wpListIn F n Tryd.prog ops Q (o :: rest) a w :=
  in_value _ w hg (by simp [Oper.about, ho]) (by rw [ho]; intro c hc; cases hc) (by
    have h1 := run_loadVar_row (P := Tryd.prog) w b 75 75 _ (0, 0) _ h Tryd.underlying75 rfl (by rw [sz19, NI_size, hd])
    unfold execOp
    simp only [ho, hx, Instr.loadAt, Instr.sureAddr, Sem.run_bind, Sem.run_pure, Result.andThen_ok, h1]) hK
end
end
section
set_option maxRecDepth 100000
open Go.RowKit Go.Shelf

attribute [local go_sem] Oper.semAt_some

theorem lft_le (D : List Nat) : ∀ d ∈ lft D, d ≤ 3 := by
  intro d hd
  obtain ⟨i, _, rfl⟩ := List.mem_map.1 hd
  omega
theorem cat_map (bs : List Nat) (L : List (List UInt8)) (h : bs.length = L.length) : cat ((bs.zip L).map fun p => ((some ⟨p.1, 0, none⟩, 32, p.2) : Pt)) = L.flatten := by
  induction bs generalizing L with
  | nil =>
    obtain rfl : L = [] := List.eq_nil_of_length_eq_zero h.symm
    rfl
  | cons b bs ih =>
    cases L with
    | nil => simp at h
    | cons x L =>
      have := ih L (by simpa using h)
      simp only [cat] at this ⊢
      simp [this]
theorem tot_map (bs : List Nat) (L : List (List UInt8)) (h : bs.length = L.length) (hL : ∀ d ∈ L, d.length = 32) : tot ((bs.zip L).map fun p => ((some ⟨p.1, 0, none⟩, 32, p.2) : Pt)) = 32 * L.length := by
  rw [← cat_len, cat_map bs L h]
  induction L generalizing bs with
  | nil => rfl
  | cons x L ih =>
    cases bs with
    | nil => simp at h
    | cons b bs =>
      rw [List.flatten_cons, List.length_append, ih bs (by simpa using h) (fun d hd => hL d (List.mem_cons_of_mem _ hd)), hL x (List.mem_cons_self ..), List.length_cons]
      omega
/-- the ends as parts -/
theorem eni_parts {n₃ : Nat} {L : List (List UInt8)} {W : World} (hL : ∀ d ∈ L, d.length = 32) (bs : List Nat) (g cap : Nat) (_h1 : bs.length = L.length) (h3 : W.ownsRow n₃ 62 1 (.slice (some ⟨g, 0, none⟩) bs.length cap) bs.length (EN bs)) (h4 : ∀ (j b : Nat) x, bs[j]? = some b → L[j]? = some x → n₃ ≤ b ∧ RowB W b 23 (nz x)) :
    Parts W (· < W.heap.size) g ((bs.zip L).map fun p => ((some ⟨p.1, 0, none⟩, 32, p.2) : Pt)) := by
  intro j y hy
  rw [List.getElem?_map] at hy
  obtain ⟨⟨b, x⟩, hp, rfl⟩ := Option.map_eq_some_iff.1 hy
  obtain ⟨hb, hx⟩ := List.getElem?_zip_eq_some.1 hp
  simp only at hb hx
  have hx32 := hL x (List.mem_of_getElem? hx)
  obtain ⟨_, hr⟩ := h4 j b x hb hx
  rw [nz_eq x hx32] at hr
  refine ⟨?_, (hr.b32 hx32).keep fun i hi => ⟨by rw [hi]; exact hr.lt, rfl⟩⟩
  have hc := World.ownsRow.cells h3 (g := g) rfl j (Value.slice (some ⟨b, 0, none⟩) 32 32) (by simp [EN, hb])
  rw [Go.WideShapes.add_plain, Nat.zero_add] at hc
  simp only
  rw [hx32]
  exact hc

set_option maxRecDepth 100000 in
set_option maxHeartbeats 4000000 in
theorem public_in (n : Nat) (hn : 9 ≤ n) (L : List (List UInt8)) (A : Option Addr) (cap : Nat) (D : List Nat) (hL : L.length = 19) (hD : D.length = 19) (h3 : ∀ d ∈ D, d ≤ 3)
    (w : World) (hl : DL w (· < w.heap.size) L A cap) (hk : KR w Kt) :
    CallsIn Fence.wide n Tryd.prog 58 #[.slice A 19 cap, .agg (NI D).toArray] w fun e W' => e = .returned (.agg (U (pubk (rc L (lft D) 19))).toArray) ∧ Below w.heap.size w W' := by
  have hn1 : 1 ≤ n := by omega
  have HRD := Lib.hid (rc_dig L (lft D) hl.2.2.2.1 19 (by omega))
  have hlt0 := hk.lt
  have HL := Lib.hid hl
  have HK := Lib.hid hk
  have HLL := Lib.hid hL
  have HDD := Lib.hid hD
  have H3 := Lib.hid h3
  have HFD := Lib.hid (show (lft D).length = 19 by rw [lft_len]; exact hD)
  clear hl hk hL hD h3
  refine callsIn_of_wp_marks Tryd.func58 rfl trivial ?_ rfl
  simp only [Tryd.ntmps58, List.size_toArray, List.length_cons, List.length_nil, Nat.reduceAdd, Nat.reduceSub, Array.replicate_succ, Array.replicate_zero, List.push_toArray, List.append_toArray, List.nil_append, List.cons_append]
  have hbx := box3 w (NI D).toArray (U (flb 32 [])).toArray #[.slice none 0 0] 75 23 100 _ rfl
  have r3 : RowN (((w.alloc (.cells (NI D).toArray 75)).alloc (.cells (U (flb 32 [])).toArray 23)).alloc (.cells #[.slice none 0 0] 100)) w.heap.size 75 D := hbx.1
  clear hbx
  gi_wp2_with (refine in_loadN rfl (.tmp 3) rfl w.heap.size D rfl r3 HDD.out ?_)
  clear r3
  generalize hW1 : ((w.alloc _).alloc _).alloc _ = W1
  obtain ⟨h0, h1, h2, hb1, hz1⟩ := box3 w (NI D).toArray (U (flb 32 [])).toArray #[.slice none 0 0] 75 23 100 W1 hW1
  clear hW1 h0
  have R1 := Lib.hid (show RowB W1 (w.heap.size + 1) 23 (flb 32 []) from h1)
  have B1 := Lib.hid (show Boxed W1 (w.heap.size + 2) 100 (.slice none 0 0) from h2)
  have HB1 := Lib.hid hb1
  have HZ1 := Lib.hid hz1
  clear h1 h2 hb1 hz1
  rw [show w.heap.size + 1 + 1 = w.heap.size + 2 from rfl]
  refine ⟨trivial, ?_⟩
  gi_at_call 90
  have CC := Lib.hid ((callsIn_wide (n := n - 1)).2 (left_all D W1 HDD.out H3.out))
  (with_reducible refine CC.out.mono ?_)
  rintro e W2 ⟨rfl, hb2⟩
  have hz2 : w.heap.size + 3 ≤ W2.heap.size := by have := hb2.size; have := HZ1.out; omega
  have HB2 := Lib.hid (HB1.out.trans (hb2.mono (by have := HZ1.out; omega)))
  have R2 := Lib.hid (R1.out.keep (hb2.block _ (by have := HZ1.out; omega)))
  have B2 := Lib.hid (show Boxed W2 (w.heap.size + 2) 100 (.slice none 0 0) from (hb2.block _ (by have := HZ1.out; omega)).trans B1.out)
  clear CC hb2 R1 B1 HB1 HZ1
  gi_wp2
  refine ⟨trivial, ?_⟩
  gi_at_call 72
  have CC := Lib.hid ((callsIn_wide (n := n - 1)).2 (reached_all A 19 cap (lft D) W2))
  (with_reducible refine CC.out.mono ?_)
  rintro e W3 ⟨rfl, hw3⟩
  obtain ⟨⟨c1, c2⟩, hz3, hb3⟩ := signed_boxes A cap L (lft D) W2 W3 hw3
  clear CC hw3
  have HC1 := Lib.hid c1
  have HC2 := Lib.hid c2
  have HB3 := Lib.hid (HB2.out.trans (hb3.mono (by omega)))
  have R3 := Lib.hid (R2.out.keep (hb3.block _ (by omega)))
  have B3 := Lib.hid (show Boxed W3 (w.heap.size + 2) 100 (.slice none 0 0) from (hb3.block _ (by omega)).trans B2.out)
  have hs0 : Hid (W3.heap.size = W2.heap.size + 2) := Lib.hid hz3
  have hz3' : W2.heap.size + 2 ≤ W3.heap.size := by omega
  clear c1 c2 hb3 HB2 R2 B2
  gi_wp2
  have HSS := Lib.hid (show ∀ i, (i = W2.heap.size ∨ i = W2.heap.size + 1 ∨ i < w.heap.size) → i < W3.heap.size ∧ i ≠ w.heap.size + 2 from fun i hi => by omega)
  have HEF := Lib.hid (eni_from w W3.heap.size (w.heap.size + 2) (w.heap.size + 1) (by omega))
  have hc1 := HC1.out
  have HWK := Lib.hid (HK.out.keep (HB3.out.block 0 hlt0))
  have HLW := Lib.hid (HL.out.keep (w' := W3) (S' := fun i => i = W2.heap.size ∨ i = W2.heap.size + 1 ∨ i < w.heap.size) fun i hi => ⟨.inr (.inr hi), HB3.out.block i hi⟩)
  rw [← HLL.out] at hc1
  refine wpIn_rangeFunc_ownH rfl hn1 (gf := 96) (lb := #[.pointer (some ⟨W2.heap.size, 0, none⟩), .pointer (some ⟨W2.heap.size + 1, 0, none⟩)]) rfl trivial (enters_of Tryd.func96 (by kernel_rfl) rfl)
    (reached_stops (n - 1) (by omega) W2.heap.size (W2.heap.size + 1) (fun i => i = W2.heap.size ∨ i = W2.heap.size + 1 ∨ i < w.heap.size) L A cap (lft D) HLL.out HFD.out (lft_le D) W3 (fun i hi => (HSS.out i hi).1) (.inl rfl) (.inr (.inl rfl)) (.inr (.inr hlt0)) hc1 HC2.out HLW.out HWK.out) KS.trans (fun W l o o' hl _ _ _ => ks_put (B := W3.heap.size) (fun i hi => (HSS.out i hi).1) W l o' hl) (Below.refl _ _) (fun _ => rfl)
    (EnI w W3.heap.size (w.heap.size + 2) (w.heap.size + 1))
    (fun _ _ _ => False)
    HEF.out
    (fun _ _ _ _ _ hs _ _ => hs)
    ⟨[], _, rfl, B3.out, World.ownsRow_nil _ _ _ _, (fun j b x hj => by simp at hj), R3.out, HB3.out, Nat.le_refl _⟩
    (fun x a' W => ∃ Bx, W3.heap.size ≤ Bx ∧ RowB W Bx 23 (nz x) ∧ a' = { tmps := #[.slice A 19 cap, .agg (NI D).toArray, undef, .pointer (some ⟨w.heap.size, 0, none⟩), .pointer (some ⟨w.heap.size + 1, 0, none⟩), .pointer (some ⟨w.heap.size + 2, 0, none⟩), .pointer (some ⟨Bx, 0, none⟩), .slice A 19 cap, .agg (NI D).toArray, .agg (NI (lft D)).toArray, .func (.func 96) #[] #[.pointer (some ⟨W2.heap.size, 0, none⟩), .pointer (some ⟨W2.heap.size + 1, 0, none⟩)], .agg (U (nz x)).toArray, undef, undef, undef, undef, undef, undef], defers := [] })
    (fun x a' _ X Y row hs hg hr => by obtain ⟨Bx, h1, h2, h3⟩ := hs; exact ⟨Bx, h1, rowb_own Bx (nz x) () X Y row h2 hg (fun r e => (hr r e).2), h3⟩)
    ?assign ?body ?done ?stop
  case assign =>
    rintro l pre x W K hI hK
    have h7 := hI
    obtain ⟨_, _, _, _, _, _, _, _, h7⟩ := h7
    unfold ED
    have hx := nz_len x
    have HX := Lib.hid hx
    have HI := Lib.hid hI
    generalize nz x = X at *
    clear hx hI hc1
    have n5 : RowB (W.alloc (.cells (U (flb 32 [])).toArray 23)) W.heap.size 23 (flb 32 []) := heap_alloc_new W _
    gi_wp2_with (refine in_store rfl (.tmp 6) (.tmp 11) rfl W.heap.size (flb 32 []) X rfl rfl n5 (by simp [flb]) HX.out ?_)
    have hb5 : Below W.heap.size W ((W.alloc (.cells (U (flb 32 [])).toArray 23)).setRow W.heap.size (U X).toArray) := below_setRow ((Below.refl _ _).alloc (Nat.le_refl _) _) (Nat.le_refl _) _
    exact hK _ _ ((keeps_below hb5).from _) (ks_below hb5 fun i hi => Nat.lt_of_lt_of_le (HSS.out i hi).1 h7) (HEF.out pre W _ none HI.out ⟨hb5.os, hb5.tape, hb5.output, hb5.size, fun k hk _ => hb5.block k hk⟩ (fun r e => by cases e)) ⟨W.heap.size, h7, n5.setRow X, rfl⟩
  case body =>
    rintro l pre x a' W hl _ ⟨bs, v, h1, h2, h3, h4, h5, h6, h7⟩ ⟨Bx, hBx, bX, rfl⟩ hlt
    have FIN := Lib.hid (fun (v' : Value) (w1 : World) ho hg => eni_step w W3.heap.size (w.heap.size + 2) (w.heap.size + 1) Bx (fun i => i = W2.heap.size ∨ i = W2.heap.size + 1 ∨ i < w.heap.size) (by omega) (by omega) (by omega) (by omega) HSS.out pre x W w1 bs v v' h1 h2 h3 h4 h5 h6 h7 bX hBx (.cells #[.slice (some ⟨Bx, 0, none⟩) 32 32] 62) ho hg (by omega))
    have h3' : (W.drew.alloc (.cells #[.slice (some ⟨Bx, 0, none⟩) 32 32] 62)).ownsRow W3.heap.size 62 1 v bs.length (EN bs) := World.ownsRow.alloc (show W.drew.ownsRow W3.heap.size 62 1 v bs.length (EN bs) from h3) _
    have H3' := Lib.hid h3'
    have HC := Lib.hid (show W.drew.cell? ⟨w.heap.size + 2, 0, none⟩ = some v from h2.cell)
    have HCA := Lib.hid (show (W.drew.alloc (.cells #[.slice (some ⟨Bx, 0, none⟩) 32 32] 62)).cell? ⟨w.heap.size + 2, 0, none⟩ = some v from (Boxed.below (show Boxed W.drew (w.heap.size + 2) 100 v from h2) ((Below.refl _ _).alloc (Nat.le_refl _) _)).cell)
    have hbl : bs.length ≤ 1000 := by omega
    clear hc1 h1 h2 h3 h4 h5 h6 h3'
    gi_wp2
    refine wpIn_region_any (by kernel_rfl) ?_
    change wpAnyIn _ _ _ _ _ _ _ _ _ W.drew
    refine wpAnyIn_ready (rs := [0, 1]) (by kernel_rfl) (by simp) ?_
    refine (AllReadyIn.cons (o := _) rfl (fun K hK => ?_) (AllReadyIn.cons (o := _) rfl (fun K hK => ?_) AllReadyIn.nil))
    · refine inr_load1 12 (.tmp 5) (w.heap.size + 2) v rfl rfl rfl rfl HC.out (hK _ _ ?_)
      simp only [Act.put, List.setIfInBounds_toArray, List.set_cons_zero, List.set_cons_succ]
      clear hK K
      refine wpAnyIn_ready (rs := [1]) (by kernel_rfl) (by simp) ?_
      refine (AllReadyIn.cons (o := _) rfl (fun K hK => ?_) AllReadyIn.nil)
      refine inr_arr 13 (.tmp 6) Bx rfl rfl rfl rfl (hK _ _ ?_)
      simp only [Act.put, List.setIfInBounds_toArray, List.set_cons_zero, List.set_cons_succ]
      clear hK K
      refine wpAnyIn_ready (rs := [2]) (by kernel_rfl) (by simp) ?_
      refine (AllReadyIn.cons (o := _) rfl (fun K hK => ?_) AllReadyIn.nil)
      refine inr_bs 14 (.tmp 13) (.slice (some ⟨Bx, 0, none⟩) 32 32) (some ⟨Bx, 0, none⟩) 32 32 rfl rfl rfl rfl rfl (hK _ _ ?_)
      simp only [Act.put, List.setIfInBounds_toArray, List.set_cons_zero, List.set_cons_succ]
      clear hK K
      refine wpAnyIn_ready (rs := [3]) (by kernel_rfl) (by simp) ?_
      refine (AllReadyIn.cons (o := _) rfl (fun K hK => ?_) AllReadyIn.nil)
      refine inr_app 15 (.tmp 12) (.tmp 14) W3.heap.size W.heap.size bs.length v (.slice (some ⟨Bx, 0, none⟩) 32 32) (EN bs) rfl rfl rfl rfl rfl H3'.out (cell_of_row _ W.heap.size 0 _ _ _ (heap_alloc_new W.drew _)) rfl hbl (by simp; omega) (fun v' w1 ho hg => ?_)
      obtain ⟨g', cap', rfl⟩ := ownsRow_succ ho
      obtain ⟨fa, fb, fc⟩ := FIN.out _ w1 ho hg
      refine hK _ _ ?_
      simp only [Act.put, List.setIfInBounds_toArray, List.set_cons_zero, List.set_cons_succ]
      clear hK K
      refine wpAnyIn_ready (rs := [4]) (by kernel_rfl) (by simp) ?_
      refine (AllReadyIn.cons (o := _) rfl (fun K hK => ?_) AllReadyIn.nil)
      refine inr_store1 (.tmp 5) (.tmp 15) (w.heap.size + 2) v _ rfl rfl rfl rfl rfl _ _ _ rfl fa fb (hK _ _ ?_)
      clear hK K
      refine wpAnyIn_done (by kernel_rfl) ?_ _
      exact ⟨fc.1, fc.2.1, fc.2.2⟩
    · refine inr_arr 13 (.tmp 6) Bx rfl rfl rfl rfl (hK _ _ ?_)
      simp only [Act.put, List.setIfInBounds_toArray, List.set_cons_zero, List.set_cons_succ]
      clear hK K
      refine wpAnyIn_ready (rs := [0, 2]) (by kernel_rfl) (by simp) ?_
      refine (AllReadyIn.cons (o := _) rfl (fun K hK => ?_) (AllReadyIn.cons (o := _) rfl (fun K hK => ?_) AllReadyIn.nil))
      · refine inr_load1 12 (.tmp 5) (w.heap.size + 2) v rfl rfl rfl rfl HC.out (hK _ _ ?_)
        simp only [Act.put, List.setIfInBounds_toArray, List.set_cons_zero, List.set_cons_succ]
        clear hK K
        refine wpAnyIn_ready (rs := [2]) (by kernel_rfl) (by simp) ?_
        refine (AllReadyIn.cons (o := _) rfl (fun K hK => ?_) AllReadyIn.nil)
        refine inr_bs 14 (.tmp 13) (.slice (some ⟨Bx, 0, none⟩) 32 32) (some ⟨Bx, 0, none⟩) 32 32 rfl rfl rfl rfl rfl (hK _ _ ?_)
        simp only [Act.put, List.setIfInBounds_toArray, List.set_cons_zero, List.set_cons_succ]
        clear hK K
        refine wpAnyIn_ready (rs := [3]) (by kernel_rfl) (by simp) ?_
        refine (AllReadyIn.cons (o := _) rfl (fun K hK => ?_) AllReadyIn.nil)
        refine inr_app 15 (.tmp 12) (.tmp 14) W3.heap.size W.heap.size bs.length v (.slice (some ⟨Bx, 0, none⟩) 32 32) (EN bs) rfl rfl rfl rfl rfl H3'.out (cell_of_row _ W.heap.size 0 _ _ _ (heap_alloc_new W.drew _)) rfl hbl (by simp; omega) (fun v' w1 ho hg => ?_)
        obtain ⟨g', cap', rfl⟩ := ownsRow_succ ho
        obtain ⟨fa, fb, fc⟩ := FIN.out _ w1 ho hg
        refine hK _ _ ?_
        simp only [Act.put, List.setIfInBounds_toArray, List.set_cons_zero, List.set_cons_succ]
        clear hK K
        refine wpAnyIn_ready (rs := [4]) (by kernel_rfl) (by simp) ?_
        refine (AllReadyIn.cons (o := _) rfl (fun K hK => ?_) AllReadyIn.nil)
        refine inr_store1 (.tmp 5) (.tmp 15) (w.heap.size + 2) v _ rfl rfl rfl rfl rfl _ _ _ rfl fa fb (hK _ _ ?_)
        clear hK K
        refine wpAnyIn_done (by kernel_rfl) ?_ _
        exact ⟨fc.1, fc.2.1, fc.2.2⟩
      · refine inr_bs 14 (.tmp 13) (.slice (some ⟨Bx, 0, none⟩) 32 32) (some ⟨Bx, 0, none⟩) 32 32 rfl rfl rfl rfl rfl (hK _ _ ?_)
        simp only [Act.put, List.setIfInBounds_toArray, List.set_cons_zero, List.set_cons_succ]
        clear hK K
        refine wpAnyIn_ready (rs := [0]) (by kernel_rfl) (by simp) ?_
        refine (AllReadyIn.cons (o := _) rfl (fun K hK => ?_) AllReadyIn.nil)
        refine inr_load1 12 (.tmp 5) (w.heap.size + 2) v rfl rfl rfl rfl HCA.out (hK _ _ ?_)
        simp only [Act.put, List.setIfInBounds_toArray, List.set_cons_zero, List.set_cons_succ]
        clear hK K
        refine wpAnyIn_ready (rs := [3]) (by kernel_rfl) (by simp) ?_
        refine (AllReadyIn.cons (o := _) rfl (fun K hK => ?_) AllReadyIn.nil)
        refine inr_app 15 (.tmp 12) (.tmp 14) W3.heap.size W.heap.size bs.length v (.slice (some ⟨Bx, 0, none⟩) 32 32) (EN bs) rfl rfl rfl rfl rfl H3'.out (cell_of_row _ W.heap.size 0 _ _ _ (heap_alloc_new W.drew _)) rfl hbl (by simp; omega) (fun v' w1 ho hg => ?_)
        obtain ⟨g', cap', rfl⟩ := ownsRow_succ ho
        obtain ⟨fa, fb, fc⟩ := FIN.out _ w1 ho hg
        refine hK _ _ ?_
        simp only [Act.put, List.setIfInBounds_toArray, List.set_cons_zero, List.set_cons_succ]
        clear hK K
        refine wpAnyIn_ready (rs := [4]) (by kernel_rfl) (by simp) ?_
        refine (AllReadyIn.cons (o := _) rfl (fun K hK => ?_) AllReadyIn.nil)
        refine inr_store1 (.tmp 5) (.tmp 15) (w.heap.size + 2) v _ rfl rfl rfl rfl rfl _ _ _ rfl fa fb (hK _ _ ?_)
        clear hK K
        refine wpAnyIn_done (by kernel_rfl) ?_ _
        exact ⟨fc.1, fc.2.1, fc.2.2⟩
  case done =>
    rintro D' ys W hD' rfl ⟨bs, v, h1, h2, h3, h4, h5, h6, h7⟩ hK
    have h1' := h1
    rw [rc_len] at h1
    rw [h1] at h3
    obtain ⟨g', cap', rfl⟩ := ownsRow_succ h3
    have hc := h2.cell
    have hcaps : 19 ≤ cap' ∧ cap' ≤ 9223372036854775807 ∧ g' < W.heap.size := by
      rcases h3.2 with ⟨e, _⟩ | ⟨g, cap, cur, e, _, hgb, k1, k2, _⟩
      · cases e
      · injection e with e1 _ e3
        injection e1 with e1
        injection e1 with e1 _
        subst e1 e3
        exact ⟨k1, k2, (Array.getElem?_eq_some_iff.1 hgb).1⟩
    obtain ⟨hq1, hq2, hq3⟩ := hcaps
    have hp := eni_parts HRD.out bs g' cap' h1' (by rw [h1]; exact h3) h4
    have hpl : ((bs.zip (rc L (lft D) 19)).map fun p => ((some ⟨p.1, 0, none⟩, 32, p.2) : Pt)).length = 19 := by rw [List.length_map, List.length_zip, h1, rc_len]; rfl
    have C := ctag_all publicT _ g' cap' W (by decide) hp hq3 (by rw [hpl]; exact hq1) hq2 (by rw [hpl]; omega) (by rw [tot_map bs _ h1' HRD.out, rc_len]; omega) (HK.out.keep (h6.block 0 hlt0))
    rw [hpl, cat_map bs _ h1'] at C
    have CC := Lib.hid ((callsIn_wide (n := n - 1)).2 C)
    have HH5 := Lib.hid h5
    have HH6 := Lib.hid h6
    have HK' := Lib.hid hK
    clear C hp hpl h1' h1 h2 h3 h4 h5 h6 hK hc1
    gi_wp2
    refine ⟨trivial, ?_⟩
    gi_at_call 91
    refine CC.out.mono ?_
    rintro e W5 ⟨rfl, hb5⟩
    have r5 := HH5.out.keep (hb5.block _ (by omega))
    have hd5 : W5.heap[D']? = some (.deferred (some [])) := (hb5.block D' (Array.getElem?_eq_some_iff.1 HK'.out).1).trans HK'.out
    have hlen : (pubk (rc L (lft D) 19)).length = 32 := pubk_len _
    have HR6 := Lib.hid (r5.setRow (pubk (rc L (lft D) 19)))
    have HD6 := Lib.hid (show (W5.setRow (w.heap.size + 1) (U (pubk (rc L (lft D) 19))).toArray).heap[D']? = some (.deferred (some [])) from (setRow_other _ _ _ _ (by omega)).trans hd5)
    have HB6 := Lib.hid (below_setRow (HH6.out.trans (hb5.mono HH6.out.size)) (show w.heap.size ≤ w.heap.size + 1 by omega) (U (pubk (rc L (lft D) 19))).toArray)
    have HPL := Lib.hid hlen
    clear hb5 hd5 CC hc hlen
    gi_wp2_with (refine in_store rfl (.tmp 4) (.tmp 17) rfl (w.heap.size + 1) (flb 32 []) (pubk (rc L (lft D) 19)) rfl rfl r5 (by simp [flb]) HPL.out ?_)
    refine ⟨by simp, .inl ⟨_, _, rfl, run_takeDeferred HD6.out, ?_⟩⟩
    have hr7 : RowB ((W5.setRow (w.heap.size + 1) (U (pubk (rc L (lft D) 19))).toArray).putObj D' (.deferred none)) (w.heap.size + 1) 23 (pubk (rc L (lft D) 19)) := HR6.out.keep (World.putObj_heap_other (by omega))
    refine ⟨_, res_B rfl _ _ _ _ _ rfl hr7 HPL.out, rfl, HB6.out.trans (belowK_b (w := w) (Nat.le_refl _) _ D' _ _ (by omega) HD6.out rfl rfl)⟩
  case stop =>
    rintro D' c pre W _ _ h _
    exact h.elim

set_option maxHeartbeats 1000000 in
theorem public_all (L : List (List UInt8)) (A : Option Addr) (cap : Nat) (D : List Nat) (hL : L.length = 19) (hD : D.length = 19) (h3 : ∀ d ∈ D, d ≤ 3) (w : World) (hl : DL w (· < w.heap.size) L A cap) (hk : KR w Kt) :
    Calls Tryd.prog 58 #[.slice A 19 cap, .agg (NI D).toArray] w fun e W' => e = .returned (.agg (U (pubk (rc L (lft D) 19))).toArray) ∧ Below w.heap.size w W' :=
  callsIn_wide.1 (public_in 9 (Nat.le_refl _) L A cap D hL hD h3 w hl hk)
end
section
set_option maxRecDepth 100000
open Go.RowKit

def pubF (s : List UInt8) : List UInt8 := pubk (rc (fsts s 19) (List.replicate 19 3) 19)
def recF (m : List UInt8) (L : List (List UInt8)) : List UInt8 := pubk (rc L (lft (dgl m)) 19)
theorem pubF_len (s : List UInt8) : (pubF s).length = 32 := pubk_len _
theorem recF_len (m : List UInt8) (L : List (List UInt8)) : (recF m L).length = 32 := pubk_len _
theorem DL.low {w : World} {S : Nat → Prop} {L : List (List UInt8)} {A : Option Addr} {c : Nat} (h : DL w S L A c) {S' : Nat → Prop} (hs : ∀ i, S i → S' i) : DL w S' L A c := h.keep fun i hi => ⟨hs i hi, rfl⟩
theorem load_Bw {ops : Array Oper} {rest : List Oper} {o : Oper} {a : Act} {w : World} {Q : Exit → Act → World → Prop} (hw : Region.wanted o (yielded ops a.tmps) = true) (x : Operand) (ho : o.op = .load 23 x)
    (g : Nat) (hx : a.eval x = .pointer (some ⟨g, 0, none⟩)) (t : TypeId) (l : List UInt8) (h : RowB w g t l) (hl : l.length = 32)
    (hK : wpList Tryd.prog ops Q rest (a.put o.dst (.agg (U l).toArray)) w) : wpList Tryd.prog ops Q (o :: rest) a w :=
  BigFrame.wpList_want hw fun _ hK' => wp_load_row 23 x ho g hx t _ (0, 0) _ h Tryd.underlying23 rfl (by rw [sz32, U_size, hl]) (hK' _ _ hK)

set_option maxRecDepth 100000 in
set_option maxHeartbeats 1600000 in
theorem Public_all (s : List UInt8) (w : World) (hs : s.length = 32) (hk : KR w Kt) :
    Calls Tryd.prog 27 #[.agg (U s).toArray] w fun e w' => e = .returned (.agg (U (pubF s)).toArray) ∧ Below w.heap.size w w' := by
  have HS := Lib.hid hs
  have HK := Lib.hid hk
  have hlt0 := hk.lt
  clear hs hk
  have hbx := box2 w (U s).toArray (U (flb 32 [])).toArray 23 23 _ rfl
  have r1 : RowB ((w.alloc (.cells (U s).toArray 23)).alloc (.cells (U (flb 32 [])).toArray 23)) w.heap.size 23 s := hbx.1
  clear hbx
  go_enter Tryd.func27, Tryd.ntmps27
  go_wp2_with (refine load_B rfl (.tmp 1) rfl w.heap.size rfl 23 s r1 HS.out ?_)
  clear r1
  generalize hW1 : (w.alloc _).alloc _ = W1
  obtain ⟨_, h1, hb1, hz1⟩ := box2 w (U s).toArray (U (flb 32 [])).toArray 23 23 W1 hW1
  clear hW1
  have R1 := Lib.hid (show RowB W1 (w.heap.size + 1) 23 (flb 32 []) from h1)
  have C := firsts_all s W1 HS.out (HK.out.keep (hb1.block 0 hlt0))
  refine C.mono ?_
  rintro e w2 ⟨v, rfl, ho, hb2⟩
  have hz2 := hb2.size
  obtain ⟨A, c, rfl⟩ := ho.slice
  have hbw := hb1.trans (hb2.mono (by omega))
  have C2 := Lib.hid (public_all (fsts s 19) A c (List.replicate 19 0) (fsts_len s 19) (by simp) (by intro d hd; rw [List.eq_of_mem_replicate hd]; omega) w2 ((ho.dlw rfl)) (HK.out.keep (hbw.block 0 hlt0)))
  rw [show pubk (rc (fsts s 19) (lft (List.replicate 19 0)) 19) = pubF s from rfl] at C2
  have R2 := Lib.hid (R1.out.keep (hb2.block _ (by omega)))
  have HB2 := Lib.hid hbw
  clear C ho hb1 hb2 hbw h1
  rw [fsts_len]
  go_wp2_with fail
  refine C2.out.mono ?_
  rintro e w3 ⟨rfl, hb3⟩
  have hr3 := R2.out.keep (hb3.block _ (by omega))
  have hr4 := hr3.setRow (pubF s)
  have HB3 := Lib.hid (HB2.out.trans (hb3.mono (by omega)))
  clear C2 hb3
  go_wp2_with (refine store_B rfl (.tmp 2) (.tmp 6) rfl (w.heap.size + 1) (flb 32 []) (pubF s) rfl rfl 23 hr3 (pubF_len _) (by simp [flb]) ?_)
  exact bodyPost_ret (res_B rfl _ _ _ _ _ rfl hr4 (pubF_len _)) rfl ⟨rfl, below_setRow HB3.out (by omega) _⟩

set_option maxRecDepth 100000 in
set_option maxHeartbeats 1600000 in
theorem Recover_no (m : List UInt8) (n cap : Nat) (A : Option Addr) (w : World) (hn : n ≠ 19) (_hm : n ≤ 9223372036854775807) :
    Calls Tryd.prog 65 #[.agg (U m).toArray, .slice A n cap] w fun e w' => e = .returned (.tuple #[.agg (U z32).toArray, .int .i64 50]) ∧ Below w.heap.size w w' := by
  have hne : ((n : Int) != 19) = true := by
    have : ¬ ((n : Int) = 19) := by omega
    simpa using this
  have hbx := box2 w (U m).toArray (U (flb 32 [])).toArray 23 23 _ rfl
  have r1 : RowB ((w.alloc (.cells (U m).toArray 23)).alloc (.cells (U (flb 32 [])).toArray 23)) (w.heap.size + 1) 23 (flb 32 []) := hbx.2.1
  have r2 := r1.setRow z32
  have HB := Lib.hid hbx.2.2.1
  clear hbx hn
  go_enter Tryd.func65, Tryd.ntmps65
  go_wp2_with (refine store_B rfl (.tmp 4) (.tmp 9) rfl (w.heap.size + 1) (flb 32 []) z32 rfl rfl 23 r1 rfl (by simp [flb]) ?_)
  exact bodyPost_ret (res_two rfl _ _ _ _ _ _ rfl rfl r2 rfl) rfl ⟨rfl, below_setRow HB.out (by omega) _⟩

set_option maxRecDepth 100000 in
set_option maxHeartbeats 1600000 in
theorem Recover_yes (m : List UInt8) (L : List (List UInt8)) (A : Option Addr) (cap : Nat) (w : World) (hm : m.length = 32) (hL : L.length = 19) (hl : DL w (· < w.heap.size) L A cap) (hk : KR w Kt) :
    Calls Tryd.prog 65 #[.agg (U m).toArray, .slice A 19 cap] w fun e w' => e = .returned (.tuple #[.agg (U (recF m L)).toArray, .int .i64 0]) ∧ Below w.heap.size w w' := by
  have HM := Lib.hid hm
  have HL := Lib.hid hl
  have HK := Lib.hid hk
  have HLL := Lib.hid hL
  have hlt0 := hk.lt
  clear hm hl hk hL
  have hbx := box2 w (U m).toArray (U (flb 32 [])).toArray 23 23 _ rfl
  have r1 : RowB ((w.alloc (.cells (U m).toArray 23)).alloc (.cells (U (flb 32 [])).toArray 23)) w.heap.size 23 m := hbx.1
  clear hbx
  go_enter Tryd.func65, Tryd.ntmps65
  go_wp2_with (refine load_B rfl (.tmp 2) rfl w.heap.size rfl 23 m r1 HM.out ?_)
  clear r1
  generalize hW1 : (w.alloc _).alloc _ = W1
  obtain ⟨_, h1, hb1, hz1⟩ := box2 w (U m).toArray (U (flb 32 [])).toArray 23 23 W1 hW1
  clear hW1
  have R1 := Lib.hid (show RowB W1 (w.heap.size + 1) 23 (flb 32 []) from h1)
  refine (digitsOf_all m W1 HM.out).mono ?_
  rintro e w2 ⟨rfl, hb2⟩
  have hz2 := hb2.size
  have hbw := hb1.trans (hb2.mono (by omega))
  have C2 := Lib.hid (public_all L A cap (dgl m) HLL.out (dgl_len m) (dgl_le m) w2 (HL.out.keep fun i hi => ⟨by omega, hbw.block i hi⟩) (HK.out.keep (hbw.block 0 hlt0)))
  rw [show pubk (rc L (lft (dgl m)) 19) = recF m L from rfl] at C2
  have R2 := Lib.hid (R1.out.keep (hb2.block _ (by omega)))
  have HB2 := Lib.hid hbw
  clear hb1 hb2 hbw h1
  go_wp2_with fail
  refine C2.out.mono ?_
  rintro e w3 ⟨rfl, hb3⟩
  have hr3 := R2.out.keep (hb3.block _ (by omega))
  have hr4 := hr3.setRow (recF m L)
  have HB3 := Lib.hid (HB2.out.trans (hb3.mono (by omega)))
  clear C2 hb3
  go_wp2_with (refine store_B rfl (.tmp 4) (.tmp 13) rfl (w.heap.size + 1) (flb 32 []) (recF m L) rfl rfl 23 hr3 (recF_len _ _) (by simp [flb]) ?_)
  exact bodyPost_ret (res_two rfl _ _ _ _ _ _ rfl rfl hr4 (recF_len _ _)) rfl ⟨rfl, below_setRow HB3.out (by omega) _⟩

set_option maxRecDepth 100000 in
set_option maxHeartbeats 1600000 in
theorem Verify_no (p m : List UInt8) (n cap : Nat) (A : Option Addr) (w : World) (hm : m.length = 32) (hn : n ≠ 19) (hm2 : n ≤ 9223372036854775807) :
    Calls Tryd.prog 30 #[.agg (U p).toArray, .agg (U m).toArray, .slice A n cap] w fun e w' => e = .returned (.bool false) ∧ Below w.heap.size w w' := by
  have HM := Lib.hid hm
  have HN := Lib.hid hn
  have hbx := box2 w (U p).toArray (U m).toArray 23 23 _ rfl
  have r1 : RowB ((w.alloc (.cells (U p).toArray 23)).alloc (.cells (U m).toArray 23)) (w.heap.size + 1) 23 m := hbx.2.1
  have HB := Lib.hid hbx.2.2.1
  have HZ := Lib.hid hbx.2.2.2
  clear hbx hn hm
  go_enter Tryd.func30, Tryd.ntmps30
  go_wp2_with (refine load_B rfl (.tmp 4) rfl (w.heap.size + 1) rfl 23 m r1 HM.out ?_)
  refine (Recover_no m n cap A _ HN.out hm2).mono ?_
  rintro e w2 ⟨rfl, hb2⟩
  have HB2 := Lib.hid (HB.out.trans (hb2.mono (by rw [HZ.out]; omega)))
  have n2 : RowB (w2.alloc (.cells (U (flb 32 [])).toArray 23)) w2.heap.size 23 (flb 32 []) := heap_alloc_new w2 _
  have hz2 := HB2.out.size
  clear hb2 r1 HZ
  go_wp2_with (refine store_B rfl (.tmp 7) (.tmp 13) rfl w2.heap.size (flb 32 []) z32 rfl rfl 23 n2 rfl (by simp [flb]) ?_)
  go_ret
  exact ⟨rfl, below_setRow (HB2.out.alloc hz2 _) hz2 _⟩

set_option maxRecDepth 100000 in
set_option maxHeartbeats 1600000 in
theorem Verify_yes (p m : List UInt8) (L : List (List UInt8)) (A : Option Addr) (cap : Nat) (w : World) (hp : p.length = 32) (hm : m.length = 32) (hL : L.length = 19) (hl : DL w (· < w.heap.size) L A cap) (hk : KR w Kt) :
    Calls Tryd.prog 30 #[.agg (U p).toArray, .agg (U m).toArray, .slice A 19 cap] w fun e w' => e = .returned (.bool (decide (recF m L = p))) ∧ Below w.heap.size w w' := by
  have HP := Lib.hid hp
  have HM := Lib.hid hm
  have hlt0 := hk.lt
  obtain ⟨h0, h1, hb1, hz1⟩ := box2 w (U p).toArray (U m).toArray 23 23 _ rfl
  have r1 : RowB ((w.alloc (.cells (U p).toArray 23)).alloc (.cells (U m).toArray 23)) (w.heap.size + 1) 23 m := h1
  have R0 := Lib.hid (show RowB ((w.alloc (.cells (U p).toArray 23)).alloc (.cells (U m).toArray 23)) w.heap.size 23 p from h0)
  have C := Lib.hid (Recover_yes m L A cap _ hm hL (hl.keep fun i hi => ⟨by omega, hb1.block i hi⟩) (hk.keep (hb1.block 0 hlt0)))
  have HB := Lib.hid hb1
  have HZ := Lib.hid hz1
  have q1 := eq_dig (recF m L) p (recF_len m L) hp
  have q2 := recF_len m L
  have HQ2 := Lib.hid q2
  clear h0 h1 hb1 hz1 hp hm hL hl hk q2
  generalize recF m L = R at *
  go_enter Tryd.func30, Tryd.ntmps30
  go_wp2_with (refine load_B rfl (.tmp 4) rfl (w.heap.size + 1) rfl 23 m r1 HM.out ?_)
  refine C.out.mono ?_
  rintro e w2 ⟨rfl, hb2⟩
  have hsz := hb2.size
  have n2 : RowB (w2.alloc (.cells (U (flb 32 [])).toArray 23)) w2.heap.size 23 (flb 32 []) := heap_alloc_new w2 _
  have hb3 : Below w2.heap.size w2 ((w2.alloc (.cells (U (flb 32 [])).toArray 23)).setRow w2.heap.size (U R).toArray) := below_setRow ((Below.refl _ _).alloc (Nat.le_refl _) _) (Nat.le_refl _) _
  have n3 := n2.setRow R
  have n4 := (R0.out.keep (hb2.block _ (by rw [HZ.out]; omega))).keep (hb3.block _ (by rw [HZ.out] at hsz; omega))
  have HB2 := Lib.hid (HB.out.trans ((hb2.trans (hb3.mono hsz)).mono (by rw [HZ.out]; omega)))
  clear hb2 hb3 r1 hsz
  go_wp2_with (first
    | (refine store_B rfl (.tmp 7) (.tmp 13) rfl w2.heap.size (flb 32 []) R rfl rfl 23 n2 HQ2.out (by simp [flb]) ?_)
    | (refine load_Bw (by kernel_rfl) (.tmp 7) rfl w2.heap.size rfl 23 R n3 HQ2.out ?_)
    | (refine load_Bw (by kernel_rfl) (.tmp 3) rfl w.heap.size rfl 23 p n4 HP.out ?_))
  go_ret
  exact ⟨rfl, HB2.out⟩
end
section
set_option maxRecDepth 100000
open Go.RowKit

set_option maxRecDepth 100000 in
set_option maxHeartbeats 1600000 in
theorem Digits_all (m : List UInt8) (w : World) (hm : m.length = 32) :
    Calls Tryd.prog 23 #[.agg (U m).toArray] w fun e w' => ∃ g, e = .returned (.slice (some ⟨g, 0, none⟩) 19 19) ∧ RowN w' g 75 (dgl m) ∧ w.heap.size ≤ g ∧ Below w.heap.size w w' := by
  have HM := Lib.hid hm
  clear hm
  have hbx := box1 w (U m).toArray 23 _ rfl
  have r1 : RowB (w.alloc (.cells (U m).toArray 23)) w.heap.size 23 m := hbx.1
  have HB := Lib.hid hbx.2.1
  have HZ := Lib.hid hbx.2.2
  clear hbx
  go_enter Tryd.func23, Tryd.ntmps23
  go_wp2_with (refine load_B rfl (.tmp 1) rfl w.heap.size rfl 23 m r1 HM.out ?_)
  refine (digitsOf_all m _ HM.out).mono ?_
  rintro e w2 ⟨rfl, hb2⟩
  have hz2 := hb2.size
  rw [HZ.out] at hz2
  have HB2 := Lib.hid (HB.out.trans (hb2.mono (by rw [HZ.out]; omega)))
  have n2 : RowN (w2.alloc (.cells (NI (fln 19 [])).toArray 75)) w2.heap.size 75 (fln 19 []) := heap_alloc_new w2 _
  have n3 := Lib.hid (n2.setRow (dgl m))
  clear hb2 r1 HZ
  go_wp2_with (refine store_N rfl (.tmp 3) (.tmp 5) rfl w2.heap.size (fln 19 []) (dgl m) rfl rfl 75 n2 (dgl_len m) (by simp [fln]) ?_)
  go_ret
  exact ⟨w2.heap.size, rfl, n3.out, by omega, below_setRow (HB2.out.alloc (by omega) _) (by omega) _⟩
end
end Go.Proofs.YteicbdjennjcdaaDoor
