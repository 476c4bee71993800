/- Spans: the statements' own lists. -/
import Derived.Test.YtofjbplojhlnoaaSM
import Derived.Deep.RegionHeld3
namespace Go.Proofs.Ytofjbplojhlnoaa
open Go.RowKit

section
variable {md : Region.Mode} {ops : Array Oper} {Q : Exit → Act → World → Prop} {S : World → Prop} {fuel : Nat} {listed : Array Bool} {a : Act} {w : World}
/-- an operation that yields v wherever S holds -/
theorem tk_val (i n : Nat) (v : Value) {oi : Oper} (hi : ops[i]? = some oi)
    (hs : Region.noSelect ops = true) (hf : Region.free md ops listed i = true) (hr : (Region.ready md ops listed).contains i = true) (hQ : ∀ c a v w, Q (.panic c) (a.put (some n) v) w → Q (.panic c) a w)
    (hg : oi.guard = none) (hd : oi.dst = some n) (hy : ∀ w, S w → (execOp a.eval oi).run Try.prog w = .ok (.value v) w) (h0 : S w)
    (h : wpAnyH Try.prog md ops Q S fuel (listed.setIfInBounds i true) (a.put (some n) v) w) : wpAnyH Try.prog md ops Q S (fuel + 1) listed a w :=
  wpAnyH_take (i := i) (oi := oi) (v := v) hi hs hf hr (fun c a w hq => hQ c a _ w (by rw [hd] at hq; exact hq)) (.inl ⟨by simp [Region.wanted, hg], hy⟩) h0 (by rw [hd]; exact h)
theorem tk_move (i n : Nat) (x : Operand) (v : Value) {oi : Oper} (hi : ops[i]? = some oi)
    (hs : Region.noSelect ops = true) (hf : Region.free md ops listed i = true) (hr : (Region.ready md ops listed).contains i = true) (hQ : ∀ c a v w, Q (.panic c) (a.put (some n) v) w → Q (.panic c) a w)
    (hg : oi.guard = none) (ho : oi.op = .move x) (hd : oi.dst = some n) (hx : a.eval x = v) (h0 : S w)
    (h : wpAnyH Try.prog md ops Q S fuel (listed.setIfInBounds i true) (a.put (some n) v) w) : wpAnyH Try.prog md ops Q S (fuel + 1) listed a w :=
  tk_val i n v hi hs hf hr hQ hg hd (fun w _ => by subst hx; simp [execOp, ho]) h0 h
theorem tk_assign (i n : Nat) (x : Operand) (v : Value) {oi : Oper} (hi : ops[i]? = some oi)
    (hs : Region.noSelect ops = true) (hf : Region.free md ops listed i = true) (hr : (Region.ready md ops listed).contains i = true) (hQ : ∀ c a v w, Q (.panic c) (a.put (some n) v) w → Q (.panic c) a w)
    (hg : oi.guard = none) (ho : oi.op = .assign x) (hd : oi.dst = some n) (hx : a.eval x = v) (h0 : S w)
    (h : wpAnyH Try.prog md ops Q S fuel (listed.setIfInBounds i true) (a.put (some n) v) w) : wpAnyH Try.prog md ops Q S (fuel + 1) listed a w :=
  tk_val i n v hi hs hf hr hQ hg hd (fun w _ => by subst hx; simp [execOp, ho]) h0 h
/-- the one operation that may come up -/
theorem lone (i : Nat) {oi : Oper} (hr : Region.ready md ops listed = [i]) (hi : ops[i]? = some oi)
    (h : ∀ K' : Act → World → Prop, (∀ a w, S w → wpAnyH Try.prog md ops Q S fuel (listed.setIfInBounds i true) a w → K' a w) → if Region.wanted oi (yielded ops a.tmps) = true then Oper.wp Try.prog oi a w K' Q else K' (a.put oi.dst undef) w) :
    wpAnyH Try.prog md ops Q S (fuel + 1) listed a w :=
  wpAnyH_ready hr (by simp) (AllReadyH.cons hi (fun K' hK => h K' fun a w hS hW => hK.out a w hS fun _ => hW) AllReadyH.nil)
end
section
variable {o : Oper} {a : Act} {w : World}
theorem ev_index (x y : Operand) (b ofs len cap K : Nat) (ho : o.op = .indexAddr 33 x y) (hx : a.eval x = .slice (some ⟨b, ofs, none⟩) len cap) (hy : a.eval y = .int .i64 K) (hk : K < len) :
    (execOp a.eval o).run Try.prog w = .ok (.value (.pointer (some ⟨b, ofs + K, none⟩))) w := by
  have b1 : (K : Int) < len := by omega
  have b2 : (0 : Int) ≤ K := by omega
  unfold execOp
  simp only [ho, hx, hy]
  go_simp
theorem ev_load (x : Operand) (p : Addr) (v : Int) (ho : o.op = .load 3 x) (hx : a.eval x = .pointer (some p)) (hc : w.cell? p = some (.int .i64 v)) :
    (execOp a.eval o).run Try.prog w = .ok (.value (.int .i64 v)) w := by
  unfold execOp
  simp only [ho, hx]
  go_simp
theorem ev_build (x y : Operand) (p q : Int) (ho : o.op = .build 32 #[(0, x), (1, y)]) (hx : a.eval x = .int .i64 p) (hy : a.eval y = .int .i64 q) :
    (execOp a.eval o).run Try.prog w = .ok (.value (.agg #[.int .i64 p, .int .i64 q])) w := by
  unfold execOp
  simp only [ho]
  simp only [List.map_toArray, List.map_cons, List.map_nil, hx, hy]
  go_simp
theorem to_bs {ops : Array Oper} {K : Act → World → Prop} {Q : Exit → Act → World → Prop} {E : Prop} (n : Nat) (x : Operand) (p q : Int) (hgd : o.guard = none) (ho : o.op = .buildSlice 22 1 #[(0, x)]) (hd : o.dst = some n) (hx : a.eval x = .agg #[.int .i64 p, .int .i64 q])
    (hK : K (a.put (some n) (.slice (some ⟨w.heap.size, 0, none⟩) 1 1)) (w.alloc (.cells #[.int .i64 p, .int .i64 q] 32))) : if Region.wanted o (yielded ops a.tmps) = true then Oper.wp Try.prog o a w K Q else E := by
  have hw : Region.wanted o (yielded ops a.tmps) = true := by simp [Region.wanted, hgd]
  rw [if_pos hw]
  unfold Oper.wp execOp
  simp only [ho]
  simp only [List.map_toArray, List.map_cons, List.map_nil, hx]
  go_simp
  exact hK
theorem ev_add (x y : Operand) (p q : Int) (ho : o.op = .binOp .add 3 x y 3) (hx : a.eval x = .int .i64 p) (hy : a.eval y = .int .i64 q) (h1 : -9223372036854775808 ≤ p + q) (h2 : p + q ≤ 9223372036854775807) :
    (execOp a.eval o).run Try.prog w = .ok (.value (.int .i64 (p + q))) w := by
  have hw : IntKind.i64.wrap (p + q) = p + q := IntWalk.i64_in _ ⟨h1, h2⟩
  unfold execOp
  simp only [ho, hx, hy]
  go_simp
end

/-- the pairs of a list of numbers -/
def prs : Nat → List Int → List Sp
  | 0, _ => []
  | n + 1, l => (l.getD 0 0, l.getD 1 0) :: prs n (l.drop 2)
theorem prs_succ : ∀ (n : Nat) (l : List Int), prs (n + 1) l = prs n l ++ [(l.getD (2 * n) 0, l.getD (2 * n + 1) 0)]
  | 0, l => rfl
  | n + 1, l => by
    rw [prs, prs_succ n (l.drop 2), prs]
    simp [show 2 + 2 * n = 2 * (n + 1) by omega, show 2 + (2 * n + 1) = 2 * (n + 1) + 1 by omega]
theorem prs_len : ∀ (n : Nat) (l : List Int), (prs n l).length = n
  | 0, _ => rfl
  | n + 1, l => by rw [prs, List.length_cons, prs_len n]

theorem step_app_sp {ops : Array Oper} {o : Oper} {a : Act} {K : Act → World → Prop} {Q : Exit → Act → World → Prop} {E : Prop} {w : World} (hgd : o.guard = none) (s x : Operand)
    (ho : o.op = .call { callee := .builtin .append, args := #[s, x], argTypes := #[22, 22] })
    (base g : Nat) (v : Value) (L : List Sp) (p : Sp) (hs : a.eval s = v) (hx : a.eval x = .slice (some ⟨g, 0, none⟩) 1 1) (hown : OwnS w base v L) (hsrc : BoxS w g p)
    (hlen : L.length ≤ 1000000) (hbase : base ≤ w.heap.size)
    (h : ∀ A' c' w', OwnS w' base (.slice A' (L.length + 1) c') (L ++ [p]) → w.grownBy w' v.ownBlock → K (a.put o.dst (.slice A' (L.length + 1) c')) w') : if Region.wanted o (yielded ops a.tmps) = true then Oper.wp Try.prog o a w K Q else E := by
  have hw : Region.wanted o (yielded ops a.tmps) = true := by simp [Region.wanted, hgd]
  rw [if_pos hw]
  obtain ⟨i, hi, hz0, hz1, hz2⟩ := info_parts info_sp
  obtain ⟨v', w', hrun, h1, h2, _⟩ := run_append_own (P := Try.prog) w base 22 o.type 32 i (.agg #[.int .i64 0, .int .i64 0]) 2 16 Try.underlying22 hi hz0 hz1 hz2 rfl (by omega) v L.length (L.flatMap C2) hown ⟨g, 0, none⟩ 1 1 (C2 p)
    rfl (fun j u hu => by
      rw [Go.WideShapes.add_plain, Nat.zero_add]
      match j, hu with
      | 0, hu => simp [C2] at hu; subst hu; exact hsrc.c0
      | 1, hu => simp [C2] at hu; subst hu; exact hsrc.c1) (by simp [C2, Value.oneCell']) (by unfold maxLen; omega) (by omega) hbase
  have h1' : OwnS w' base v' (L ++ [p]) := by
    unfold OwnS
    rw [List.length_append, List.flatMap_append]
    simpa using h1
  obtain ⟨A', c', e, _⟩ := h1'.sl
  rw [List.length_append] at e
  have e' : v' = .slice A' (L.length + 1) c' := e
  subst e'
  have := h A' c' w' h1' h2
  unfold Oper.wp
  simp [execOp, ho, resolve, invoke, builtin, hs, hx, hrun, Result.andThen]
  exact this

set_option maxRecDepth 100000 in
set_option maxHeartbeats 1600000 in
theorem list_all (n : Nat) (l : List Int) (hn : l.length = 2 * n) (hn2 : n ≤ 1000) (g : Nat) (w : World) (hr : Rw w g 3 (l.map (.int .i64 ·))) :
    Calls Try.prog 24 #[.slice (some ⟨g, 0, none⟩) (2 * n) (2 * n)] w fun e w' => ∃ A' c', e = .returned (.slice A' (prs n l).length c') ∧ SL w' (fun i => w.heap.size ≤ i ∧ i < w'.heap.size) (prs n l) A' c' ∧ Below w.heap.size w w' := by
  have HR := Lib.hid hr
  have HN := Lib.hid hn
  have hg := hr.lt
  clear hr hn
  go_enter Try.func24, Try.ntmps24
  go_wp2_with fail
  go_loopw [2, 3] (fun y x wr => ∃ (k : Nat) (A : Option Addr) (c : Nat), y = .slice A k c ∧ x = .int .i64 (2 * k : Nat) ∧ k ≤ n ∧ Hid (OwnS wr w.heap.size (.slice A k c) (prs k l)) ∧ Below w.heap.size w wr) (fun _ x _ => 2 * n - (intOf x).toNat)
  case atStart => exact ⟨0, none, 0, rfl, rfl, by omega, Lib.hid (World.ownsRow_nil _ _ _ _), Below.refl _ _⟩
  case round =>
    obtain ⟨k, A, c, rfl, rfl, hk, HO, hb⟩ := hrel
    have HB := Lib.hid hb
    have hz := hb.size
    clear hb
    by_cases hlt : k < n
    · obtain ⟨K2, hK2⟩ : ∃ K2, K2 = 2 * k := ⟨_, rfl⟩
      have hr' := HR.out.keep (HB.out.block g hg)
      have hat : ∀ j, j < 2 * n → (l.map (Value.int .i64 ·))[j]? = some (.int .i64 (l.getD j 0)) := fun j hj => by
        rw [List.getElem?_map, List.getD_eq_getElem?_getD, List.getElem?_eq_getElem (by rw [HN.out]; exact hj)]
        rfl
      have c1 := hr'.cell (hat K2 (by omega))
      have c2 := hr'.cell (hat (K2 + 1) (by omega))
      have e1 := HR.out.cell (hat K2 (by omega))
      have e2 := HR.out.cell (hat (K2 + 1) (by omega))
      have HP := Lib.hid (show prs (k + 1) l = prs k l ++ [(l.getD K2 0, l.getD (K2 + 1) 0)] by rw [hK2]; exact prs_succ k l)
      generalize l.getD K2 0 = x1 at *
      generalize l.getD (K2 + 1) 0 = x2 at *
      have E1 := Lib.hid e1
      have E2 := Lib.hid e2
      clear e1 e2 hr'
      rw [← hK2]
      have hk2 : K2 + 1 < 2 * n := by omega
      have hk3 : K2 ≤ 2000 := by omega
      have HK2 := Lib.hid hK2
      obtain ⟨N2, hN2⟩ : ∃ N2, N2 = 2 * n := ⟨_, rfl⟩
      rw [← hN2] at hk2 ⊢
      have HN2 := Lib.hid hN2
      clear hK2 hN2 hat
      have D1 := Lib.hid (show w.cell? ⟨g, 0 + K2, none⟩ = some (.int .i64 x1) by rw [Nat.zero_add]; exact E1.out)
      have D2 := Lib.hid (show w.cell? ⟨g, 0 + (K2 + 1), none⟩ = some (.int .i64 x2) by rw [Nat.zero_add]; exact E2.out)
      go_wp2_with fail
      refine wp_region_noPanic ?_
      refine wp_region_held_drew (S := fun w' => Below w.heap.size w w') (by kernel_rfl) HB.out.drew (fun hHeld => ?_)
      refine tk_move 0 11 (.tmp 2) (.slice A k c) rfl (by kernel_rfl) (by kernel_rfl) (by kernel_rfl) (fun _ _ _ _ h => h) rfl rfl rfl rfl hHeld ?_
      simp only [Act.put, List.setIfInBounds_toArray, List.set_cons_zero, List.set_cons_succ]
      refine tk_move 1 12 (.tmp 0) (.slice (some ⟨g, 0, none⟩) N2 N2) rfl (by kernel_rfl) (by kernel_rfl) (by kernel_rfl) (fun _ _ _ _ h => h) rfl rfl rfl rfl hHeld ?_
      simp only [Act.put, List.setIfInBounds_toArray, List.set_cons_zero, List.set_cons_succ]
      refine tk_move 2 13 (.tmp 3) (.int .i64 K2) rfl (by kernel_rfl) (by kernel_rfl) (by kernel_rfl) (fun _ _ _ _ h => h) rfl rfl rfl rfl hHeld ?_
      simp only [Act.put, List.setIfInBounds_toArray, List.set_cons_zero, List.set_cons_succ]
      refine tk_val 3 14 (.pointer (some ⟨g, 0 + K2, none⟩)) rfl (by kernel_rfl) (by kernel_rfl) (by kernel_rfl) (fun _ _ _ _ h => h) rfl rfl (fun w _ => ev_index (.tmp 12) (.tmp 13) g 0 N2 N2 K2 rfl rfl rfl (by omega)) hHeld ?_
      simp only [Act.put, List.setIfInBounds_toArray, List.set_cons_zero, List.set_cons_succ]
      refine tk_val 4 15 (.int .i64 x1) rfl (by kernel_rfl) (by kernel_rfl) (by kernel_rfl) (fun _ _ _ _ h => h) rfl rfl (fun w' h => ev_load (.tmp 14) ⟨g, 0 + K2, none⟩ x1 rfl rfl ((h.cell (p := ⟨g, 0 + K2, none⟩) hg).trans D1.out)) hHeld ?_
      simp only [Act.put, List.setIfInBounds_toArray, List.set_cons_zero, List.set_cons_succ]
      refine tk_move 5 16 (.tmp 0) (.slice (some ⟨g, 0, none⟩) N2 N2) rfl (by kernel_rfl) (by kernel_rfl) (by kernel_rfl) (fun _ _ _ _ h => h) rfl rfl rfl rfl hHeld ?_
      simp only [Act.put, List.setIfInBounds_toArray, List.set_cons_zero, List.set_cons_succ]
      refine tk_move 6 17 (.tmp 3) (.int .i64 K2) rfl (by kernel_rfl) (by kernel_rfl) (by kernel_rfl) (fun _ _ _ _ h => h) rfl rfl rfl rfl hHeld ?_
      simp only [Act.put, List.setIfInBounds_toArray, List.set_cons_zero, List.set_cons_succ]
      refine tk_val 7 18 (.int .i64 ((K2 + 1 : Nat) : Int)) rfl (by kernel_rfl) (by kernel_rfl) (by kernel_rfl) (fun _ _ _ _ h => h) rfl rfl (fun w _ => ev_add (.tmp 17) (.const (.int .i64 1)) K2 1 rfl rfl rfl (by omega) (by omega)) hHeld ?_
      simp only [Act.put, List.setIfInBounds_toArray, List.set_cons_zero, List.set_cons_succ]
      refine tk_val 8 19 (.pointer (some ⟨g, 0 + (K2 + 1), none⟩)) rfl (by kernel_rfl) (by kernel_rfl) (by kernel_rfl) (fun _ _ _ _ h => h) rfl rfl (fun w _ => ev_index (.tmp 16) (.tmp 18) g 0 N2 N2 (K2 + 1) rfl rfl rfl (by omega)) hHeld ?_
      simp only [Act.put, List.setIfInBounds_toArray, List.set_cons_zero, List.set_cons_succ]
      refine tk_val 9 20 (.int .i64 x2) rfl (by kernel_rfl) (by kernel_rfl) (by kernel_rfl) (fun _ _ _ _ h => h) rfl rfl (fun w' h => ev_load (.tmp 19) ⟨g, 0 + (K2 + 1), none⟩ x2 rfl rfl ((h.cell (p := ⟨g, 0 + (K2 + 1), none⟩) hg).trans D2.out)) hHeld ?_
      simp only [Act.put, List.setIfInBounds_toArray, List.set_cons_zero, List.set_cons_succ]
      refine tk_val 10 21 (.agg #[.int .i64 x1, .int .i64 x2]) rfl (by kernel_rfl) (by kernel_rfl) (by kernel_rfl) (fun _ _ _ _ h => h) rfl rfl (fun w _ => ev_build (.tmp 15) (.tmp 20) x1 x2 rfl rfl rfl) hHeld ?_
      simp only [Act.put, List.setIfInBounds_toArray, List.set_cons_zero, List.set_cons_succ]
      refine lone 11 (by kernel_rfl) rfl (fun K' hK' => to_bs 22 (.tmp 21) x1 x2 rfl rfl rfl rfl (hK' _ _ (HB.out.drew.alloc hz _) ?_))
      simp only [Act.put, List.setIfInBounds_toArray, List.set_cons_zero, List.set_cons_succ]
      have HOA := Lib.hid (show OwnS (wr.drew.alloc (.cells #[.int .i64 x1, .int .i64 x2] 32)) w.heap.size (.slice A k c) (prs k l) from OwnS.alloc (w := wr.drew) HO.out _)
      have HSRC := Lib.hid (show BoxS (wr.drew.alloc (.cells #[.int .i64 x1, .int .i64 x2] 32)) wr.drew.heap.size (x1, x2) from heap_alloc_new wr.drew _)
      refine lone 12 (by kernel_rfl) rfl (fun K' hK' => step_app_sp rfl (.tmp 11) (.tmp 22) rfl w.heap.size wr.drew.heap.size (.slice A k c) (prs k l) (x1, x2) rfl rfl HOA.out HSRC.out (by rw [prs_len]; omega) (by simp; omega) (fun A5 c5 w5 ho5 hg5 => ?_))
      have HB5 := Lib.hid (below_ownS (HB.out.drew.alloc hz _) hg5 HOA.out (Nat.le_refl _) (by simp; omega))
      rw [prs_len] at ho5 ⊢
      have HO5 := Lib.hid ho5
      clear ho5 hg5
      refine hK' _ _ HB5.out ?_
      simp only [Act.put, List.setIfInBounds_toArray]
      refine tk_assign 13 2 (.tmp 23) (.slice A5 (k + 1) c5) rfl (by kernel_rfl) (by kernel_rfl) (by kernel_rfl) (fun _ _ _ _ h => h) rfl rfl rfl rfl HB5.out ?_
      refine wpAnyH_done (by kernel_rfl) (NoPanic.normal ?_) _
      clear hHeld
      go_wp2_with fail
      go_roundw
      case rel => exact ⟨k + 1, A5, c5, rfl, by have := HK2.out; go_num, by omega, Lib.hid (by rw [HP.out]; exact HO5.out), HB5.out⟩
      case measure => have := HK2.out; have := HN2.out; simp [intOf]; omega
    · obtain rfl : k = n := by omega
      go_wp2_with fail
      go_ret
      obtain ⟨A', c', e, hs⟩ := OwnS.sl (w := wr) (b := w.heap.size) (v := .slice A k c) (L := prs k l) HO.out
      injection e with e1 _ e2
      subst e1 e2
      rw [prs_len]
      exact ⟨A, c, rfl, hs, HB.out⟩
end Go.Proofs.Ytofjbplojhlnoaa
