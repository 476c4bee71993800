/- Keys: what is hashed on the way from an element to the root, in memory. -/
import Derived.Test.YteicbdjennjcdaaDoorW31
import Derived.Deep.CutRange
namespace Go.Proofs.YteicbdjennjcdaaDoor
set_option maxRecDepth 100000
open Go.RowKit

/-- all but the own block of v is as it was -/
def Grown (w w' : World) (v : Value) : Prop := w.grownBy w' v.ownBlock
theorem Grown.refl (w : World) (v : Value) : Grown w w v := ⟨rfl, rfl, rfl, Nat.le_refl _, fun _ _ _ => rfl⟩
theorem Grown.of {w w' : World} {v : Value} (hb : Below w.heap.size w w') : Grown w w' v := ⟨hb.os, hb.tape, hb.output, hb.size, fun k hk _ => hb.block k hk⟩
def Next (w : World) (v v' : Value) : Prop := v'.ownBlock = v.ownBlock ∨ ∃ g, v'.ownBlock = some g ∧ w.heap.size ≤ g
theorem Next.refl (w : World) (v : Value) : Next w v v := .inl rfl
theorem Next.trans {w w' : World} {v v' v'' : Value} (h : Next w v v') (h' : Next w' v' v'') (hs : w.heap.size ≤ w'.heap.size) : Next w v v'' := by
  rcases h' with e | ⟨g, e, hg⟩
  · rcases h with e2 | ⟨g, e2, hg⟩
    · exact .inl (e.trans e2)
    · exact .inr ⟨g, e.trans e2, hg⟩
  · exact .inr ⟨g, e, by omega⟩
theorem Grown.trans {w w' w'' : World} {v v' : Value} (h : Grown w w' v) (h' : Grown w' w'' v') (hn : Next w v v') : Grown w w'' v := by
  refine ⟨h'.os.trans h.os, h'.tape.trans h.tape, h'.output.trans h.output, Nat.le_trans h.size h'.size, fun k hk hne => (h'.block k (Nat.lt_of_lt_of_le hk h.size) ?_).trans (h.block k hk hne)⟩
  rcases hn with e | ⟨g, e, hg⟩
  · rw [e]; exact hne
  · rw [e]; intro e'; injection e' with e'; omega
theorem Grown.keep {w w' : World} {v : Value} (h : Grown w w' v) {j : Nat} (hj : j < w.heap.size) (hn : v.ownBlock ≠ some j) : w'.heap[j]? = w.heap[j]? := h.block j hj (Ne.symm hn)
theorem res_sd {fn : Func} {p q : Tmp} (h : fn.results = #[.tmp q, .cell p 23]) (tmps : Array Value) (w : World) (g : Nat) (t : TypeId) (l : List UInt8) (v : Value)
    (hp : tmps.getD p undef = .pointer (some ⟨g, 0, none⟩)) (hq : tmps.getD q undef = v) (hg : RowB w g t l) (hl : l.length = 32) :
    (results fn tmps).run Tryd.prog w = .ok (.tuple #[v, .agg (U l).toArray]) w := by
  have hld := run_loadVar_row (P := Tryd.prog) w g t 23 _ (0, 0) _ hg Tryd.underlying23 rfl (by rw [sz32, U_size, hl])
  have hp' : tmps[p]?.getD undef = .pointer (some ⟨g, 0, none⟩) := by simpa using hp
  have hq' : tmps[q]?.getD undef = v := by simpa using hq
  simp [results, h, hp', hq', asAddr, hld]
theorem enters_lclimb : Enters Tryd.prog 57 := enters_of Tryd.func57 (by kernel_rfl) rfl
theorem climbS_le (f : Nat) : ∀ (d : List UInt8) (i n : Nat) (P : List (List UInt8)), P.length = stp f i n → (climbS f d i n P).length = P.length + 1 := by
  induction f with
  | zero => intro d i n P h; rw [h]; rfl
  | succ f ih =>
    intro d i n P h
    rw [stp] at h
    rw [climbS]
    by_cases h1 : n ≤ 1
    · rw [if_pos h1] at h ⊢; rw [h]; rfl
    · rw [if_neg h1] at h ⊢
      by_cases h2 : i < hf n
      · rw [if_pos h2] at h ⊢
        rw [List.length_append, ih _ _ _ _ (by rw [List.length_dropLast]; omega), List.length_dropLast, List.length_singleton]
        omega
      · rw [if_neg h2] at h ⊢
        rw [List.length_append, ih _ _ _ _ (by rw [List.length_dropLast]; omega), List.length_dropLast, List.length_singleton]
        omega

theorem to_bsS {ops : Array Oper} {o : Oper} {a : Act} {w : World} {K : Act → World → Prop} {Q : Exit → Act → World → Prop} {E : Prop} (n : Nat) (x : Operand) (e : Step) (hgd : o.guard = none) (ho : o.op = .buildSlice 46 1 #[(0, x)]) (hdst : o.dst = some n) (hx : a.eval x = .agg #[.string e.1, .string ⟨e.2.toArray⟩])
    (hK : K (a.put (some n) (.slice (some ⟨w.heap.size, 0, none⟩) 1 1)) (w.alloc (.cells (stC e).toArray 78))) : if Region.wanted o (yielded ops a.tmps) = true then Oper.wp Tryd.prog o a w K Q else E := by
  have hw : Region.wanted o (yielded ops a.tmps) = true := by simp [Region.wanted, hgd]
  rw [if_pos hw]
  have hrun := run_bsS e w
  unfold Oper.wp
  simp [execOp, ho, hx, hrun, Result.andThen]
  show K (a.put o.dst _) _
  rw [hdst]
  exact hK
theorem to_appS {ops : Array Oper} {o : Oper} {a : Act} {w : World} {K : Act → World → Prop} {Q : Exit → Act → World → Prop} {E : Prop} (n : Nat) (s x : Operand) (hgd : o.guard = none)
    (ho : o.op = .call { callee := .builtin .append, args := #[s, x], argTypes := #[46, 46] }) (hdst : o.dst = some n)
    (base g : Nat) (v : Value) (L : List Step) (e : Step) (hs : a.eval s = v) (hx : a.eval x = .slice (some ⟨g, 0, none⟩) 1 1) (hown : OwnS w base v L) (hsrc : w.heap[g]? = some (.cells (stC e).toArray 78 (0, 0)))
    (hlen : L.length + 1 ≤ 1000000) (hbase : base ≤ w.heap.size)
    (h : ∀ v' w', OwnS w' base v' (L ++ [e]) → Grown w w' v → Next w v v' → K (a.put (some n) v') w') : if Region.wanted o (yielded ops a.tmps) = true then Oper.wp Tryd.prog o a w K Q else E := by
  have hw : Region.wanted o (yielded ops a.tmps) = true := by simp [Region.wanted, hgd]
  rw [if_pos hw]
  refine wp_appS s x ho base g v L e hs hx hown hsrc hlen hbase fun v' w' h1 h2 h3 => ?_
  rw [hdst]
  exact h v' w' h1 h2 (h3.elim .inl fun e => .inr ⟨_, e, Nat.le_refl _⟩)
theorem conv_str {w : World} {S : Nat → Prop} {A : Option Addr} {cap n : Nat} {l : List UInt8} (h : Byt w S l A cap) (hn : l.length = n) (hl : 0 < n) : (convert 62 9 (.slice A n cap)).run Tryd.prog w = .ok (.string ⟨l.toArray⟩) w := by
  subst hn
  obtain ⟨b, ofs, rfl, _, hc⟩ := h.2.2.2 hl
  exact run_convert_bytes_back (P := Tryd.prog) w 62 9 5 ⟨b, ofs, none⟩ cap l Tryd.underlying62 Tryd.underlying5 Tryd.underlying9 (fun j hj => by
    rw [Go.WideShapes.add_plain]
    exact hc j _ (by rw [U_get, List.getElem?_eq_getElem hj]; rfl))
/-- what climb gives back -/
def ClP (w : World) (base : Nat) (v : Value) (L : List Step) (S : List Step) (c : List UInt8) (e : Ending) (w' : World) : Prop :=
  ∃ v', e = .returned (.tuple #[v', .agg (U c).toArray]) ∧ OwnS w' base v' (L ++ S) ∧ Grown w w' v ∧ Next w v v'

set_option maxHeartbeats 3200000 in
theorem lclimb_leaf (L : List Step) (v : Value) (base : Nat) (d : List UInt8) (i n : Nat) (A : Option Addr) (cap : Nat) (w : World) (hd : d.length = 32) (hn : n ≤ 1) (hb0 : 0 < base) (hL : L.length ≤ 10000) (ho : OwnS w base v L) (hbs : base ≤ w.heap.size) (hk : KR w Kt) :
    Calls Tryd.prog 57 #[v, .agg (U d).toArray, .int .i64 i, .int .i64 n, .slice A 0 cap] w (ClP w base v L [(leafT, d)] (leafd d)) := by
  have HD := Lib.hid hd
  have HO := Lib.hid ho
  have HK := Lib.hid hk
  have hlt0 := hk.lt
  have hn1 : (n : Int) ≤ 1 := by omega
  obtain ⟨k1, k2, hb1, hz1⟩ := box2 w (U d).toArray (U (flb 32 [])).toArray 23 23 _ rfl
  obtain ⟨W1, hW1⟩ : ∃ W1, (w.alloc (.cells (U d).toArray 23)).alloc (.cells (U (flb 32 [])).toArray 23) = W1 := ⟨_, rfl⟩
  rw [hW1] at k1 k2 hb1 hz1
  have HW1 := Lib.hid hW1
  clear hW1 hd ho hk
  go_enter Tryd.func57, Tryd.ntmps57
  go_upto_region 2 with fail
  generalize hW1' : (w.alloc _).alloc _ = W1'
  have e9 : W1' = W1 := hW1'.symm.trans HW1.out
  clear hW1'
  rw [e9]
  clear e9 W1' HW1
  have hov : ∀ g, v.ownBlock = some g → base ≤ g ∧ g < w.heap.size := HO.out.lt
  have HO1 := Lib.hid (HO.out.step hb1)
  have HR := Lib.hid (show ∀ ww, W1.heap.size ≤ ww.heap.size → (∀ j, j < W1.heap.size → v.ownBlock ≠ some j → ww.heap[j]? = W1.heap[j]?) → RowB ww w.heap.size 23 d ∧ RowB ww (w.heap.size + 1) 23 (flb 32 []) ∧ KR ww Kt from fun ww hz h =>
    ⟨(h _ (by omega) (fun e => by have := (hov _ e).2; omega)).trans k1, (h _ (by omega) (fun e => by have := (hov _ e).2; omega)).trans k2, HK.out.keep ((h 0 (by omega) (fun e => by have := (hov _ e).1; omega)).trans (hb1.block 0 hlt0))⟩)
  have HB1 := Lib.hid hb1
  have hz1' : W1.heap.size = w.heap.size + 2 := hz1
  clear k1 k2 hb1 hz1
  have h0 : Below W1.heap.size W1 W1.drew := (Below.refl _ _).drew
  have H0 := Lib.hid (show RowB W1.drew w.heap.size 23 d from (HR.out W1 (Nat.le_refl _) (fun _ _ _ => rfl)).1)
  refine wp_region_noPanic ?_
  refine wp_region_held_drew (S := fun ww => RowB ww w.heap.size 23 d) (by kernel_rfl) H0.out (fun _ => ?_)
  have HOd : OwnS W1.drew base v L := HO1.out
  have hzd : W1.drew.heap.size = W1.heap.size := rfl
  obtain ⟨V0, hV0⟩ : ∃ V0, W1.drew = V0 := ⟨_, rfl⟩
  rw [hV0] at h0 H0 HOd hzd ⊢
  clear hV0
  refine tk_move 0 23 (.tmp 0) v rfl (by kernel_rfl) (by kernel_rfl) (by kernel_rfl) (fun _ _ _ _ h => h) rfl rfl rfl rfl H0.out ?_
  simp only [Act.put, List.setIfInBounds_toArray, List.set_cons_zero, List.set_cons_succ]
  refine tk_val 1 24 (.slice (some ⟨w.heap.size, 0, none⟩) 32 32) rfl (by kernel_rfl) (by kernel_rfl) (by kernel_rfl) (fun _ _ _ _ h => h) rfl rfl (fun _ _ => ev_arr (.tmp 6) _ rfl rfl) H0.out ?_
  simp only [Act.put, List.setIfInBounds_toArray, List.set_cons_zero, List.set_cons_succ]
  refine tk_val 2 25 (.string ⟨d.toArray⟩) rfl (by kernel_rfl) (by kernel_rfl) (by kernel_rfl) (fun _ _ _ _ h => h) rfl rfl (fun ww h => ev_str (.tmp 24) (· = w.heap.size) _ 32 d (by rw [HD.out]; omega) rfl (by rw [HD.out]; rfl) (h.b32 HD.out)) H0.out ?_
  simp only [Act.put, List.setIfInBounds_toArray, List.set_cons_zero, List.set_cons_succ]
  refine tk_val 3 26 (.agg #[.string leafT, .string ⟨d.toArray⟩]) rfl (by kernel_rfl) (by kernel_rfl) (by kernel_rfl) (fun _ _ _ _ h => h) rfl rfl (fun _ _ => ev_buildS leafT (.tmp 25) _ rfl rfl) H0.out ?_
  simp only [Act.put, List.setIfInBounds_toArray, List.set_cons_zero, List.set_cons_succ]
  refine tk_val 6 29 (.slice (some ⟨w.heap.size, 0, none⟩) 32 32) rfl (by kernel_rfl) (by kernel_rfl) (by kernel_rfl) (fun _ _ _ _ h => h) rfl rfl (fun _ _ => ev_arr (.tmp 6) _ rfl rfl) H0.out ?_
  simp only [Act.put, List.setIfInBounds_toArray, List.set_cons_zero, List.set_cons_succ]
  have hbn : Below V0.heap.size V0 (V0.alloc (.cells (stC (leafT, d)).toArray 78)) := (Below.refl _ _).alloc (Nat.le_refl _) _
  have hsn : (V0.alloc (.cells (stC (leafT, d)).toArray 78)).heap[V0.heap.size]? = some (.cells (stC (leafT, d)).toArray 78 (0, 0)) := heap_alloc_new V0 _
  have hon := HOd.step hbn
  have hrn := H0.out.keep (hbn.block _ H0.out.lt)
  refine lone 4 (by kernel_rfl) rfl (fun K hK => to_bsS 27 (.tmp 26) (leafT, d) rfl rfl rfl rfl ?_)
  refine hK _ _ hrn ?_
  simp only [Act.put, List.setIfInBounds_toArray, List.set_cons_zero, List.set_cons_succ]
  clear hK
  have hzn : (V0.alloc (.cells (stC (leafT, d)).toArray 78)).heap.size = V0.heap.size + 1 := by simp
  refine lone 5 (by kernel_rfl) rfl (fun K hK => to_appS 28 (.tmp 23) (.tmp 27) rfl rfl rfl base V0.heap.size v L (leafT, d) rfl rfl hon hsn (by omega) (by omega) (fun v' w' ho' hg' hn' => ?_))
  have hgr : Grown V0 w' v := (Grown.of hbn).trans hg' (.refl _ _)
  have hgr1 : Grown W1 w' v := (Grown.of h0).trans hgr (.refl _ _)
  obtain ⟨q1, q2, q3⟩ := HR.out w' hgr1.size (fun j hj hne => hgr1.keep hj hne)
  refine hK _ _ q1 ?_
  simp only [Act.put, List.setIfInBounds_toArray, List.set_cons_zero, List.set_cons_succ]
  clear hK
  have C := tagged_all leafT d (some ⟨w.heap.size, 0, none⟩) 32 w' (by decide) (by rw [HD.out]; omega) ((q1.b32 HD.out).keep fun i hi => ⟨by subst hi; exact q1.lt, rfl⟩) q3
  rw [HD.out] at C
  refine lone 7 (by kernel_rfl) rfl (fun K hK => to_call 42 30 _ _ #[.string leafT, .slice (some ⟨w.heap.size, 0, none⟩) 32 32] _ rfl rfl rfl rfl enters_Tagged C (fun e w2 hq => ?_))
  refine ⟨_, hq.1, ?_⟩
  have p1 := q1.keep (hq.2.block _ q1.lt)
  have p2 := q2.keep (hq.2.block _ q2.lt)
  have ho2 := OwnS.step ho' hq.2
  have hgr2 : Grown w w2 v := ((Grown.of HB1.out).trans hgr1 (.refl _ _)).trans (Grown.of (v := v') hq.2) (by refine Next.trans (.refl _ _) hn' ?_; have := HB1.out.size; omega)
  refine hK _ _ p1 ?_
  simp only [Act.put, List.setIfInBounds_toArray, List.set_cons_zero, List.set_cons_succ]
  clear hK
  refine tk_assign 8 10 (.tmp 28) v' rfl (by kernel_rfl) (by kernel_rfl) (by kernel_rfl) (fun _ _ _ _ h => h) rfl rfl rfl rfl p1 ?_
  simp only [Act.put, List.setIfInBounds_toArray, List.set_cons_zero, List.set_cons_succ]
  have hlv : v'.ownBlock ≠ some (w.heap.size + 1) := by
    rcases hn' with e | ⟨g, e, hg⟩
    · rw [e]; intro e'; have := (hov _ e').2; omega
    · rw [e]; intro e'; injection e' with e'; omega
  have p3 : RowB (w2.setRow (w.heap.size + 1) (U (leafd d)).toArray) (w.heap.size + 1) 23 (leafd d) := p2.setRow (leafd d)
  refine lone 9 (by kernel_rfl) rfl (fun K hK => to_store (.tmp 11) (.tmp 30) rfl rfl rfl (w.heap.size + 1) (flb 32 []) (leafd d) rfl rfl p2 (by simp [flb]) (tagd_len _ _) ?_)
  refine hK _ _ (p1.keep (setRow_keep _ _ _ _ (by omega))) ?_
  clear hK
  refine wpAnyH_done (by kernel_rfl) (NoPanic.normal ?_) _
  have hfin : Grown w (w2.setRow (w.heap.size + 1) (U (leafd d)).toArray) v := by
    obtain ⟨g1, g2, g3, g4, g5⟩ := hgr2
    exact ⟨g1, g2, g3, by rw [setRow_size]; exact g4, fun k hk hne => (setRow_keep _ _ _ _ (by omega)).trans (g5 k hk hne)⟩
  have hof : OwnS (w2.setRow (w.heap.size + 1) (U (leafd d)).toArray) base v' (L ++ [(leafT, d)]) := ho2.kept fun g hg => setRow_keep _ _ _ _ (fun e => hlv (by rw [hg, e]))
  have HFIN := Lib.hid hfin
  have HOF := Lib.hid hof
  have HNX := Lib.hid (show Next w v v' from Next.trans (.refl _ _) hn' (by have := HB1.out.size; omega))
  clear hfin hof hn' ho' ho2 hgr2 hgr1 hgr hg' hq C q1 q2 q3 p1 p2 hon hsn hrn hbn
  go_wp2_with fail
  exact bodyPost_ret (res_sd rfl _ _ _ _ _ _ rfl rfl p3 (tagd_len _ _)) rfl ⟨v', rfl, HOF.out, HFIN.out, HNX.out⟩

theorem ev_subM {o : Oper} {a : Act} {w : World} (x : Operand) (M N : Nat) (hM : M = N + 1) (hb : M ≤ 1000000000000) (ho : o.op = .binOp .sub 3 x (.const (.int .i64 1)) 3) (hx : a.eval x = .int .i64 (M : Int)) :
    (execOp a.eval o).run Tryd.prog w = .ok (.value (.int .i64 (N : Int))) w := by
  have := ev_sub (w := w) x (.const (.int .i64 1)) (M : Int) 1 ho hx rfl (by omega) (by omega)
  rwa [show (M : Int) - 1 = N by omega] at this
theorem ev_subN {o : Oper} {a : Act} {w : World} (x y : Operand) (p q r : Nat) (hr : p = q + r) (hb : p ≤ 10000000000000) (ho : o.op = .binOp .sub 3 x y 3) (hx : a.eval x = .int .i64 (p : Int)) (hy : a.eval y = .int .i64 (q : Int)) :
    (execOp a.eval o).run Tryd.prog w = .ok (.value (.int .i64 (r : Int))) w := by
  have := ev_sub (w := w) x y (p : Int) (q : Int) ho hx hy (by omega) (by omega)
  rwa [show (p : Int) - q = r by omega] at this
/-- the boxes of climb -/
structure ClB (w : World) (B1 B2 B3 B4 : Nat) (d X : List UInt8) : Prop where
  d : RowB w B1 23 d
  r : RowB w B2 23 (flb 32 [])
  l : RowB w B3 23 X
  x : RowB w B4 23 (flb 32 [])

set_option maxHeartbeats 6400000 in
theorem lclimb_all (f : Nat) : ∀ (L : List Step) (v : Value) (base : Nat) (d : List UInt8) (i n : Nat) (P : List (List UInt8)) (A : Option Addr) (cap : Nat) (w : World), d.length = 32 → i < n → n ≤ f → f ≤ 1099511627776 → P.length = stp f i n → 0 < base → L.length + P.length ≤ 10000 → OwnS w base v L → base ≤ w.heap.size →
    DL w (fun j => j < w.heap.size ∧ v.ownBlock ≠ some j) P A cap → KR w Kt →
    Calls Tryd.prog 57 #[v, .agg (U d).toArray, .int .i64 i, .int .i64 n, .slice A P.length cap] w (ClP w base v L (climbS f d i n P) (clm f d i n P)) := by
  induction f with
  | zero => intro L v base d i n P A cap w _ h1 h2; omega
  | succ f ih =>
    intro L v base d i n P A cap w hd hi hfu hf2 hp hb0 hL ho hbs hl hk
    by_cases h1 : n = 1
    · subst h1
      obtain rfl : i = 0 := by omega
      have h0 : P = [] := List.eq_nil_of_length_eq_zero (by rw [hp, stp, if_pos (by omega)])
      subst h0
      rw [clm, if_pos (by omega), climbS, if_pos (by omega)]
      exact lclimb_leaf L v base d 0 1 A cap w hd (by omega) hb0 (by simpa using hL) ho hbs hk
    obtain ⟨k, _, _, hk1, hk2, hk3⟩ := hf_spec n (by omega) (by omega)
    obtain ⟨K, hK⟩ : ∃ K, K = hf n := ⟨_, rfl⟩
    rw [← hK] at hk1 hk2 hk3
    have hp1 : i < K → P.length = 1 + stp f i K := fun h => by rw [hp, stp, if_neg (by omega), ← hK, if_pos h]
    have hp2 : ¬ i < K → P.length = 1 + stp f (i - K) (n - K) := fun h => by rw [hp, stp, if_neg (by omega), ← hK, if_neg h]
    have hp0 : 0 < P.length := by
      by_cases h : i < K
      · have := hp1 h; omega
      · have := hp2 h; omega
    have hc1 : i < K → clm (f + 1) d i n P = noded (clm f d i K P.dropLast) (P.getLastD []) := fun h => by rw [clm, if_neg (by omega), ← hK, if_pos h]
    have hc2 : ¬ i < K → clm (f + 1) d i n P = noded (P.getLastD []) (clm f d (i - K) (n - K) P.dropLast) := fun h => by rw [clm, if_neg (by omega), ← hK, if_neg h]
    have hs1 : i < K → climbS (f + 1) d i n P = climbS f d i K P.dropLast ++ [(nodeT, clm f d i K P.dropLast ++ P.getLastD [])] := fun h => by rw [climbS, if_neg (by omega), ← hK, if_pos h]
    have hs2 : ¬ i < K → climbS (f + 1) d i n P = climbS f d (i - K) (n - K) P.dropLast ++ [(nodeT, P.getLastD [] ++ clm f d (i - K) (n - K) P.dropLast)] := fun h => by rw [climbS, if_neg (by omega), ← hK, if_neg h]
    obtain ⟨b, o, rfl, hS, hat⟩ := hl.2.2.2.2 hp0
    obtain ⟨X, hX⟩ : ∃ X, X = P.getLastD [] := ⟨_, rfl⟩
    have hgl := last_get P hp0
    rw [← hX] at hgl
    have hXl : X.length = 32 := hl.2.2.2.1 X (List.mem_of_getElem? hgl)
    obtain ⟨N, hN⟩ : ∃ N, P.length = N + 1 := ⟨P.length - 1, by omega⟩
    obtain ⟨M, hM⟩ : ∃ M, P.length = M := ⟨_, rfl⟩
    have hMN : M = N + 1 := by omega
    have hrx := hat _ _ hgl
    rw [hN, Nat.add_sub_cancel] at hrx
    have hdl : DL w (fun j => j < w.heap.size ∧ v.ownBlock ≠ some j) P.dropLast (some ⟨b, o, none⟩) cap := by rw [dropLast_take]; exact hl.take _
    have hdn : P.dropLast.length = N := by rw [List.length_dropLast, hN]; rfl
    obtain ⟨D, hD⟩ : ∃ D, D = P.dropLast := ⟨_, rfl⟩
    rw [← hD] at hdl hdn hc1 hc2 hs1 hs2
    rw [← hX] at hc1 hc2 hs1 hs2
    have hcap := hl.1
    rw [hM] at hp1 hp2 hcap hL ⊢
    clear hp hl hat hD hX hN hp0 hgl hM
    obtain ⟨W1, hW1⟩ : ∃ W1, (w.alloc (.cells (U d).toArray 23)).alloc (.cells (U (flb 32 [])).toArray 23) = W1 := ⟨_, rfl⟩
    obtain ⟨h0, h1', hb1, hz1⟩ := box2 w (U d).toArray (U (flb 32 [])).toArray 23 23 W1 hW1
    obtain ⟨W3, hW3⟩ : ∃ W3, (W1.alloc (.cells (U (flb 32 [])).toArray 23)).setRow W1.heap.size (U X).toArray = W3 := ⟨_, rfl⟩
    obtain ⟨hr3, hb3⟩ := newD W1 X W3 hW3
    have hz3 : W1.heap.size < W3.heap.size := hr3.lt
    obtain ⟨W4, hW4⟩ : ∃ W4, W3.alloc (.cells (U (flb 32 [])).toArray 23) = W4 := ⟨_, rfl⟩
    have hr4 : RowB W4 W3.heap.size 23 (flb 32 []) := by rw [← hW4]; exact newD0 W3
    have hb4 : Below W3.heap.size W3 W4 := by rw [← hW4]; exact (Below.refl _ _).alloc (Nat.le_refl _) _
    have hz4 : W4.heap.size = W3.heap.size + 1 := by rw [← hW4]; simp
    have hbw : Below w.heap.size w W4 := hb1.trans ((hb3.trans (hb4.mono (by omega))).mono (by omega))
    have HBX := Lib.hid (show ClB W4 w.heap.size (w.heap.size + 1) W1.heap.size W3.heap.size d X from ⟨(hb4.block _ (by omega)).trans ((hb3.block _ (by omega)).trans h0), (hb4.block _ (by omega)).trans ((hb3.block _ (by omega)).trans h1'), (hb4.block _ (by omega)).trans hr3, hr4⟩)
    have hov := ho.lt
    have HOV := Lib.hid hov
    have HO4 := Lib.hid (ho.step hbw)
    have HK4 := Lib.hid (hk.keep (hbw.block 0 hk.lt))
    have HDL4 := Lib.hid (show DL W4 (fun j => j < W4.heap.size ∧ v.ownBlock ≠ some j) D (some ⟨b, o, none⟩) cap from hdl.keep fun j hj => ⟨⟨by have := hbw.size; omega, hj.2⟩, hbw.block j hj.1⟩)
    have HBW := Lib.hid hbw
    have HD := Lib.hid hd
    have HXL := Lib.hid hXl
    have hrx1 : W1.rangeAt b (o + N * 32) (U X) := fun j u hu => (World.cell?_of_block (hb1.block b hS.1)).trans (hrx j u hu)
    have HMN := Lib.hid hMN
    clear hMN
    have CH := Lib.hid (lhalf_all n W3 (by omega) (by omega))
    rw [← hK] at CH
    have hzz : w.heap.size + 2 ≤ W1.heap.size ∧ W1.heap.size < W3.heap.size ∧ W4.heap.size = W3.heap.size + 1 := ⟨by omega, by omega, hz4⟩
    have HW1 := Lib.hid hW1
    have HW3 := Lib.hid hW3
    have HW4 := Lib.hid hW4
    have HC1 := Lib.hid hc1
    have HC2 := Lib.hid hc2
    have HS1 := Lib.hid hs1
    have HS2 := Lib.hid hs2
    have HP1 := Lib.hid hp1
    have HP2 := Lib.hid hp2
    have IH := Lib.hid ih
    have n3 := newD0 W1
    have hrx2 : W1.rangeAt b (o + (M - 1) * 32) (U X) := by rw [show M - 1 = N by have := HMN.out; omega]; exact hrx1
    have hn1 : ¬ (n : Int) ≤ 1 := by omega
    have hM0 : ¬ (M : Int) = 0 := by have := HMN.out; omega
    have hM1 : ((M : Int) == 0) = false := by simpa using hM0
    have hNM : N < M := by have := HMN.out; omega
    have hbK : 0 < K ∧ K < n := by omega
    clear ih hd hdl hXl hrx hK hc1 hc2 hs1 hs2 h0 h1' hb1 hz1 hW1 hW3 hW4 hr3 hb3 hr4 hb4 hz4 hbw ho hk hov hz3 hp1 hp2
    go_enter Tryd.func57, Tryd.ntmps57
    go_upto_region 3 with fail
    generalize hW1' : (w.alloc _).alloc _ = W1'
    have e9 : W1' = W1 := hW1'.symm.trans HW1.out
    clear hW1'
    rw [e9]
    clear e9 W1' HW1
    go_upto_region 4 with (first
      | (refine wl_val rfl (.int .i64 (N : Int)) (ev_subM (.tmp 33) M N HMN.out (by omega) rfl rfl) ?_; try simp only [Act.put, List.setIfInBounds_toArray, List.set_cons_zero, List.set_cons_succ])
      | (refine wl_val rfl (.pointer (some ⟨b, o + N * 32, none⟩)) (ev_index (.tmp 31) (.tmp 34) b o M cap N rfl rfl rfl hNM) ?_; try simp only [Act.put, List.setIfInBounds_toArray, List.set_cons_zero, List.set_cons_succ])
      | (refine load_D rfl (.tmp 35) rfl b (o + (M - 1) * 32) X rfl hrx2 HXL.out ?_)
      | (refine store_B rfl (.tmp 12) (.tmp 36) rfl W1.heap.size (flb 32 []) X rfl rfl 23 n3 HXL.out (by simp [flb]) ?_))
    generalize hW3' : World.setRow _ _ _ = W3'
    have e9 : W3' = W3 := hW3'.symm.trans HW3.out
    clear hW3'
    rw [e9]
    clear e9 W3' HW3 hrx1 hrx2 n3
    go_wp2_with fail
    refine CH.out.mono ?_
    rintro e w' ⟨rfl, hw'⟩
    rw [hw']
    clear hw' w' CH
    by_cases hik : i < K
    · have hikb : (i : Int) < K := by omega
      go_upto_region 8 with fail
      generalize hW4' : World.alloc _ _ = W4'
      have e9 : W4' = W4 := hW4'.symm.trans HW4.out
      clear hW4'
      rw [e9]
      clear e9 W4' HW4
      have HC := Lib.hid (HC1.out hik)
      have HSS := Lib.hid (HS1.out hik)
      have hpl := HP1.out hik
      clear HC1 HC2 HS1 HS2 HP1 HP2
      have C := IH.out L v base d i K D (some ⟨b, o, none⟩) cap W4.drew HD.out (by omega) (by omega) (by omega) (by rw [hdn]; have := HMN.out; omega) hb0 (by rw [hdn]; have := HMN.out; omega) HO4.out (by have := HBW.out.size; show base ≤ W4.heap.size; omega) HDL4.out HK4.out
      rw [hdn] at C
      have CC := Lib.hid C
      clear C IH HDL4
      obtain ⟨x, hx⟩ : ∃ x, clm f d i K D = x := ⟨_, rfl⟩
      obtain ⟨S, hS'⟩ : ∃ S, climbS f d i K D = S := ⟨_, rfl⟩
      have HXX := Lib.hid (show x.length = 32 by rw [← hx]; exact clm_len _ _ _ _ _)
      have HSL := Lib.hid (show S.length = N + 1 by rw [← hS', climbS_le f _ _ _ _ (by rw [hdn]; have := HMN.out; omega), hdn])
      rw [hx, hS'] at CC
      rw [hx, hS'] at HSS
      rw [hx] at HC
      clear hx hS'
      have hL2 : L.length + N + 1 ≤ 10000 := by have := HMN.out; omega
      refine wp_region_noPanic ?_
      have H0 := Lib.hid (show RowB W4.drew w.heap.size 23 d from HBX.out.d)
      refine wp_region_held_drew (S := fun ww => RowB ww w.heap.size 23 d) (by kernel_rfl) H0.out (fun _ => ?_)
      have hzd : W4.drew.heap.size = W4.heap.size := rfl
      have hgd : Grown W4 W4.drew v := ⟨rfl, rfl, rfl, Nat.le_refl _, fun _ _ _ => rfl⟩
      obtain ⟨V0, hV0⟩ : ∃ V0, W4.drew = V0 := ⟨_, rfl⟩
      rw [hV0] at H0 hzd hgd CC ⊢
      clear hV0
      refine tk_move 0 43 (.tmp 0) v rfl (by kernel_rfl) (by kernel_rfl) (by kernel_rfl) (fun _ _ _ _ h => h) rfl rfl rfl rfl H0.out ?_
      simp only [Act.put, List.setIfInBounds_toArray, List.set_cons_zero, List.set_cons_succ]
      refine tk_load 1 44 (.tmp 6) w.heap.size (0) d rfl (by kernel_rfl) (by kernel_rfl) (by kernel_rfl) (fun _ _ _ _ h => h) rfl rfl rfl rfl (fun ww h => h.range) HD.out H0.out ?_
      simp only [Act.put, List.setIfInBounds_toArray, List.set_cons_zero, List.set_cons_succ]
      refine tk_move 2 45 (.tmp 2) (.int .i64 i) rfl (by kernel_rfl) (by kernel_rfl) (by kernel_rfl) (fun _ _ _ _ h => h) rfl rfl rfl rfl H0.out ?_
      simp only [Act.put, List.setIfInBounds_toArray, List.set_cons_zero, List.set_cons_succ]
      refine tk_move 3 46 (.tmp 13) (.int .i64 K) rfl (by kernel_rfl) (by kernel_rfl) (by kernel_rfl) (fun _ _ _ _ h => h) rfl rfl rfl rfl H0.out ?_
      simp only [Act.put, List.setIfInBounds_toArray, List.set_cons_zero, List.set_cons_succ]
      refine tk_move 4 47 (.tmp 4) (.slice (some ⟨b, o, none⟩) M cap) rfl (by kernel_rfl) (by kernel_rfl) (by kernel_rfl) (fun _ _ _ _ h => h) rfl rfl rfl rfl H0.out ?_
      simp only [Act.put, List.setIfInBounds_toArray, List.set_cons_zero, List.set_cons_succ]
      refine tk_move 5 48 (.tmp 4) (.slice (some ⟨b, o, none⟩) M cap) rfl (by kernel_rfl) (by kernel_rfl) (by kernel_rfl) (fun _ _ _ _ h => h) rfl rfl rfl rfl H0.out ?_
      simp only [Act.put, List.setIfInBounds_toArray, List.set_cons_zero, List.set_cons_succ]
      refine tk_val 6 49 (.int .i64 M) rfl (by kernel_rfl) (by kernel_rfl) (by kernel_rfl) (fun _ _ _ _ h => h) rfl rfl (fun _ _ => ev_len (.tmp 48) _ M cap rfl rfl) H0.out ?_
      simp only [Act.put, List.setIfInBounds_toArray, List.set_cons_zero, List.set_cons_succ]
      refine tk_val 7 50 (.int .i64 N) rfl (by kernel_rfl) (by kernel_rfl) (by kernel_rfl) (fun _ _ _ _ h => h) rfl rfl (fun _ _ => ev_subM (.tmp 49) M N HMN.out (by omega) rfl rfl) H0.out ?_
      simp only [Act.put, List.setIfInBounds_toArray, List.set_cons_zero, List.set_cons_succ]
      refine tk_val 8 51 (.slice (some ⟨b, o, none⟩) N cap) rfl (by kernel_rfl) (by kernel_rfl) (by kernel_rfl) (fun _ _ _ _ h => h) rfl rfl (fun _ _ => ev_slice_to (.tmp 47) (.tmp 50) b o M cap N rfl rfl rfl (by omega)) H0.out ?_
      simp only [Act.put, List.setIfInBounds_toArray, List.set_cons_zero, List.set_cons_succ]
      refine lone 9 (by kernel_rfl) rfl (fun K' hK' => to_call 57 52 _ _ #[v, .agg (U d).toArray, .int .i64 i, .int .i64 K, .slice (some ⟨b, o, none⟩) N cap] _ rfl rfl rfl rfl enters_lclimb CC.out (fun e w5 hq => ?_))
      obtain ⟨v5, hv5, ho5, hg5, hn5⟩ := hq
      refine ⟨_, hv5, ?_⟩
      have hgr5 : Grown W4 w5 v := hgd.trans hg5 (.refl _ _)
      have hnx5 : Next W4 v v5 := Next.trans (.refl _ _) hn5 (by omega)
      have hv5n : ∀ j, w.heap.size ≤ j → j < W4.heap.size → v5.ownBlock ≠ some j := fun j h1 h2 => by
        rcases hnx5 with e | ⟨g, e, hg⟩
        · rw [e]; intro e'; have := (HOV.out _ e').2; omega
        · rw [e]; intro e'; injection e' with e'; omega
      have hbk : ∀ j, w.heap.size ≤ j → j < W4.heap.size → w5.heap[j]? = W4.heap[j]? := fun j h1 h2 => hgr5.keep h2 fun e => by have := (HOV.out _ e).2; omega
      have p1 := HBX.out.d.keep (hbk _ (by omega) (by omega))
      have p2 := HBX.out.r.keep (hbk _ (by omega) (by omega))
      have p3 := HBX.out.l.keep (hbk _ (by omega) (by omega))
      have p4 := HBX.out.x.keep (hbk _ (by omega) (by omega))
      have pk := HK4.out.keep (hgr5.keep (by omega) (fun e => by have := (HOV.out _ e).1; omega))
      refine hK' _ _ p1 ?_
      simp only [Act.put, List.setIfInBounds_toArray, List.set_cons_zero, List.set_cons_succ]
      clear hK' hv5 hg5 hn5
      refine tk_move 10 42 (.tmp 52) (.tuple #[v5, .agg (U x).toArray]) rfl (by kernel_rfl) (by kernel_rfl) (by kernel_rfl) (fun _ _ _ _ h => h) rfl rfl rfl rfl p1 ?_
      simp only [Act.put, List.setIfInBounds_toArray, List.set_cons_zero, List.set_cons_succ]
      refine tk_val 11 53 v5 rfl (by kernel_rfl) (by kernel_rfl) (by kernel_rfl) (fun _ _ _ _ h => h) rfl rfl (fun _ _ => ev_extract (.tmp 42) 0 _ _ rfl rfl rfl) p1 ?_
      simp only [Act.put, List.setIfInBounds_toArray, List.set_cons_zero, List.set_cons_succ]
      refine tk_val 12 54 (.agg (U x).toArray) rfl (by kernel_rfl) (by kernel_rfl) (by kernel_rfl) (fun _ _ _ _ h => h) rfl rfl (fun _ _ => ev_extract (.tmp 42) 1 _ _ rfl rfl rfl) p1 ?_
      simp only [Act.put, List.setIfInBounds_toArray, List.set_cons_zero, List.set_cons_succ]
      refine tk_assign 13 0 (.tmp 53) v5 rfl (by kernel_rfl) (by kernel_rfl) (by kernel_rfl) (fun _ _ _ _ h => h) rfl rfl rfl rfl p1 ?_
      simp only [Act.put, List.setIfInBounds_toArray, List.set_cons_zero]
      have p5 := p4.setRow x
      have hk6 : ∀ j, j ≠ W3.heap.size → (w5.setRow W3.heap.size (U x).toArray).heap[j]? = w5.heap[j]? := fun j hj => setRow_keep _ _ _ _ hj
      refine lone 14 (by kernel_rfl) rfl (fun K' hK' => to_store (.tmp 14) (.tmp 54) rfl rfl rfl W3.heap.size (flb 32 []) x rfl rfl p4 (by simp [flb]) HXX.out ?_)
      refine hK' _ _ (p1.keep (hk6 _ (by omega))) ?_
      clear hK'
      refine wpAnyH_done (by kernel_rfl) (NoPanic.normal ?_) _
      have hz6 : (w5.setRow W3.heap.size (U x).toArray).heap.size = w5.heap.size := setRow_size _ _ _
      have R2 := Lib.hid (p2.keep (hk6 _ (by omega)))
      have R3 := Lib.hid (p3.keep (hk6 _ (by omega)))
      have R4 := Lib.hid p5
      have RK := Lib.hid (pk.keep (hk6 0 (by omega)))
      have HO6 := Lib.hid (ho5.kept (w' := w5.setRow W3.heap.size (U x).toArray) fun g hg => hk6 g (fun e => hv5n W3.heap.size (by omega) (by omega) (by rw [hg, e])))
      have HG6 := Lib.hid (show Grown w (w5.setRow W3.heap.size (U x).toArray) v from by
        obtain ⟨g1, g2, g3, g4, g5⟩ := (Grown.of HBW.out : Grown w W4 v).trans hgr5 (.refl _ _)
        exact ⟨g1, g2, g3, by rw [hz6]; exact g4, fun k hk hne => (hk6 k (by omega)).trans (g5 k hk hne)⟩)
      have hz5 : W4.heap.size ≤ w5.heap.size := hgr5.size
      have HV5N := Lib.hid hv5n
      have HNX5 := Lib.hid (show Next w v v5 from Next.trans (.refl _ _) hnx5 HBW.out.size)
      have hbase6 : base ≤ (w5.setRow W3.heap.size (U x).toArray).heap.size := by rw [hz6]; have := HBW.out.size; omega
      clear p1 p2 p3 p4 p5 pk hk6 hbk hv5n hnx5 hgr5 ho5 H0 HBX HO4 HK4 hgd CC
      obtain ⟨w6, hw6⟩ : ∃ w6, w5.setRow W3.heap.size (U x).toArray = w6 := ⟨_, rfl⟩
      rw [hw6] at hz6 R2 R3 R4 RK HO6 HG6 hbase6 ⊢
      clear hw6
      go_upto_region 9 with fail
      refine wp_region_noPanic ?_
      have h0 : Below w6.heap.size w6 w6.drew := (Below.refl _ _).drew
      refine wp_region_held_drew (S := fun _ => True) (by kernel_rfl) trivial (fun _ => ?_)
      generalize w6.drew = V1 at h0 ⊢
      refine tk_move 0 55 (.tmp 15) (.slice none 0 0) rfl (by kernel_rfl) (by kernel_rfl) (by kernel_rfl) (fun _ _ _ _ h => h) rfl rfl rfl rfl trivial ?_
      simp only [Act.put, List.setIfInBounds_toArray, List.set_cons_zero, List.set_cons_succ]
      refine tk_val 1 56 (.slice (some ⟨W3.heap.size, 0, none⟩) 32 32) rfl (by kernel_rfl) (by kernel_rfl) (by kernel_rfl) (fun _ _ _ _ h => h) rfl rfl (fun _ _ => ev_arr (.tmp 14) _ rfl rfl) trivial ?_
      simp only [Act.put, List.setIfInBounds_toArray, List.set_cons_zero, List.set_cons_succ]
      refine tk_val 3 58 (.slice (some ⟨W1.heap.size, 0, none⟩) 32 32) rfl (by kernel_rfl) (by kernel_rfl) (by kernel_rfl) (fun _ _ _ _ h => h) rfl rfl (fun _ _ => ev_arr (.tmp 12) _ rfl rfl) trivial ?_
      simp only [Act.put, List.setIfInBounds_toArray, List.set_cons_zero, List.set_cons_succ]
      have q1 := R4.out.keep (h0.block _ R4.out.lt)
      refine lone 2 (by kernel_rfl) rfl (fun K' hK' => step_app_own rfl (.tmp 55) (.tmp 56) rfl w6.heap.size (.slice none 0 0) _ _ _ [] x rfl (by rw [HXX.out]; rfl) (Own.nil _ _) (q1.b32 HXX.out) (by rw [HXX.out]; simp) h0.size (fun vb w7 hob hgb => ?_))
      rw [List.nil_append] at hob
      have h7 : Below w6.heap.size w6 w7 := h0.grown hgb h0.size (fun k hk => by cases hk)
      refine hK' _ _ trivial ?_
      simp only [Act.put, List.setIfInBounds_toArray]
      clear hK' hgb q1
      have q2 := R3.out.keep (h7.block _ R3.out.lt)
      refine lone 4 (by kernel_rfl) rfl (fun K' hK' => step_app_own rfl (.tmp 57) (.tmp 58) rfl w6.heap.size vb _ _ _ x X rfl (by rw [HXL.out]; rfl) hob (q2.b32 HXL.out) (by rw [HXX.out, HXL.out]; simp) h7.size (fun vc w8 hoc hgc => ?_))
      have h8 : Below w6.heap.size w6 w8 := below_own h7 hgc hob (Nat.le_refl _) h7.size
      obtain ⟨Ac, cc, ec, hyc⟩ := hoc.byt
      subst ec
      have hbl : (x ++ X).length = 64 := by rw [List.length_append, HXX.out, HXL.out]
      rw [hbl] at hoc
      refine hK' _ _ trivial ?_
      simp only [Act.put]
      clear hK' hgc q2 hob h7 h0
      rw [hbl]
      refine tk_assign 5 15 (.tmp 59) (.slice Ac 64 cc) rfl (by kernel_rfl) (by kernel_rfl) (by kernel_rfl) (fun _ _ _ _ h => h) rfl rfl rfl rfl trivial ?_
      simp only [Act.put]
      refine wpAnyH_done (by kernel_rfl) (NoPanic.normal ?_) _
      have HBY := Lib.hid (hyc.keep (w' := w8) (S' := (· < w8.heap.size)) fun j hj => ⟨hj.2, rfl⟩)
      have HBY0 := Lib.hid hyc
      have HB8 := Lib.hid h8
      have h8z := h8.size
      clear hoc hyc h8
      obtain ⟨Y, hY⟩ : ∃ Y, x ++ X = Y := ⟨_, rfl⟩
      rw [hY] at HBY HBY0 hbl
      have HYL := Lib.hid hbl
      have HYC := Lib.hid (show noded x X = tagd nodeT.data.toList Y by rw [← hY]; rfl)
      rw [hY] at HSS
      clear hY hbl
      have HO8 := Lib.hid (HO6.out.step (HB8.out.mono (Nat.le_refl _)))
      have hbn : Below w8.heap.size w8 (w8.alloc (.cells (stC (nodeT, Y)).toArray 78)) := (Below.refl _ _).alloc (Nat.le_refl _) _
      have hsn : (w8.alloc (.cells (stC (nodeT, Y)).toArray 78)).heap[w8.heap.size]? = some (.cells (stC (nodeT, Y)).toArray 78 (0, 0)) := heap_alloc_new w8 _
      have HON := Lib.hid (HO8.out.step hbn)
      have HGN := Lib.hid (show Grown w (w8.alloc (.cells (stC (nodeT, Y)).toArray 78)) v from (HG6.out.trans (Grown.of (v := v) (HB8.out.mono (Nat.le_refl _))) (.refl _ _)).trans (Grown.of hbn) (.refl _ _))
      have HAN := Lib.hid (show ∀ j, j < w6.heap.size → (w8.alloc (.cells (stC (nodeT, Y)).toArray 78)).heap[j]? = w6.heap[j]? from fun j hj => (hbn.block j (by omega)).trans (HB8.out.block j hj))
      have HBY9 := Lib.hid (show ∀ ww, Grown (w8.alloc (.cells (stC (nodeT, Y)).toArray 78)) ww v5 → Byt ww (· < ww.heap.size) Y Ac cc from fun ww hg => HBY0.out.keep fun j hj => by
        have hj8 : j < (w8.alloc (.cells (stC (nodeT, Y)).toArray 78)).heap.size := by simp; omega
        refine ⟨Nat.lt_of_lt_of_le hj8 hg.size, (hg.keep hj8 fun e => ?_).trans (hbn.block j hj.2)⟩
        have := (HO6.out.lt _ e).2
        omega)
      have hzn : (w8.alloc (.cells (stC (nodeT, Y)).toArray 78)).heap.size = w8.heap.size + 1 := by simp
      have HZN := Lib.hid hzn
      clear hzn hbn
      have hcv := conv_str HBY.out HYL.out (by omega)
      go_wp2_with (first
        | (refine wl_val rfl (.string ⟨Y.toArray⟩) (ev_str (.tmp 83) _ _ _ Y (by rw [HYL.out]; omega) rfl (by rw [HYL.out]; rfl) HBY.out) ?_; try simp only [Act.put, List.setIfInBounds_toArray, List.set_cons_zero, List.set_cons_succ])
        | (refine wl_val rfl (.agg #[.string nodeT, .string ⟨Y.toArray⟩]) (ev_buildS nodeT (.tmp 84) _ rfl rfl) ?_; try simp only [Act.put, List.setIfInBounds_toArray, List.set_cons_zero, List.set_cons_succ])
        | (refine bs_S rfl (.tmp 85) rfl (nodeT, Y) rfl ?_; try simp only [Act.put, List.setIfInBounds_toArray, List.set_cons_zero, List.set_cons_succ])
        | (at_builtin; refine app_S rfl (.tmp 82) (.tmp 86) rfl base w8.heap.size v5 (L ++ S) (nodeT, Y) rfl rfl HON.out hsn (by rw [List.length_append, HSL.out]; omega) (by rw [HZN.out]; omega) ?_; intro v9 w9 ho9 hg9 hn9; have HO9 := Lib.hid ho9; have HG9 := Lib.hid hg9; have HN9 := Lib.hid hn9; clear ho9 hg9 hn9; try simp only [Act.put, List.setIfInBounds_toArray, List.set_cons_zero, List.set_cons_succ]))
      have hgr : Grown w w9 v := HGN.out.trans (v' := v5) HG9.out HNX5.out
      have hnx : Next w v v9 := Next.trans HNX5.out (HN9.out.elim .inl fun e => .inr ⟨_, e, Nat.le_refl _⟩) (by rw [HZN.out]; have := HBW.out.size; omega)
      have hk9 : ∀ j, w.heap.size ≤ j → j < W4.heap.size → w9.heap[j]? = w6.heap[j]? := fun j h1 h2 => (Grown.keep (v := v5) HG9.out (by rw [HZN.out]; omega) (HV5N.out j h1 h2)).trans (HAN.out j (by omega))
      have hk0 : w9.heap[0]? = w6.heap[0]? := (Grown.keep (v := v5) HG9.out (by rw [HZN.out]; omega) (fun e => by have := (HO6.out.lt _ e).1; omega)).trans (HAN.out 0 (by have := RK.out.lt; omega))
      have p2 := R2.out.keep (hk9 _ (by omega) (by omega))
      have hby9 : Byt w9 (· < w9.heap.size) Y Ac cc := HBY9.out w9 HG9.out
      have C := tagged_all nodeT Y Ac cc w9 (by decide) (by rw [HYL.out]; omega) hby9 (RK.out.keep hk0)
      rw [HYL.out] at C
      have CT := Lib.hid C
      have P2 := Lib.hid p2
      have HGR := Lib.hid hgr
      have HNX := Lib.hid hnx
      clear C hgr hnx hk9 hk0 p2 hby9 hsn
      refine CT.out.mono ?_
      rintro e w10 ⟨rfl, hb10⟩
      rw [← HYC.out, ← HC.out]
      have p10 := P2.out.keep (hb10.block _ P2.out.lt)
      have HCL := Lib.hid (show (clm (f + 1) d i n P).length = 32 from clm_len _ _ _ _ _)
      have p11 := p10.setRow (clm (f + 1) d i n P)
      have ho10 := OwnS.step HO9.out hb10
      have hv9n : v9.ownBlock ≠ some (w.heap.size + 1) := by
        rcases HNX.out with e | ⟨g, e, hg⟩
        · rw [e]; intro e'; have := (HOV.out _ e').2; omega
        · rcases HN9.out with e2 | e2
          · rw [e2]; exact HV5N.out _ (by omega) (by omega)
          · rw [e2]; intro e'; injection e' with e'; rw [HZN.out] at e'; omega
      have HOF := Lib.hid (show OwnS (w10.setRow (w.heap.size + 1) (U (clm (f + 1) d i n P)).toArray) base v9 (L ++ climbS (f + 1) d i n P) from by
        rw [HSS.out, ← List.append_assoc]
        exact ho10.kept fun g hg => setRow_keep _ _ _ _ (fun e => hv9n (by rw [hg, e])))
      have HFIN := Lib.hid (show Grown w (w10.setRow (w.heap.size + 1) (U (clm (f + 1) d i n P)).toArray) v from by
        obtain ⟨g1, g2, g3, g4, g5⟩ := HGR.out.trans (v' := v9) (Grown.of hb10) HNX.out
        exact ⟨g1, g2, g3, by rw [setRow_size]; exact g4, fun k hk hne => (setRow_keep _ _ _ _ (by omega)).trans (g5 k hk hne)⟩)
      clear CT hb10 ho10 hv9n
      go_wp2_with (refine store_B rfl (.tmp 11) (.tmp 89) rfl (w.heap.size + 1) (flb 32 []) (clm (f + 1) d i n P) rfl rfl 23 p10 HCL.out (by simp [flb]) ?_)
      exact bodyPost_ret (res_sd rfl _ _ _ _ _ _ rfl rfl p11 HCL.out) rfl ⟨v9, rfl, HOF.out, HFIN.out, HNX.out⟩
    · have hikb : ¬ (i : Int) < K := by omega
      go_upto_region 10 with fail
      generalize hW4' : World.alloc _ _ = W4'
      have e9 : W4' = W4 := hW4'.symm.trans HW4.out
      clear hW4'
      rw [e9]
      clear e9 W4' HW4
      have HC := Lib.hid (HC2.out hik)
      have HSS := Lib.hid (HS2.out hik)
      have hpl := HP2.out hik
      clear HC1 HC2 HS1 HS2 HP1 HP2
      have C := IH.out L v base d (i - K) (n - K) D (some ⟨b, o, none⟩) cap W4.drew HD.out (by omega) (by omega) (by omega) (by rw [hdn]; have := HMN.out; omega) hb0 (by rw [hdn]; have := HMN.out; omega) HO4.out (by have := HBW.out.size; show base ≤ W4.heap.size; omega) HDL4.out HK4.out
      rw [hdn] at C
      have CC := Lib.hid C
      clear C IH HDL4
      obtain ⟨x, hx⟩ : ∃ x, clm f d (i - K) (n - K) D = x := ⟨_, rfl⟩
      obtain ⟨S, hS'⟩ : ∃ S, climbS f d (i - K) (n - K) D = S := ⟨_, rfl⟩
      have HXX := Lib.hid (show x.length = 32 by rw [← hx]; exact clm_len _ _ _ _ _)
      have HSL := Lib.hid (show S.length = N + 1 by rw [← hS', climbS_le f _ _ _ _ (by rw [hdn]; have := HMN.out; omega), hdn])
      rw [hx, hS'] at CC
      rw [hx, hS'] at HSS
      rw [hx] at HC
      clear hx hS'
      have hL2 : L.length + N + 1 ≤ 10000 := by have := HMN.out; omega
      refine wp_region_noPanic ?_
      have H0 := Lib.hid (show RowB W4.drew w.heap.size 23 d from HBX.out.d)
      refine wp_region_held_drew (S := fun ww => RowB ww w.heap.size 23 d) (by kernel_rfl) H0.out (fun _ => ?_)
      have hzd : W4.drew.heap.size = W4.heap.size := rfl
      have hgd : Grown W4 W4.drew v := ⟨rfl, rfl, rfl, Nat.le_refl _, fun _ _ _ => rfl⟩
      obtain ⟨V0, hV0⟩ : ∃ V0, W4.drew = V0 := ⟨_, rfl⟩
      rw [hV0] at H0 hzd hgd CC ⊢
      clear hV0
      refine tk_move 0 61 (.tmp 0) v rfl (by kernel_rfl) (by kernel_rfl) (by kernel_rfl) (fun _ _ _ _ h => h) rfl rfl rfl rfl H0.out ?_
      simp only [Act.put, List.setIfInBounds_toArray, List.set_cons_zero, List.set_cons_succ]
      refine tk_load 1 62 (.tmp 6) w.heap.size (0) d rfl (by kernel_rfl) (by kernel_rfl) (by kernel_rfl) (fun _ _ _ _ h => h) rfl rfl rfl rfl (fun ww h => h.range) HD.out H0.out ?_
      simp only [Act.put, List.setIfInBounds_toArray, List.set_cons_zero, List.set_cons_succ]
      refine tk_move 2 63 (.tmp 2) (.int .i64 i) rfl (by kernel_rfl) (by kernel_rfl) (by kernel_rfl) (fun _ _ _ _ h => h) rfl rfl rfl rfl H0.out ?_
      simp only [Act.put, List.setIfInBounds_toArray, List.set_cons_zero, List.set_cons_succ]
      refine tk_move 3 64 (.tmp 13) (.int .i64 K) rfl (by kernel_rfl) (by kernel_rfl) (by kernel_rfl) (fun _ _ _ _ h => h) rfl rfl rfl rfl H0.out ?_
      simp only [Act.put, List.setIfInBounds_toArray, List.set_cons_zero, List.set_cons_succ]
      refine tk_val 4 65 (.int .i64 ((i - K : Nat) : Int)) rfl (by kernel_rfl) (by kernel_rfl) (by kernel_rfl) (fun _ _ _ _ h => h) rfl rfl (fun _ _ => ev_subN (.tmp 63) (.tmp 64) i K (i - K) (by omega) (by omega) rfl rfl rfl) H0.out ?_
      simp only [Act.put, List.setIfInBounds_toArray, List.set_cons_zero, List.set_cons_succ]
      refine tk_move 5 66 (.tmp 3) (.int .i64 n) rfl (by kernel_rfl) (by kernel_rfl) (by kernel_rfl) (fun _ _ _ _ h => h) rfl rfl rfl rfl H0.out ?_
      simp only [Act.put, List.setIfInBounds_toArray, List.set_cons_zero, List.set_cons_succ]
      refine tk_move 6 67 (.tmp 13) (.int .i64 K) rfl (by kernel_rfl) (by kernel_rfl) (by kernel_rfl) (fun _ _ _ _ h => h) rfl rfl rfl rfl H0.out ?_
      simp only [Act.put, List.setIfInBounds_toArray, List.set_cons_zero, List.set_cons_succ]
      refine tk_val 7 68 (.int .i64 ((n - K : Nat) : Int)) rfl (by kernel_rfl) (by kernel_rfl) (by kernel_rfl) (fun _ _ _ _ h => h) rfl rfl (fun _ _ => ev_subN (.tmp 66) (.tmp 67) n K (n - K) (by omega) (by omega) rfl rfl rfl) H0.out ?_
      simp only [Act.put, List.setIfInBounds_toArray, List.set_cons_zero, List.set_cons_succ]
      refine tk_move 8 69 (.tmp 4) (.slice (some ⟨b, o, none⟩) M cap) rfl (by kernel_rfl) (by kernel_rfl) (by kernel_rfl) (fun _ _ _ _ h => h) rfl rfl rfl rfl H0.out ?_
      simp only [Act.put, List.setIfInBounds_toArray, List.set_cons_zero, List.set_cons_succ]
      refine tk_move 9 70 (.tmp 4) (.slice (some ⟨b, o, none⟩) M cap) rfl (by kernel_rfl) (by kernel_rfl) (by kernel_rfl) (fun _ _ _ _ h => h) rfl rfl rfl rfl H0.out ?_
      simp only [Act.put, List.setIfInBounds_toArray, List.set_cons_zero, List.set_cons_succ]
      refine tk_val 10 71 (.int .i64 M) rfl (by kernel_rfl) (by kernel_rfl) (by kernel_rfl) (fun _ _ _ _ h => h) rfl rfl (fun _ _ => ev_len (.tmp 70) _ M cap rfl rfl) H0.out ?_
      simp only [Act.put, List.setIfInBounds_toArray, List.set_cons_zero, List.set_cons_succ]
      refine tk_val 11 72 (.int .i64 N) rfl (by kernel_rfl) (by kernel_rfl) (by kernel_rfl) (fun _ _ _ _ h => h) rfl rfl (fun _ _ => ev_subM (.tmp 71) M N HMN.out (by omega) rfl rfl) H0.out ?_
      simp only [Act.put, List.setIfInBounds_toArray, List.set_cons_zero, List.set_cons_succ]
      refine tk_val 12 73 (.slice (some ⟨b, o, none⟩) N cap) rfl (by kernel_rfl) (by kernel_rfl) (by kernel_rfl) (fun _ _ _ _ h => h) rfl rfl (fun _ _ => ev_slice_to (.tmp 69) (.tmp 72) b o M cap N rfl rfl rfl (by omega)) H0.out ?_
      simp only [Act.put, List.setIfInBounds_toArray, List.set_cons_zero, List.set_cons_succ]
      refine lone 13 (by kernel_rfl) rfl (fun K' hK' => to_call 57 74 _ _ #[v, .agg (U d).toArray, .int .i64 ((i - K : Nat) : Int), .int .i64 ((n - K : Nat) : Int), .slice (some ⟨b, o, none⟩) N cap] _ rfl rfl rfl rfl enters_lclimb CC.out (fun e w5 hq => ?_))
      obtain ⟨v5, hv5, ho5, hg5, hn5⟩ := hq
      refine ⟨_, hv5, ?_⟩
      have hgr5 : Grown W4 w5 v := hgd.trans hg5 (.refl _ _)
      have hnx5 : Next W4 v v5 := Next.trans (.refl _ _) hn5 (by omega)
      have hv5n : ∀ j, w.heap.size ≤ j → j < W4.heap.size → v5.ownBlock ≠ some j := fun j h1 h2 => by
        rcases hnx5 with e | ⟨g, e, hg⟩
        · rw [e]; intro e'; have := (HOV.out _ e').2; omega
        · rw [e]; intro e'; injection e' with e'; omega
      have hbk : ∀ j, w.heap.size ≤ j → j < W4.heap.size → w5.heap[j]? = W4.heap[j]? := fun j h1 h2 => hgr5.keep h2 fun e => by have := (HOV.out _ e).2; omega
      have p1 := HBX.out.d.keep (hbk _ (by omega) (by omega))
      have p2 := HBX.out.r.keep (hbk _ (by omega) (by omega))
      have p3 := HBX.out.l.keep (hbk _ (by omega) (by omega))
      have p4 := HBX.out.x.keep (hbk _ (by omega) (by omega))
      have pk := HK4.out.keep (hgr5.keep (by omega) (fun e => by have := (HOV.out _ e).1; omega))
      refine hK' _ _ p1 ?_
      simp only [Act.put, List.setIfInBounds_toArray, List.set_cons_zero, List.set_cons_succ]
      clear hK' hv5 hg5 hn5
      refine tk_move 14 60 (.tmp 74) (.tuple #[v5, .agg (U x).toArray]) rfl (by kernel_rfl) (by kernel_rfl) (by kernel_rfl) (fun _ _ _ _ h => h) rfl rfl rfl rfl p1 ?_
      simp only [Act.put, List.setIfInBounds_toArray, List.set_cons_zero, List.set_cons_succ]
      refine tk_val 15 75 v5 rfl (by kernel_rfl) (by kernel_rfl) (by kernel_rfl) (fun _ _ _ _ h => h) rfl rfl (fun _ _ => ev_extract (.tmp 60) 0 _ _ rfl rfl rfl) p1 ?_
      simp only [Act.put, List.setIfInBounds_toArray, List.set_cons_zero, List.set_cons_succ]
      refine tk_val 16 76 (.agg (U x).toArray) rfl (by kernel_rfl) (by kernel_rfl) (by kernel_rfl) (fun _ _ _ _ h => h) rfl rfl (fun _ _ => ev_extract (.tmp 60) 1 _ _ rfl rfl rfl) p1 ?_
      simp only [Act.put, List.setIfInBounds_toArray, List.set_cons_zero, List.set_cons_succ]
      refine tk_assign 17 0 (.tmp 75) v5 rfl (by kernel_rfl) (by kernel_rfl) (by kernel_rfl) (fun _ _ _ _ h => h) rfl rfl rfl rfl p1 ?_
      simp only [Act.put, List.setIfInBounds_toArray, List.set_cons_zero]
      have p5 := p4.setRow x
      have hk6 : ∀ j, j ≠ W3.heap.size → (w5.setRow W3.heap.size (U x).toArray).heap[j]? = w5.heap[j]? := fun j hj => setRow_keep _ _ _ _ hj
      refine lone 18 (by kernel_rfl) rfl (fun K' hK' => to_store (.tmp 14) (.tmp 76) rfl rfl rfl W3.heap.size (flb 32 []) x rfl rfl p4 (by simp [flb]) HXX.out ?_)
      refine hK' _ _ (p1.keep (hk6 _ (by omega))) ?_
      clear hK'
      refine wpAnyH_done (by kernel_rfl) (NoPanic.normal ?_) _
      have hz6 : (w5.setRow W3.heap.size (U x).toArray).heap.size = w5.heap.size := setRow_size _ _ _
      have R2 := Lib.hid (p2.keep (hk6 _ (by omega)))
      have R3 := Lib.hid (p3.keep (hk6 _ (by omega)))
      have R4 := Lib.hid p5
      have RK := Lib.hid (pk.keep (hk6 0 (by omega)))
      have HO6 := Lib.hid (ho5.kept (w' := w5.setRow W3.heap.size (U x).toArray) fun g hg => hk6 g (fun e => hv5n W3.heap.size (by omega) (by omega) (by rw [hg, e])))
      have HG6 := Lib.hid (show Grown w (w5.setRow W3.heap.size (U x).toArray) v from by
        obtain ⟨g1, g2, g3, g4, g5⟩ := (Grown.of HBW.out : Grown w W4 v).trans hgr5 (.refl _ _)
        exact ⟨g1, g2, g3, by rw [hz6]; exact g4, fun k hk hne => (hk6 k (by omega)).trans (g5 k hk hne)⟩)
      have hz5 : W4.heap.size ≤ w5.heap.size := hgr5.size
      have HV5N := Lib.hid hv5n
      have HNX5 := Lib.hid (show Next w v v5 from Next.trans (.refl _ _) hnx5 HBW.out.size)
      have hbase6 : base ≤ (w5.setRow W3.heap.size (U x).toArray).heap.size := by rw [hz6]; have := HBW.out.size; omega
      clear p1 p2 p3 p4 p5 pk hk6 hbk hv5n hnx5 hgr5 ho5 H0 HBX HO4 HK4 hgd CC
      obtain ⟨w6, hw6⟩ : ∃ w6, w5.setRow W3.heap.size (U x).toArray = w6 := ⟨_, rfl⟩
      rw [hw6] at hz6 R2 R3 R4 RK HO6 HG6 hbase6 ⊢
      clear hw6
      go_upto_region 11 with fail
      refine wp_region_noPanic ?_
      have h0 : Below w6.heap.size w6 w6.drew := (Below.refl _ _).drew
      refine wp_region_held_drew (S := fun _ => True) (by kernel_rfl) trivial (fun _ => ?_)
      generalize w6.drew = V1 at h0 ⊢
      refine tk_move 0 77 (.tmp 15) (.slice none 0 0) rfl (by kernel_rfl) (by kernel_rfl) (by kernel_rfl) (fun _ _ _ _ h => h) rfl rfl rfl rfl trivial ?_
      simp only [Act.put, List.setIfInBounds_toArray, List.set_cons_zero, List.set_cons_succ]
      refine tk_val 1 78 (.slice (some ⟨W1.heap.size, 0, none⟩) 32 32) rfl (by kernel_rfl) (by kernel_rfl) (by kernel_rfl) (fun _ _ _ _ h => h) rfl rfl (fun _ _ => ev_arr (.tmp 12) _ rfl rfl) trivial ?_
      simp only [Act.put, List.setIfInBounds_toArray, List.set_cons_zero, List.set_cons_succ]
      refine tk_val 3 80 (.slice (some ⟨W3.heap.size, 0, none⟩) 32 32) rfl (by kernel_rfl) (by kernel_rfl) (by kernel_rfl) (fun _ _ _ _ h => h) rfl rfl (fun _ _ => ev_arr (.tmp 14) _ rfl rfl) trivial ?_
      simp only [Act.put, List.setIfInBounds_toArray, List.set_cons_zero, List.set_cons_succ]
      have q1 := R3.out.keep (h0.block _ R3.out.lt)
      refine lone 2 (by kernel_rfl) rfl (fun K' hK' => step_app_own rfl (.tmp 77) (.tmp 78) rfl w6.heap.size (.slice none 0 0) _ _ _ [] X rfl (by rw [HXL.out]; rfl) (Own.nil _ _) (q1.b32 HXL.out) (by rw [HXL.out]; simp) h0.size (fun vb w7 hob hgb => ?_))
      rw [List.nil_append] at hob
      have h7 : Below w6.heap.size w6 w7 := h0.grown hgb h0.size (fun k hk => by cases hk)
      refine hK' _ _ trivial ?_
      simp only [Act.put, List.setIfInBounds_toArray]
      clear hK' hgb q1
      have q2 := R4.out.keep (h7.block _ R4.out.lt)
      refine lone 4 (by kernel_rfl) rfl (fun K' hK' => step_app_own rfl (.tmp 79) (.tmp 80) rfl w6.heap.size vb _ _ _ X x rfl (by rw [HXX.out]; rfl) hob (q2.b32 HXX.out) (by rw [HXL.out, HXX.out]; simp) h7.size (fun vc w8 hoc hgc => ?_))
      have h8 : Below w6.heap.size w6 w8 := below_own h7 hgc hob (Nat.le_refl _) h7.size
      obtain ⟨Ac, cc, ec, hyc⟩ := hoc.byt
      subst ec
      have hbl : (X ++ x).length = 64 := by rw [List.length_append, HXL.out, HXX.out]
      rw [hbl] at hoc
      refine hK' _ _ trivial ?_
      simp only [Act.put]
      clear hK' hgc q2 hob h7 h0
      rw [hbl]
      refine tk_assign 5 15 (.tmp 81) (.slice Ac 64 cc) rfl (by kernel_rfl) (by kernel_rfl) (by kernel_rfl) (fun _ _ _ _ h => h) rfl rfl rfl rfl trivial ?_
      simp only [Act.put]
      refine wpAnyH_done (by kernel_rfl) (NoPanic.normal ?_) _
      have HBY := Lib.hid (hyc.keep (w' := w8) (S' := (· < w8.heap.size)) fun j hj => ⟨hj.2, rfl⟩)
      have HBY0 := Lib.hid hyc
      have HB8 := Lib.hid h8
      have h8z := h8.size
      clear hoc hyc h8
      obtain ⟨Y, hY⟩ : ∃ Y, X ++ x = Y := ⟨_, rfl⟩
      rw [hY] at HBY HBY0 hbl
      have HYL := Lib.hid hbl
      have HYC := Lib.hid (show noded X x = tagd nodeT.data.toList Y by rw [← hY]; rfl)
      rw [hY] at HSS
      clear hY hbl
      have HO8 := Lib.hid (HO6.out.step (HB8.out.mono (Nat.le_refl _)))
      have hbn : Below w8.heap.size w8 (w8.alloc (.cells (stC (nodeT, Y)).toArray 78)) := (Below.refl _ _).alloc (Nat.le_refl _) _
      have hsn : (w8.alloc (.cells (stC (nodeT, Y)).toArray 78)).heap[w8.heap.size]? = some (.cells (stC (nodeT, Y)).toArray 78 (0, 0)) := heap_alloc_new w8 _
      have HON := Lib.hid (HO8.out.step hbn)
      have HGN := Lib.hid (show Grown w (w8.alloc (.cells (stC (nodeT, Y)).toArray 78)) v from (HG6.out.trans (Grown.of (v := v) (HB8.out.mono (Nat.le_refl _))) (.refl _ _)).trans (Grown.of hbn) (.refl _ _))
      have HAN := Lib.hid (show ∀ j, j < w6.heap.size → (w8.alloc (.cells (stC (nodeT, Y)).toArray 78)).heap[j]? = w6.heap[j]? from fun j hj => (hbn.block j (by omega)).trans (HB8.out.block j hj))
      have HBY9 := Lib.hid (show ∀ ww, Grown (w8.alloc (.cells (stC (nodeT, Y)).toArray 78)) ww v5 → Byt ww (· < ww.heap.size) Y Ac cc from fun ww hg => HBY0.out.keep fun j hj => by
        have hj8 : j < (w8.alloc (.cells (stC (nodeT, Y)).toArray 78)).heap.size := by simp; omega
        refine ⟨Nat.lt_of_lt_of_le hj8 hg.size, (hg.keep hj8 fun e => ?_).trans (hbn.block j hj.2)⟩
        have := (HO6.out.lt _ e).2
        omega)
      have hzn : (w8.alloc (.cells (stC (nodeT, Y)).toArray 78)).heap.size = w8.heap.size + 1 := by simp
      have HZN := Lib.hid hzn
      clear hzn hbn
      have hcv := conv_str HBY.out HYL.out (by omega)
      go_wp2_with (first
        | (refine wl_val rfl (.string ⟨Y.toArray⟩) (ev_str (.tmp 83) _ _ _ Y (by rw [HYL.out]; omega) rfl (by rw [HYL.out]; rfl) HBY.out) ?_; try simp only [Act.put, List.setIfInBounds_toArray, List.set_cons_zero, List.set_cons_succ])
        | (refine wl_val rfl (.agg #[.string nodeT, .string ⟨Y.toArray⟩]) (ev_buildS nodeT (.tmp 84) _ rfl rfl) ?_; try simp only [Act.put, List.setIfInBounds_toArray, List.set_cons_zero, List.set_cons_succ])
        | (refine bs_S rfl (.tmp 85) rfl (nodeT, Y) rfl ?_; try simp only [Act.put, List.setIfInBounds_toArray, List.set_cons_zero, List.set_cons_succ])
        | (at_builtin; refine app_S rfl (.tmp 82) (.tmp 86) rfl base w8.heap.size v5 (L ++ S) (nodeT, Y) rfl rfl HON.out hsn (by rw [List.length_append, HSL.out]; omega) (by rw [HZN.out]; omega) ?_; intro v9 w9 ho9 hg9 hn9; have HO9 := Lib.hid ho9; have HG9 := Lib.hid hg9; have HN9 := Lib.hid hn9; clear ho9 hg9 hn9; try simp only [Act.put, List.setIfInBounds_toArray, List.set_cons_zero, List.set_cons_succ]))
      have hgr : Grown w w9 v := HGN.out.trans (v' := v5) HG9.out HNX5.out
      have hnx : Next w v v9 := Next.trans HNX5.out (HN9.out.elim .inl fun e => .inr ⟨_, e, Nat.le_refl _⟩) (by rw [HZN.out]; have := HBW.out.size; omega)
      have hk9 : ∀ j, w.heap.size ≤ j → j < W4.heap.size → w9.heap[j]? = w6.heap[j]? := fun j h1 h2 => (Grown.keep (v := v5) HG9.out (by rw [HZN.out]; omega) (HV5N.out j h1 h2)).trans (HAN.out j (by omega))
      have hk0 : w9.heap[0]? = w6.heap[0]? := (Grown.keep (v := v5) HG9.out (by rw [HZN.out]; omega) (fun e => by have := (HO6.out.lt _ e).1; omega)).trans (HAN.out 0 (by have := RK.out.lt; omega))
      have p2 := R2.out.keep (hk9 _ (by omega) (by omega))
      have hby9 : Byt w9 (· < w9.heap.size) Y Ac cc := HBY9.out w9 HG9.out
      have C := tagged_all nodeT Y Ac cc w9 (by decide) (by rw [HYL.out]; omega) hby9 (RK.out.keep hk0)
      rw [HYL.out] at C
      have CT := Lib.hid C
      have P2 := Lib.hid p2
      have HGR := Lib.hid hgr
      have HNX := Lib.hid hnx
      clear C hgr hnx hk9 hk0 p2 hby9 hsn
      refine CT.out.mono ?_
      rintro e w10 ⟨rfl, hb10⟩
      rw [← HYC.out, ← HC.out]
      have p10 := P2.out.keep (hb10.block _ P2.out.lt)
      have HCL := Lib.hid (show (clm (f + 1) d i n P).length = 32 from clm_len _ _ _ _ _)
      have p11 := p10.setRow (clm (f + 1) d i n P)
      have ho10 := OwnS.step HO9.out hb10
      have hv9n : v9.ownBlock ≠ some (w.heap.size + 1) := by
        rcases HNX.out with e | ⟨g, e, hg⟩
        · rw [e]; intro e'; have := (HOV.out _ e').2; omega
        · rcases HN9.out with e2 | e2
          · rw [e2]; exact HV5N.out _ (by omega) (by omega)
          · rw [e2]; intro e'; injection e' with e'; rw [HZN.out] at e'; omega
      have HOF := Lib.hid (show OwnS (w10.setRow (w.heap.size + 1) (U (clm (f + 1) d i n P)).toArray) base v9 (L ++ climbS (f + 1) d i n P) from by
        rw [HSS.out, ← List.append_assoc]
        exact ho10.kept fun g hg => setRow_keep _ _ _ _ (fun e => hv9n (by rw [hg, e])))
      have HFIN := Lib.hid (show Grown w (w10.setRow (w.heap.size + 1) (U (clm (f + 1) d i n P)).toArray) v from by
        obtain ⟨g1, g2, g3, g4, g5⟩ := HGR.out.trans (v' := v9) (Grown.of hb10) HNX.out
        exact ⟨g1, g2, g3, by rw [setRow_size]; exact g4, fun k hk hne => (setRow_keep _ _ _ _ (by omega)).trans (g5 k hk hne)⟩)
      clear CT hb10 ho10 hv9n
      go_wp2_with (refine store_B rfl (.tmp 11) (.tmp 89) rfl (w.heap.size + 1) (flb 32 []) (clm (f + 1) d i n P) rfl rfl 23 p10 HCL.out (by simp [flb]) ?_)
      exact bodyPost_ret (res_sd rfl _ _ _ _ _ _ rfl rfl p11 HCL.out) rfl ⟨v9, rfl, HOF.out, HFIN.out, HNX.out⟩
end Go.Proofs.YteicbdjennjcdaaDoor
