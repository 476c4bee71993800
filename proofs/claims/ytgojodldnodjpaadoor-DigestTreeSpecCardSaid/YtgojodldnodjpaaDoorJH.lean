/- Digest: DigestHalves. -/
import Derived.Test.YtgojodldnodjpaaDoorHR
import Derived.Test.YtgojodldnodjpaaDoorHL
import Derived.Test.YtgojodldnodjpaaDoorHM
import Derived.Deep.DeepCutAuto
namespace Go.Proofs.YtgojodldnodjpaaDoor
open Go.ChangeShapes Go.WideShapes Go.ChangeAt Go.WideElems Go.RowKit

theorem RowB.b32 {w : World} {b : Nat} {t : TypeId} {l : List UInt8} (h : RowB w b t l) (hl : l.length = 32) : Byt w (fun i => i = b) l (some ⟨b, 0, none⟩) 32 := by
  have := h.byt (by rw [hl]; decide)
  rwa [hl] at this
theorem two_pow_eq {n t k : Nat} (h1 : 2 ^ t < n) (h2 : n ≤ 2 * 2 ^ t) (h3 : 2 ^ k < n) (h4 : n ≤ 2 * 2 ^ k) : t = k := by
  have a : t < k + 1 := by
    rw [← Nat.pow_lt_pow_iff_right (a := 2) (by omega), Nat.pow_succ]
    omega
  have b : k < t + 1 := by
    rw [← Nat.pow_lt_pow_iff_right (a := 2) (by omega), Nat.pow_succ]
    omega
  omega
theorem hf_of_pow {n t : Nat} (h : 2 ≤ n) (hn : n ≤ 2 ^ 64) (h1 : 2 ^ t < n) (h2 : n ≤ 2 * 2 ^ t) : 2 ^ t = hf n := by
  obtain ⟨k, _, e, h3, h4, _⟩ := hf_spec n h hn
  rw [e] at h3 h4
  rw [e, two_pow_eq h1 h2 h3 h4]

theorem setRow_keep (w : World) (g k : Nat) (c : Array Value) (h : k ≠ g) : (w.setRow g c).heap[k]? = w.heap[k]? := setRow_other _ _ _ _ h

/-- two new boxes of digests, each made or not yet -/
structure St (w2 : World) (x y : Option (Nat × List UInt8)) (ww : World) : Prop where
  below : Below w2.heap.size w2 ww
  one : ∀ g l, x = some (g, l) → RowB ww g 26 l ∧ w2.heap.size ≤ g
  two : ∀ g l, y = some (g, l) → RowB ww g 26 l ∧ w2.heap.size ≤ g
  apart : ∀ g l g' l', x = some (g, l) → y = some (g', l') → g ≠ g'
theorem St.step {w2 ww w' : World} {x y : Option (Nat × List UInt8)} (h : St w2 x y ww) (hb : Below ww.heap.size ww w') : St w2 x y w' :=
  ⟨h.below.trans (hb.mono h.below.size), fun g l e => ⟨(h.one g l e).1.keep (hb.block _ (h.one g l e).1.lt), (h.one g l e).2⟩, fun g l e => ⟨(h.two g l e).1.keep (hb.block _ (h.two g l e).1.lt), (h.two g l e).2⟩, h.apart⟩
theorem zlit : (U (flb 32 [])).toArray = #[Value.int IntKind.u8 0, Value.int IntKind.u8 0, Value.int IntKind.u8 0, Value.int IntKind.u8 0, Value.int IntKind.u8 0, Value.int IntKind.u8 0, Value.int IntKind.u8 0, Value.int IntKind.u8 0, Value.int IntKind.u8 0, Value.int IntKind.u8 0, Value.int IntKind.u8 0, Value.int IntKind.u8 0, Value.int IntKind.u8 0, Value.int IntKind.u8 0, Value.int IntKind.u8 0, Value.int IntKind.u8 0, Value.int IntKind.u8 0, Value.int IntKind.u8 0, Value.int IntKind.u8 0, Value.int IntKind.u8 0, Value.int IntKind.u8 0, Value.int IntKind.u8 0, Value.int IntKind.u8 0, Value.int IntKind.u8 0, Value.int IntKind.u8 0, Value.int IntKind.u8 0, Value.int IntKind.u8 0, Value.int IntKind.u8 0, Value.int IntKind.u8 0, Value.int IntKind.u8 0, Value.int IntKind.u8 0, Value.int IntKind.u8 0] := rfl
theorem St.new1 {w2 ww : World} {y : Option (Nat × List UInt8)} (h : St w2 none y ww) : St w2 (some (ww.heap.size, flb 32 [])) y (ww.alloc (.cells #[Value.int IntKind.u8 0, Value.int IntKind.u8 0, Value.int IntKind.u8 0, Value.int IntKind.u8 0, Value.int IntKind.u8 0, Value.int IntKind.u8 0, Value.int IntKind.u8 0, Value.int IntKind.u8 0, Value.int IntKind.u8 0, Value.int IntKind.u8 0, Value.int IntKind.u8 0, Value.int IntKind.u8 0, Value.int IntKind.u8 0, Value.int IntKind.u8 0, Value.int IntKind.u8 0, Value.int IntKind.u8 0, Value.int IntKind.u8 0, Value.int IntKind.u8 0, Value.int IntKind.u8 0, Value.int IntKind.u8 0, Value.int IntKind.u8 0, Value.int IntKind.u8 0, Value.int IntKind.u8 0, Value.int IntKind.u8 0, Value.int IntKind.u8 0, Value.int IntKind.u8 0, Value.int IntKind.u8 0, Value.int IntKind.u8 0, Value.int IntKind.u8 0, Value.int IntKind.u8 0, Value.int IntKind.u8 0, Value.int IntKind.u8 0] 26)) := by
  rw [← zlit]
  exact ⟨h.below.alloc h.below.size _, fun g l e => by injection e with e; injection e with e1 e2; subst e1 e2; exact ⟨heap_alloc_new ww _, h.below.size⟩, fun g l e => ⟨(h.two g l e).1.keep (Below.heap_alloc _ _ _ (h.two g l e).1.lt), (h.two g l e).2⟩,
    fun g l g' l' e e' => by injection e with e; injection e with e1 e2; subst e1 e2; have := (h.two g' l' e').1.lt; omega⟩
theorem St.new2 {w2 ww : World} {x : Option (Nat × List UInt8)} (h : St w2 x none ww) : St w2 x (some (ww.heap.size, flb 32 [])) (ww.alloc (.cells #[Value.int IntKind.u8 0, Value.int IntKind.u8 0, Value.int IntKind.u8 0, Value.int IntKind.u8 0, Value.int IntKind.u8 0, Value.int IntKind.u8 0, Value.int IntKind.u8 0, Value.int IntKind.u8 0, Value.int IntKind.u8 0, Value.int IntKind.u8 0, Value.int IntKind.u8 0, Value.int IntKind.u8 0, Value.int IntKind.u8 0, Value.int IntKind.u8 0, Value.int IntKind.u8 0, Value.int IntKind.u8 0, Value.int IntKind.u8 0, Value.int IntKind.u8 0, Value.int IntKind.u8 0, Value.int IntKind.u8 0, Value.int IntKind.u8 0, Value.int IntKind.u8 0, Value.int IntKind.u8 0, Value.int IntKind.u8 0, Value.int IntKind.u8 0, Value.int IntKind.u8 0, Value.int IntKind.u8 0, Value.int IntKind.u8 0, Value.int IntKind.u8 0, Value.int IntKind.u8 0, Value.int IntKind.u8 0, Value.int IntKind.u8 0] 26)) := by
  rw [← zlit]
  exact ⟨h.below.alloc h.below.size _, fun g l e => ⟨(h.one g l e).1.keep (Below.heap_alloc _ _ _ (h.one g l e).1.lt), (h.one g l e).2⟩, fun g l e => by injection e with e; injection e with e1 e2; subst e1 e2; exact ⟨heap_alloc_new ww _, h.below.size⟩,
    fun g l g' l' e e' => by injection e' with e'; injection e' with e1 e2; subst e1 e2; have := (h.one g l e).1.lt; omega⟩
theorem St.new12 {w2 ww : World} (h : St w2 none none ww) : St w2 (some (ww.heap.size, flb 32 [])) (some (ww.heap.size + 1, flb 32 [])) ((ww.alloc (.cells #[Value.int IntKind.u8 0, Value.int IntKind.u8 0, Value.int IntKind.u8 0, Value.int IntKind.u8 0, Value.int IntKind.u8 0, Value.int IntKind.u8 0, Value.int IntKind.u8 0, Value.int IntKind.u8 0, Value.int IntKind.u8 0, Value.int IntKind.u8 0, Value.int IntKind.u8 0, Value.int IntKind.u8 0, Value.int IntKind.u8 0, Value.int IntKind.u8 0, Value.int IntKind.u8 0, Value.int IntKind.u8 0, Value.int IntKind.u8 0, Value.int IntKind.u8 0, Value.int IntKind.u8 0, Value.int IntKind.u8 0, Value.int IntKind.u8 0, Value.int IntKind.u8 0, Value.int IntKind.u8 0, Value.int IntKind.u8 0, Value.int IntKind.u8 0, Value.int IntKind.u8 0, Value.int IntKind.u8 0, Value.int IntKind.u8 0, Value.int IntKind.u8 0, Value.int IntKind.u8 0, Value.int IntKind.u8 0, Value.int IntKind.u8 0] 26)).alloc (.cells #[Value.int IntKind.u8 0, Value.int IntKind.u8 0, Value.int IntKind.u8 0, Value.int IntKind.u8 0, Value.int IntKind.u8 0, Value.int IntKind.u8 0, Value.int IntKind.u8 0, Value.int IntKind.u8 0, Value.int IntKind.u8 0, Value.int IntKind.u8 0, Value.int IntKind.u8 0, Value.int IntKind.u8 0, Value.int IntKind.u8 0, Value.int IntKind.u8 0, Value.int IntKind.u8 0, Value.int IntKind.u8 0, Value.int IntKind.u8 0, Value.int IntKind.u8 0, Value.int IntKind.u8 0, Value.int IntKind.u8 0, Value.int IntKind.u8 0, Value.int IntKind.u8 0, Value.int IntKind.u8 0, Value.int IntKind.u8 0, Value.int IntKind.u8 0, Value.int IntKind.u8 0, Value.int IntKind.u8 0, Value.int IntKind.u8 0, Value.int IntKind.u8 0, Value.int IntKind.u8 0, Value.int IntKind.u8 0, Value.int IntKind.u8 0] 26)) := by
  have := h.new1.new2
  rwa [World.size_alloc] at this
theorem St.set1 {w2 ww : World} {y : Option (Nat × List UInt8)} {g : Nat} {l : List UInt8} (h : St w2 (some (g, l)) y ww) (l' : List UInt8) : St w2 (some (g, l')) y (ww.setRow g (U l').toArray) :=
  ⟨below_setRow h.below (h.one g l rfl).2 _, fun k m e => by injection e with e; injection e with e1 e2; subst e1 e2; exact ⟨(h.one g l rfl).1.setRow l', (h.one g l rfl).2⟩,
    fun k m e => ⟨(h.two k m e).1.keep (setRow_other _ _ _ _ (h.apart g l k m rfl e).symm), (h.two k m e).2⟩, fun k m k' m' e e' => by injection e with e; injection e with e1 e2; subst e1 e2; exact h.apart g l k' m' rfl e'⟩
theorem St.set2 {w2 ww : World} {x : Option (Nat × List UInt8)} {g : Nat} {l : List UInt8} (h : St w2 x (some (g, l)) ww) (l' : List UInt8) : St w2 x (some (g, l')) (ww.setRow g (U l').toArray) :=
  ⟨below_setRow h.below (h.two g l rfl).2 _, fun k m e => ⟨(h.one k m e).1.keep (setRow_other _ _ _ _ (h.apart k m g l e rfl)), (h.one k m e).2⟩, fun k m e => by injection e with e; injection e with e1 e2; subst e1 e2; exact ⟨(h.two g l rfl).1.setRow l', (h.two g l rfl).2⟩,
    fun k m k' m' e e' => by injection e' with e'; injection e' with e1 e2; subst e1 e2; exact h.apart k m g l e rfl⟩

theorem St.swap {w2 ww : World} {x y : Option (Nat × List UInt8)} (h : St w2 x y ww) : St w2 y x ww := ⟨h.below, h.two, h.one, fun g l g' l' e e' => (h.apart g' l' g l e' e).symm⟩
theorem St.drew {w2 ww : World} {x y : Option (Nat × List UInt8)} (h : St w2 x y ww) : St w2 x y ww.drew := ⟨h.below.drew, h.one, h.two, h.apart⟩
theorem St.base (w2 : World) : St w2 none none w2 := ⟨Below.refl _ _, (fun _ _ e => by cases e), (fun _ _ e => by cases e), (fun _ _ _ _ e _ => by cases e)⟩
theorem St.none (w2 : World) : St w2 none none w2.drew := ⟨(Below.refl _ _).drew, (fun _ _ e => by cases e), (fun _ _ e => by cases e), (fun _ _ _ _ e _ => by cases e)⟩
def Sto (W : World) (g : Nat) (l : List UInt8) : Prop :=
  (storeVar 26 ⟨g, 0, none⟩ (.agg (U l).toArray)).run Tryd.prog W = .ok () (W.setRow g (U l).toArray) ∧ (storeCells ⟨g, 0, none⟩ (U l) 0).run Tryd.prog W = .ok () (W.setRow g (U l).toArray)
theorem St.sto1 {w2 ww : World} {y : Option (Nat × List UInt8)} {g : Nat} {l : List UInt8} (h : St w2 (some (g, l)) y ww) (hl : l.length = 32) (l' : List UInt8) (hl' : l'.length = 32) : Sto ww g l' := st_row ww g 26 l l' (h.one _ _ rfl).1 hl hl'
theorem St.sto2 {w2 ww : World} {x : Option (Nat × List UInt8)} {g : Nat} {l : List UInt8} (h : St w2 x (some (g, l)) ww) (hl : l.length = 32) (l' : List UInt8) (hl' : l'.length = 32) : Sto ww g l' := h.swap.sto1 hl l' hl'
theorem St.stores {w2 W : World} {g h : Nat} (H : St w2 (some (g, flb 32 [])) (some (h, flb 32 [])) W) (a b : List UInt8) (ha : a.length = 32) (hb : b.length = 32) :
    Sto W g a ∧ Sto (W.setRow g (U a).toArray) h b ∧ Sto W h b ∧ Sto (W.setRow h (U b).toArray) g a :=
  ⟨H.sto1 (by simp [flb]) a ha, (H.set1 a).sto2 (by simp [flb]) b hb, H.sto2 (by simp [flb]) b hb, (H.set2 b).sto1 (by simp [flb]) a ha⟩

theorem step_store_B {ops : Array Oper} {o : Oper} {a : Act} {K : Act → World → Prop} {Q : Exit → Act → World → Prop} {E : Prop} {w : World} (hgd : o.guard = none) (x y : Operand) (ho : o.op = .store 26 x y)
    (g : Nat) (l l' : List UInt8) (hx : a.eval x = .pointer (some ⟨g, 0, none⟩)) (hy : a.eval y = .agg (U l').toArray) (h : RowB w g 26 l) (hl : l.length = 32) (hl' : l'.length = 32)
    (hK : K (a.put o.dst undef) (w.setRow g (U l').toArray)) : if Region.wanted o (yielded ops a.tmps) = true then Oper.wp Tryd.prog o a w K Q else E := by
  have hw : Region.wanted o (yielded ops a.tmps) = true := by simp [Region.wanted, hgd]
  rw [if_pos hw]
  exact wp_store_row 26 x y ho g _ hx hy 26 _ h (by rw [sz32, U_size, hl']) (by rw [U_size, U_size, hl, hl']) (U_ones l') hK
theorem step_alloc_B {ops : Array Oper} {o : Oper} {a : Act} {K : Act → World → Prop} {Q : Exit → Act → World → Prop} {E : Prop} {w : World} (hgd : o.guard = none) (ho : o.op = .alloc 26)
    (hK : K (a.put o.dst (.pointer (some ⟨w.heap.size, 0, none⟩))) (w.alloc (.cells (U (flb 32 [])).toArray 26))) : if Region.wanted o (yielded ops a.tmps) = true then Oper.wp Tryd.prog o a w K Q else E := by
  have hw : Region.wanted o (yielded ops a.tmps) = true := by simp [Region.wanted, hgd]
  rw [if_pos hw]
  unfold Oper.wp
  simp [execOp, ho, Result.andThen]
  exact hK

set_option maxRecDepth 100000 in
set_option maxHeartbeats 3200000 in
theorem halves_all (l : List UInt8) (A : Option Addr) (cap : Nat) (w : World) (hl : Byt w (· < w.heap.size) l A cap) (hk : KR w Kt) :
    Calls Tryd.prog 7 #[.slice A l.length cap] w fun e w' => e = .returned (.bool true) ∧ Below w.heap.size w w' := by
  have HL := Lib.hid hl
  have HK := Lib.hid hk
  have hlt0 := hk.lt
  have S0 := Lib.hid (sane_all w hk)
  clear hl hk
  go_enter Tryd.func7, Tryd.ntmps7
  go_wp2_with fail
  refine S0.out.mono ?_
  rintro e w1 ⟨rfl, hb1⟩
  have hz1 := hb1.size
  have D0 := Lib.hid (digestsOf_all l A cap w1 (HL.out.keep fun i hi => ⟨by omega, hb1.block i hi⟩))
  have HB1 := Lib.hid hb1
  clear hb1 S0
  go_wp2_with fail
  refine D0.out.mono ?_
  rintro e w2 ⟨v, L, rfl, ho, hll, hb2⟩
  obtain ⟨A2, c2, rfl, hdl⟩ := ho.dl
  have hz2 := hb2.size
  have hn24 : L.length ≤ 24 := by omega
  have HB2 := Lib.hid (HB1.out.trans (hb2.mono hz1))
  have HDL := Lib.hid hdl
  have hcap := hdl.1
  have hcm := hdl.2.1
  have KEEP := Lib.hid (show ∀ ww, Below w2.heap.size w2 ww → DL ww (· < ww.heap.size) L A2 c2 ∧ KR ww Kt ∧ Below w.heap.size w ww from fun ww h => by
    have hs := h.size
    exact ⟨HDL.out.keep fun i hi => ⟨by omega, h.block i hi.2⟩, HK.out.keep ((h.block 0 (by omega)).trans (HB2.out.block 0 hlt0)), HB2.out.trans (h.mono (by omega))⟩)
  have STEP := Lib.hid (show ∀ ww w', Below w2.heap.size w2 ww → Below ww.heap.size ww w' → Below w2.heap.size w2 w' from fun ww w' h1 h2 => h1.trans (h2.mono h1.size))
  clear D0 HB1 ho hdl hb2 hll
  by_cases h0 : L = []
  · subst h0
    have C1 := Lib.hid (tree_nil A2 c2 w2 (KEEP.out w2 (Below.refl _ _)).2.1)
    have q1 := eq_self emptyd (tagd_len _ _)
    go_wp2_with fail
    refine C1.out.mono ?_
    rintro e w3 ⟨rfl, hb3⟩
    have C2 := Lib.hid (show Calls Tryd.prog 14 #[.string emptyT, .slice none 0 0] w3 fun e w' => e = .returned (.agg (U emptyd).toArray) ∧ Below w3.heap.size w3 w' from tagged_all emptyT [] none 0 w3 (by decide) (by simp) (byt_nil _ _) (KEEP.out w3 hb3).2.1)
    have HB3 := Lib.hid hb3
    clear hb3 C1
    go_wp2_with fail
    refine C2.out.mono ?_
    rintro e w4 ⟨rfl, hb4⟩
    have HB4 := Lib.hid (KEEP.out _ (STEP.out _ _ HB3.out hb4)).2.2
    clear hb4 C2
    go_wp2_with fail
    go_ret
    exact ⟨rfl, HB4.out⟩
  by_cases h1 : L.length = 1
  · obtain ⟨d, rfl⟩ := List.length_eq_one_iff.1 h1
    have hd := HDL.out.2.2.2.1 d (List.mem_singleton_self d)
    obtain ⟨b, o, rfl, hS, _⟩ := HDL.out.2.2.2.2 (by simp)
    have ct : ∀ ww, Below w2.heap.size w2 ww → Calls Tryd.prog 17 #[.slice (some ⟨b, o, none⟩) 1 c2] ww fun e w' => e = .returned (.agg (U (leafd d)).toArray) ∧ Below ww.heap.size ww w' := fun ww h =>
      tree_all 1 [d] (some ⟨b, o, none⟩) c2 ww (Nat.le_refl _) (by omega) (KEEP.out ww h).1 (KEEP.out ww h).2.1
    have cg : ∀ ww, Below w2.heap.size w2 ww → Calls Tryd.prog 14 #[.string leafT, .slice (some ⟨b, o, none⟩) 32 32] ww fun e w' => e = .returned (.agg (U (leafd d)).toArray) ∧ Below ww.heap.size ww w' := fun ww h => by
      obtain ⟨b', o', e, hSS, hc⟩ := (KEEP.out ww h).1.2.2.2.2 (by simp)
      injection e with e
      injection e with e1 e2
      subst e1 e2
      have hd0 := hc 0 d rfl
      rw [Nat.zero_mul, Nat.add_zero] at hd0
      have := tagged_all leafT d (some ⟨b, o, none⟩) 32 ww (by decide) (by omega) ⟨by omega, max32, (fun e => by cases e), fun _ => ⟨b, o, rfl, hSS, hd0⟩⟩ (KEEP.out ww h).2.1
      rwa [hd] at this
    have q1 := eq_self (leafd d) (tagd_len _ _)
    have CT := Lib.hid ct
    have CG := Lib.hid cg
    clear ct cg hS h0 h1
    go_wp2_with fail
    have hbx : Below w2.heap.size w2 w2.drew := (Below.refl _ _).drew
    go_region_law
      (first
        | (go_simp; go_at_call 17; (with_reducible refine (CT.out _ hbx).mono ?_); rintro e w5 ⟨rfl, hb'⟩; have hby := STEP.out _ _ hbx hb'; clear hbx hb'; have hbx := hby; clear hby)
        | (go_simp; go_at_call 14; (first | (with_reducible refine (CG.out _ hbx).mono ?_) | (refine (CG.out _ hbx).mono ?_)); rintro e w5 ⟨rfl, hb'⟩; have hby := STEP.out _ _ hbx hb'; clear hbx hb'; have hbx := hby; clear hby))
    all_goals
      have hfin := (KEEP.out _ hbx).2.2
      go_wp2_with fail
      go_ret
      exact ⟨rfl, hfin⟩
  · have hn : ¬ L.length = 0 := fun e => h0 (List.eq_nil_of_length_eq_zero e)
    obtain ⟨b, o, rfl, hS, _⟩ := HDL.out.2.2.2.2 (by omega)
    obtain ⟨kk, _, _, hk1, hk2, hk3⟩ := hf_spec L.length (by omega) (by omega)
    obtain ⟨K, hK⟩ : ∃ K, K = hf L.length := ⟨_, rfl⟩
    have HT := Lib.hid (show tree 25 L = noded (tree 24 (L.take K)) (tree 24 (L.drop K)) by rw [hK]; exact tree_two 24 L (by omega))
    rw [← hK] at hk1 hk2 hk3
    have ca : ∀ ww, Below w2.heap.size w2 ww → Calls Tryd.prog 17 #[.slice (some ⟨b, o, none⟩) K c2] ww fun e w' => e = .returned (.agg (U (tree 24 (L.take K))).toArray) ∧ Below ww.heap.size ww w' := fun ww h => by
      have hlk : (L.take K).length = K := by rw [List.length_take]; omega
      have := tree_all 24 (L.take K) (some ⟨b, o, none⟩) c2 ww (by omega) (by omega) ((KEEP.out ww h).1.take K) (KEEP.out ww h).2.1
      rwa [hlk] at this
    have cb : ∀ ww, Below w2.heap.size w2 ww → Calls Tryd.prog 17 #[.slice (some ⟨b, o + K * 32, none⟩) (L.length - K) (c2 - K)] ww fun e w' => e = .returned (.agg (U (tree 24 (L.drop K))).toArray) ∧ Below ww.heap.size ww w' := fun ww h => by
      have := tree_all 24 (L.drop K) (some ⟨b, o + K * 32, none⟩) (c2 - K) ww (by rw [List.length_drop]; omega) (by omega) ((KEEP.out ww h).1.drop K) (KEEP.out ww h).2.1
      rwa [List.length_drop] at this
    obtain ⟨T1, hT1⟩ : ∃ T, T = tree 24 (L.take K) := ⟨_, rfl⟩
    obtain ⟨T2, hT2⟩ : ∃ T, T = tree 24 (L.drop K) := ⟨_, rfl⟩
    rw [← hT1] at ca HT
    rw [← hT2] at cb HT
    have ht1 : T1.length = 32 := by rw [hT1]; exact tree_len _ _
    have ht2 : T2.length = 32 := by rw [hT2]; exact tree_len _ _
    have cr : ∀ ww, Below w2.heap.size w2 ww → Calls Tryd.prog 17 #[.slice (some ⟨b, o, none⟩) L.length c2] ww fun e w' => e = .returned (.agg (U (noded T1 T2)).toArray) ∧ Below ww.heap.size ww w' := fun ww h => by
      rw [← HT.out]
      exact tree_all 25 L (some ⟨b, o, none⟩) c2 ww (by omega) (by omega) (KEEP.out ww h).1 (KEEP.out ww h).2.1
    have cg : ∀ (A6 : Option Addr) (c6 : Nat) (ww : World), Byt ww (· < ww.heap.size) (T1 ++ T2) A6 c6 → KR ww Kt → Calls Tryd.prog 14 #[.string nodeT, .slice A6 (T1.length + T2.length) c6] ww fun e w' => e = .returned (.agg (U (noded T1 T2)).toArray) ∧ Below ww.heap.size ww w' := fun A6 c6 ww hy hk => by
      have := tagged_all nodeT (T1 ++ T2) A6 c6 ww (by decide) (by rw [List.length_append]; omega) hy hk
      rw [List.length_append] at this
      exact this
    have CA := Lib.hid ca
    have CB := Lib.hid cb
    have CR := Lib.hid cr
    have CG := Lib.hid cg
    have HT1 := Lib.hid ht1
    have HT2 := Lib.hid ht2
    have HKK := Lib.hid hK
    clear ca cb cr cg hT1 hT2 hS h0 HT ht1 ht2 hK
    go_wp2_with fail
    go_loopw [4] (fun x wr => ∃ t a : Nat, a = 2 ^ t ∧ x = .int .i64 a ∧ 0 < a ∧ a < L.length ∧ wr = w2) (fun x _ => L.length - (intOf x).toNat)
    case atStart => exact ⟨0, 1, rfl, rfl, by omega, by omega, rfl⟩
    case round =>
      obtain ⟨t, a, hat, rfl, ha0, han, hw⟩ := hrel
      obtain rfl : w2 = wr := hw.symm
      have HAT := Lib.hid hat
      clear hat
      have e1 : IntKind.i64.wrap (2 * (a : Int)) = 2 * a := IntWalk.i64_in _ (by omega)
      have e2 : IntKind.i64.wrap ((a : Int) * 2) = a * 2 := IntWalk.i64_in _ (by omega)
      by_cases hlt : 2 * a < L.length
      · have b1 : 2 * (a : Int) < L.length := by omega
        go_wp2_with fail
        go_roundw
        case rel => exact ⟨t + 1, a * 2, by rw [HAT.out, Nat.pow_succ], by simp, by omega, by omega, by simp⟩
        case measure => simp [intOf]; omega
      · have b1 : ¬ 2 * (a : Int) < L.length := by omega
        have haK : a = K := by rw [HKK.out, HAT.out]; exact hf_of_pow (by omega) (by omega) (by rw [← HAT.out]; exact han) (by rw [← HAT.out]; omega)
        subst haK
        have c1 : a ≤ c2 := by omega
        have c2' : a ≤ L.length := by omega
        have c3 : a < c2 := by omega
        have c4 : (a : Int) ≤ c2 := by omega
        have c5 : (a : Int) ≤ L.length := by omega
        have c6 : ¬ c2 = a := by omega
        go_upto_region 12 with fail
        go_cut [5, 6] from 13 to 42 (fun x y wx => ∃ g5 g6 : Nat, x = .pointer (some ⟨g5, 0, none⟩) ∧ y = .pointer (some ⟨g6, 0, none⟩) ∧ St w2 (some (g5, T1)) (some (g6, T2)) wx)
        case first =>
          go_wp2_with fail
          have hst := St.none w2
          have hu1 : (U T1).length = 32 := by rw [U_length, HT1.out]
          have hu2 : (U T2).length = 32 := by rw [U_length, HT2.out]
          go_region_law
            (first
              | (go_simp; go_at_call 17
                 (first
                   | (with_reducible refine (CA.out _ hst.below).mono ?_)
                   | (with_reducible refine (CA.out _ (St.base w2).new1.drew.below).mono ?_; have hsa := (St.base w2).new1.drew; clear hst; have hst := hsa; clear hsa)
                   | (with_reducible refine (CA.out _ (St.base w2).new12.drew.below).mono ?_; have hsa := (St.base w2).new12.drew; clear hst; have hst := hsa; clear hsa))
                 rintro e w5 ⟨rfl, hb'⟩; have hst' := hst.step hb'; clear hst hb'; have hst := hst'; clear hst')
              | (go_simp; go_at_call 17
                 (first
                   | (with_reducible refine (CB.out _ hst.below).mono ?_)
                   | (with_reducible refine (CB.out _ hst.new1.below).mono ?_; have hsa := hst.new1; clear hst; have hst := hsa; clear hsa)
                   | (with_reducible refine (CB.out _ hst.new2.below).mono ?_; have hsa := hst.new2; clear hst; have hst := hsa; clear hsa)
                   | (with_reducible refine (CB.out _ hst.new12.below).mono ?_; have hsa := hst.new12; clear hst; have hst := hsa; clear hsa))
                 rintro e w6 ⟨rfl, hb'⟩; have hst' := hst.step hb'; clear hst hb'
                 (first
                   | (have hst : St w2 (some (_, flb 32 [])) (some (_, flb 32 [])) _ := hst'; clear hst'; have HS := Lib.hid hst; obtain ⟨⟨f1, f2⟩, ⟨f3, f4⟩, ⟨f5, f6⟩, ⟨f7, f8⟩⟩ := hst.stores T1 T2 HT1.out HT2.out; obtain ⟨⟨k1, k2⟩, ⟨k3, k4⟩, ⟨k5, k6⟩, ⟨k7, k8⟩⟩ := hst.stores T2 T1 HT2.out HT1.out; clear hst)
                   | (have hst : St w2 (some (_, flb 32 [])) (some (_, flb 32 [])) _ := hst'.new2; clear hst'; have HS := Lib.hid hst; obtain ⟨⟨f1, f2⟩, ⟨f3, f4⟩, ⟨f5, f6⟩, ⟨f7, f8⟩⟩ := hst.stores T1 T2 HT1.out HT2.out; obtain ⟨⟨k1, k2⟩, ⟨k3, k4⟩, ⟨k5, k6⟩, ⟨k7, k8⟩⟩ := hst.stores T2 T1 HT2.out HT1.out; clear hst)
                   | (have hst : St w2 (some (_, flb 32 [])) (some (_, flb 32 [])) _ := hst'.new12; clear hst'; have HS := Lib.hid hst; obtain ⟨⟨f1, f2⟩, ⟨f3, f4⟩, ⟨f5, f6⟩, ⟨f7, f8⟩⟩ := hst.stores T1 T2 HT1.out HT2.out; obtain ⟨⟨k1, k2⟩, ⟨k3, k4⟩, ⟨k5, k6⟩, ⟨k7, k8⟩⟩ := hst.stores T2 T1 HT2.out HT1.out; clear hst))))
          all_goals
            go_wp2_with fail
            go_meet
            refine ⟨_, _, rfl, rfl, ?_⟩
            first
              | exact (HS.out.set1 T1).set2 T2
              | exact ((HS.out.set2 T1).set1 T2).swap
              | exact (HS.out.set2 T2).set1 T1
              | exact ((HS.out.set1 T2).set2 T1).swap
        case rest =>
          obtain ⟨g5, g6, rfl, rfl, hst⟩ := hcut
          have KE := Lib.hid (show ∀ ww, Below wc.heap.size wc ww → RowB ww g5 26 T1 ∧ RowB ww g6 26 T2 ∧ Below w2.heap.size w2 ww from fun ww h => ⟨(hst.step h).one _ _ rfl |>.1, (hst.step h).two _ _ rfl |>.1, (hst.step h).below⟩)
          have STEP2 := Lib.hid (show ∀ ww w', Below wc.heap.size wc ww → Below ww.heap.size ww w' → Below wc.heap.size wc w' from fun ww w' h1 h2 => h1.trans (h2.mono h1.size))
          have q1 := eq_self (noded T1 T2) (tagd_len _ _)
          have ct : ∀ ww, Below wc.heap.size wc ww → Calls Tryd.prog 17 #[.slice (some ⟨b, o, none⟩) L.length c2] ww fun e w' => e = .returned (.agg (U (noded T1 T2)).toArray) ∧ Below wc.heap.size wc w' := fun ww h =>
            (CR.out ww (KE.out ww h).2.2).mono fun e w' ⟨he, hb'⟩ => ⟨he, STEP2.out _ _ h hb'⟩
          have cs : ∀ (A6 : Option Addr) (c6 : Nat) (ww : World), Byt ww (· < ww.heap.size) (T1 ++ T2) A6 c6 → Below wc.heap.size wc ww → Calls Tryd.prog 14 #[.string nodeT, .slice A6 (T1.length + T2.length) c6] ww fun e w' => e = .returned (.agg (U (noded T1 T2)).toArray) ∧ Below wc.heap.size wc w' := fun A6 c6 ww hy h =>
            (CG.out A6 c6 ww hy (KEEP.out ww (KE.out ww h).2.2).2.1).mono fun e w' ⟨he, hb'⟩ => ⟨he, STEP2.out _ _ h hb'⟩
          have CT := Lib.hid ct
          have CS := Lib.hid cs
          clear hst ct cs
          go_wp2_with fail
          have hbx : Below wc.heap.size wc wc.drew := (Below.refl _ _).drew
          go_region_law
            (first
              | (go_simp; go_at_call 17; (first | (with_reducible refine (CT.out _ hbx).mono ?_) | refine (CT.out _ (hbx.alloc hbx.size (.cells #[] 5))).mono ?_); rintro e w5 ⟨rfl, hb'⟩; clear hbx; have hbx := hb'; clear hb')
              | (refine step_app_new rfl (.tmp 45) (.tmp 46) rfl _ g5 32 26 T1 rfl rfl HT1.out.symm (by omega) (KE.out _ hbx).1 (by rw [HT1.out]; omega) ?_; intro A4 c4 w4 ho4 hb4; have HO4 := Lib.hid ho4; have hbs := hbx.size; have hz4 := hb4.size; have hby := STEP2.out _ _ hbx hb4; clear hbx ho4 hb4; have hbx := hby; clear hby)
              | (refine step_app_new rfl (.tmp 45) (.tmp 46) rfl _ g5 32 26 T1 rfl rfl HT1.out.symm (by omega) (KE.out _ (hbx.alloc hbx.size (.cells #[] 5))).1 (by rw [HT1.out]; omega) ?_; intro A4 c4 w4 ho4 hb4; have HO4 := Lib.hid ho4; have hbs := (hbx.alloc hbx.size (.cells #[] 5)).size; have hz4 := hb4.size; have hby := STEP2.out _ _ (hbx.alloc hbx.size (.cells #[] 5)) hb4; clear hbx ho4 hb4; have hbx := hby; clear hby)
              | (refine step_app_own rfl (.tmp 47) (.tmp 48) rfl _ _ _ _ _ T1 T2 rfl (by rw [HT2.out]; rfl) HO4.out ((KE.out _ hbx).2.1.b32 HT2.out) (by rw [HT1.out, HT2.out]; simp) hz4 ?_; intro v6 w6 ho6 hg6; obtain ⟨A6, c6, e6, hy6⟩ := ho6.byt; subst e6; have HY6 := Lib.hid (hy6.keep (w' := w6) (S' := (· < w6.heap.size)) fun i hi => ⟨hi.2, rfl⟩); have hby := below_own hbx hg6 HO4.out hbs hbx.size; clear hbx ho6 hg6 hy6; have hbx := hby; clear hby)
              | (go_simp; go_at_call 14; (first | (with_reducible refine (CS.out _ _ _ HY6.out hbx).mono ?_) | refine (CS.out _ _ _ HY6.out hbx).mono ?_); rintro e w7 ⟨rfl, hb'⟩; clear hbx; have hbx := hb'; clear hb'))
          all_goals
            have hfin := (KEEP.out _ (KE.out _ hbx).2.2).2.2
            go_wp2
            go_ret
            exact ⟨rfl, hfin⟩
end Go.Proofs.YtgojodldnodjpaaDoor
