/- Chains: what is reached, collected; Sign. -/
import Derived.Test.YtllkkafajchioaaDoorXF
import Derived.Maps.OwnOps
namespace Go.Proofs.YtllkkafajchioaaDoor
open Go.RowKit Go.Shelf

attribute [local go_sem] Oper.semAt_some

theorem rowb_own (B : Nat) (x : List UInt8) : Go.Own (fun (_ : Unit) W => RowB W B 23 x) := fun s X Y row hs hg hrow =>
  (hg.block B (Array.getElem?_eq_some_iff.1 (show X.heap[B]? = _ from hs)).1 (fun e' => by obtain ⟨o, ho, hc⟩ := hrow B e'.symm; rw [show X.heap[B]? = _ from hs] at ho; cases ho; cases hc)).trans hs
theorem keeps_below {W W' : World} (hb : Below W.heap.size W W') : KeepsOthers W W' := ⟨hb.size, fun k _o hk _ => (hb.block k (Array.getElem?_eq_some_iff.1 hk).1).trans hk⟩
theorem owns_below {W W' : World} {b s k : Nat} {e : TypeId} {v : Value} {xs : List Value} (h : W.ownsRow b e s v k xs) (hb : Below W.heap.size W W') : W'.ownsRow b e s v k xs := by
  refine ⟨h.1, ?_⟩
  rcases h.2 with h | ⟨g, cap, cur, e, hg, hh, r⟩
  · exact .inl h
  · exact .inr ⟨g, cap, cur, e, hg, by rw [hb.block g (Array.getElem?_eq_some_iff.1 hh).1]; exact hh, r⟩
theorem Boxed.below {W W' : World} {B : Nat} {t : TypeId} {v : Value} (h : Boxed W B t v) (hb : Below W.heap.size W W') : Boxed W' B t v := (hb.block B h.lt).trans h
/-- the elements, made digests -/
def nzs (L : List (List UInt8)) : List (List UInt8) := L.map nz
theorem nzs_eq (L : List (List UInt8)) (h : ∀ d ∈ L, d.length = 32) : nzs L = L := by
  unfold nzs
  rw [List.map_congr_left (g := id) fun d hd => nz_eq d (h d hd), List.map_id]
theorem nzs_len (L : List (List UInt8)) : (nzs L).length = L.length := by simp [nzs]
theorem nzs_app (L M : List (List UInt8)) : nzs (L ++ M) = nzs L ++ nzs M := by simp [nzs]
theorem rc_dig (L : List (List UInt8)) (D : List Nat) (hL : ∀ d ∈ L, d.length = 32) (k : Nat) (hk : k ≤ L.length) : ∀ d ∈ rc L D k, d.length = 32 := by
  intro d hd
  obtain ⟨i, hi, rfl⟩ := List.mem_map.1 hd
  refine sn_len _ _ (hL _ ?_)
  have : i < L.length := by have := List.mem_range.1 hi; omega
  rw [List.getD_eq_getElem?_getD, List.getElem?_eq_getElem this]
  exact List.getElem_mem _

set_option maxRecDepth 100000 in
set_option maxHeartbeats 2000000 in
theorem appseq_in (n : Nat) (hn : 5 ≤ n) (b1 b2 : Nat) (L : List (List UInt8)) (A : Option Addr) (cap : Nat) (D : List Nat) (hL : L.length = 19) (hD : D.length = 19) (h3 : ∀ d ∈ D, d ≤ 3)
    (w : World) (hb1 : b1 < w.heap.size) (hb2 : b2 < w.heap.size) (h1 : w.cell? ⟨b1, 0, none⟩ = some (.slice A L.length cap)) (h2 : RowN w b2 47 D) (hl : DL w (· < w.heap.size) L A cap) (hk : KR w Kt) :
    CallsIn Fence.wide n Tryd.prog 43 #[.slice none 0 0, .func (.func 44) #[] #[.pointer (some ⟨b1, 0, none⟩), .pointer (some ⟨b2, 0, none⟩)]] w fun e W' => ∃ v, e = .returned v ∧ OwnD W' w.heap.size v (rc L D 19) ∧ Below w.heap.size w W' := by
  have hn1 : 1 ≤ n := by omega
  obtain ⟨i0, hi, hz0, hz1, hz2⟩ := info_parts info_d
  have HRD := Lib.hid (rc_dig L D hl.2.2.2.1 19 (by omega))
  have hlt0 := hk.lt
  refine callsIn_of_wp_marks Tryd.func43 rfl trivial ?_ rfl
  simp only [Tryd.ntmps43, List.size_toArray, List.length_cons, List.length_nil, Nat.reduceAdd, Nat.reduceSub, Array.replicate_succ, Array.replicate_zero, List.push_toArray, List.append_toArray, List.nil_append, List.cons_append]
  have H1 := Lib.hid h1
  have H2 := Lib.hid h2
  have HL := Lib.hid hl
  have HK := Lib.hid hk
  have HLL := Lib.hid hL
  have HDD := Lib.hid hD
  have H3 := Lib.hid h3
  clear h1 h2 hl hk hL hD h3
  gi_wp2
  have bO := Boxed.new w 24 (.slice none 0 0)
  have hB0 : Below w.heap.size w (w.alloc (.cells #[.slice none 0 0] 24)) := (Below.refl _ w).alloc (Nat.le_refl _) _
  refine wpIn_rangeFunc_ownH rfl hn1 (gf := 44) (lb := #[.pointer (some ⟨b1, 0, none⟩), .pointer (some ⟨b2, 0, none⟩)]) rfl trivial (enters_of Tryd.func44 (by kernel_rfl) rfl)
    (reached_stops (n - 1) (by omega) b1 b2 (· < w.heap.size) L A cap D HLL.out HDD.out H3.out _ (fun i hi => Nat.lt_of_lt_of_le hi hB0.size) hb1 hb2 hlt0 ((hB0.cell (p := ⟨b1, 0, none⟩) hb1).trans H1.out) (H2.out.keep (hB0.block b2 hb2)) (HL.out.keep fun i hi => ⟨hi, hB0.block i hi⟩) (HK.out.keep (hB0.block 0 hlt0))) KS.trans (fun W l o o' hl _ _ _ => ks_put (B := w.heap.size) (fun i hi => hi) W l o' (Nat.le_trans hB0.size hl)) (Below.refl _ _) (fun _ => rfl)
    (fun (pre : List (List UInt8)) W => (∃ v, Boxed W w.heap.size 24 v ∧ W.ownsRow w.heap.size 23 32 v pre.length ((nzs pre).flatMap U) ∧ True) ∧ Below w.heap.size w W)
    (fun _ _ _ => False)
    (OwnFrom.and (Go.Own.from (holdsRow_own w.heap.size w.heap.size 24 23 32 (fun (pre : List (List UInt8)) => pre.length) (fun pre => (nzs pre).flatMap U) (fun _ _ => True)) _) (ownFrom_below (Nat.le_refl _) (by simp)))
    (fun _ _ _ _ _ hs _ _ => hs)
    ⟨⟨_, bO, World.ownsRow_nil _ _ _ _, trivial⟩, hB0⟩
    (fun x a' W => ∃ Bx, w.heap.size < Bx ∧ RowB W Bx 23 (nz x) ∧ a' = { tmps := #[.slice none 0 0, .func (.func 44) #[] #[.pointer (some ⟨b1, 0, none⟩), .pointer (some ⟨b2, 0, none⟩)], .pointer (some ⟨w.heap.size, 0, none⟩), undef, .slice none 0 0, .pointer (some ⟨Bx, 0, none⟩), .func (.func 44) #[] #[.pointer (some ⟨b1, 0, none⟩), .pointer (some ⟨b2, 0, none⟩)], .agg (U (nz x)).toArray, undef, undef, undef, undef, undef], defers := [] })
    (fun x a' _ X Y row hs hg hr => by obtain ⟨Bx, h1, h2, h3⟩ := hs; exact ⟨Bx, h1, rowb_own Bx (nz x) () X Y row h2 hg (fun r e => (hr r e).2), h3⟩)
    ?assign ?body ?done ?stop
  case assign =>
    rintro l pre x W K ⟨⟨v, hv, hrow, _⟩, hB1⟩ hK
    unfold ED
    have hx := nz_len x
    have HX := Lib.hid hx
    generalize nz x = X at *
    clear hx
    have n5 : RowB (W.alloc (.cells (U (flb 32 [])).toArray 23)) W.heap.size 23 (flb 32 []) := heap_alloc_new W _
    gi_wp2_with (refine in_store rfl (.tmp 5) (.tmp 7) rfl W.heap.size (flb 32 []) X rfl rfl n5 (by simp [flb]) HX.out ?_)
    have hb5 : Below W.heap.size W ((W.alloc (.cells (U (flb 32 [])).toArray 23)).setRow W.heap.size (U X).toArray) := below_setRow ((Below.refl _ _).alloc (Nat.le_refl _) _) (Nat.le_refl _) _
    exact hK _ _ ((keeps_below hb5).from _) (ks_below hb5 fun i hi => Nat.lt_of_lt_of_le hi hB1.size) ⟨⟨v, Boxed.below hv hb5, owns_below hrow hb5, trivial⟩, hB1.trans (hb5.mono hB1.size)⟩ ⟨W.heap.size, hv.lt, n5.setRow X, rfl⟩
  case body =>
    rintro l pre x a' W hl _ ⟨⟨v, hv, hrow, _⟩, hB1⟩ ⟨Bx, hBx, bX, rfl⟩ hlt
    have hx := nz_len x
    have HX := Lib.hid hx
    have HNP := Lib.hid (show (nzs (pre ++ [x])).flatMap U = (nzs pre).flatMap U ++ U (nz x) by rw [nzs_app, List.flatMap_append]; simp [nzs])
    generalize nz x = X at *
    clear hx
    have hc := hv.cell
    have hrg := bX.range
    have hsz := hB1.size
    have HN6 := Lib.hid (show ∀ j u, (U X)[j]? = some u → (W.alloc (.cells (U X).toArray 23)).cell? ((⟨W.heap.size, 0, none⟩ : Addr).add j) = some u from fun j u hu => by
      rw [Go.WideShapes.add_plain, Nat.zero_add, cell_of_row _ W.heap.size j _ _ _ (heap_alloc_new W _)]
      simpa using hu)
    gi_wp2_with (first
      | (refine in_load rfl (.tmp 5) rfl Bx 0 X rfl hrg HX.out ?_)
      | (refine in_bs rfl (.tmp 9) rfl X rfl HX.out ?_)
      | (gi_at_builtin; refine wpListIn_append_own _ rfl _ _ 24 rfl w.heap.size 23 i0 (.agg (U z32).toArray) 32 32 Tryd.underlying24 hi hz0 hz1 hz2 rfl (by decide) _ _ _ rfl (hrow.alloc _) ⟨W.heap.size, 0, none⟩ 1 1 (U X) rfl (by rw [U_length, HX.out]) HN6.out (U_one X) (by unfold maxLen; omega) (by omega) (by simp; omega) ?_; intro v' w1 hown' hgrow _; obtain ⟨g', cap', rfl⟩ := ownsRow_succ hown'; obtain ⟨hv1, hv2, hr2, hk2, hb2⟩ := hv.appended (by decide) hrow hB1.size (Nat.le_refl _) hown' hgrow; have hc1 := hv1.cell; have hf1 := hv1.frozen))
    refine ⟨hk2.from _, ks_below hb2 fun i hi => hi, ⟨_, hv2, ?_⟩, hB1.trans hb2⟩
    have hr3 := hr2
    rw [← HNP.out] at hr3
    rw [List.length_append]
    exact hr3
  case done =>
    rintro D' ys W hD' rfl ⟨⟨v, hv, hrow, _⟩, hB1⟩ hK
    have hc := hv.cell
    gi_wp2
    refine ⟨by simp, .inl ⟨_, _, rfl, run_takeDeferred hK, ?_⟩⟩
    rw [nzs_eq _ HRD.out] at hrow
    exact ⟨_, results_tmp rfl _ _ _, v, rfl, ⟨ownsRow_putObj hrow _ hK rfl, HRD.out⟩, hB1.trans (belowK_b (w := w) (Nat.le_refl _) W D' _ _ (by simp at hD'; omega) hK rfl rfl)⟩
  case stop =>
    rintro D' c pre W _ _ h _
    exact h.elim

set_option maxHeartbeats 1000000 in
theorem collect_all (b1 b2 : Nat) (L : List (List UInt8)) (A : Option Addr) (cap : Nat) (D : List Nat) (hL : L.length = 19) (hD : D.length = 19) (h3 : ∀ d ∈ D, d ≤ 3)
    (w : World) (hb1 : b1 < w.heap.size) (hb2 : b2 < w.heap.size) (h1 : w.cell? ⟨b1, 0, none⟩ = some (.slice A L.length cap)) (h2 : RowN w b2 47 D) (hl : DL w (· < w.heap.size) L A cap) (hk : KR w Kt) :
    Calls Tryd.prog 35 #[.func (.func 44) #[] #[.pointer (some ⟨b1, 0, none⟩), .pointer (some ⟨b2, 0, none⟩)]] w fun e W' => ∃ v, e = .returned v ∧ OwnD W' w.heap.size v (rc L D 19) ∧ Below w.heap.size w W' := by
  have C := Lib.hid (callsIn_wide.1 (appseq_in 5 (Nat.le_refl _) b1 b2 L A cap D hL hD h3 w hb1 hb2 h1 h2 hl hk))
  clear h1 h2 hl hk hD hL h3
  go_enter Tryd.func35, Tryd.ntmps35
  go_wp2_with fail
  refine C.out.mono ?_
  rintro e w2 ⟨v, rfl, ho, hb⟩
  go_wp2_with fail
  go_ret
  exact ⟨v, rfl, ho, hb⟩
end Go.Proofs.YtllkkafajchioaaDoor
