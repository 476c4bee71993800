/- Chains: publicOf. -/
import Derived.Test.YtllkkafajchioaaDoorXK
namespace Go.Proofs.YtllkkafajchioaaDoor
open Go.RowKit Go.Shelf

attribute [local go_sem] Oper.semAt_some

theorem lft_le (D : List Nat) : ∀ d ∈ lft D, d ≤ 3 := by
  intro d hd
  obtain ⟨i, _, rfl⟩ := List.mem_map.1 hd
  omega
theorem cat_map (bs : List Nat) (L : List (List UInt8)) (h : bs.length = L.length) : cat ((bs.zip L).map fun p => ((some ⟨p.1, 0, none⟩, 32, p.2) : Pt)) = L.flatten := by
  induction bs generalizing L with
  | nil =>
    obtain rfl : L = [] := List.eq_nil_of_length_eq_zero h.symm
    rfl
  | cons b bs ih =>
    cases L with
    | nil => simp at h
    | cons x L =>
      have := ih L (by simpa using h)
      simp only [cat] at this ⊢
      simp [this]
theorem tot_map (bs : List Nat) (L : List (List UInt8)) (h : bs.length = L.length) (hL : ∀ d ∈ L, d.length = 32) : tot ((bs.zip L).map fun p => ((some ⟨p.1, 0, none⟩, 32, p.2) : Pt)) = 32 * L.length := by
  rw [← cat_len, cat_map bs L h]
  induction L generalizing bs with
  | nil => rfl
  | cons x L ih =>
    cases bs with
    | nil => simp at h
    | cons b bs =>
      rw [List.flatten_cons, List.length_append, ih bs (by simpa using h) (fun d hd => hL d (List.mem_cons_of_mem _ hd)), hL x (List.mem_cons_self ..), List.length_cons]
      omega
/-- the ends as parts -/
theorem eni_parts {n₃ : Nat} {L : List (List UInt8)} {W : World} (hL : ∀ d ∈ L, d.length = 32) (bs : List Nat) (g cap : Nat) (_h1 : bs.length = L.length) (h3 : W.ownsRow n₃ 41 1 (.slice (some ⟨g, 0, none⟩) bs.length cap) bs.length (EN bs)) (h4 : ∀ (j b : Nat) x, bs[j]? = some b → L[j]? = some x → n₃ ≤ b ∧ RowB W b 23 (nz x)) :
    Parts W (· < W.heap.size) g ((bs.zip L).map fun p => ((some ⟨p.1, 0, none⟩, 32, p.2) : Pt)) := by
  intro j y hy
  rw [List.getElem?_map] at hy
  obtain ⟨⟨b, x⟩, hp, rfl⟩ := Option.map_eq_some_iff.1 hy
  obtain ⟨hb, hx⟩ := List.getElem?_zip_eq_some.1 hp
  simp only at hb hx
  have hx32 := hL x (List.mem_of_getElem? hx)
  obtain ⟨_, hr⟩ := h4 j b x hb hx
  rw [nz_eq x hx32] at hr
  refine ⟨?_, (hr.b32 hx32).keep fun i hi => ⟨by rw [hi]; exact hr.lt, rfl⟩⟩
  have hc := World.ownsRow.cells h3 (g := g) rfl j (Value.slice (some ⟨b, 0, none⟩) 32 32) (by simp [EN, hb])
  rw [Go.WideShapes.add_plain, Nat.zero_add] at hc
  simp only
  rw [hx32]
  exact hc

set_option maxRecDepth 100000 in
set_option maxHeartbeats 4000000 in
theorem public_in (n : Nat) (hn : 9 ≤ n) (L : List (List UInt8)) (A : Option Addr) (cap : Nat) (D : List Nat) (hL : L.length = 19) (hD : D.length = 19) (h3 : ∀ d ∈ D, d ≤ 3)
    (w : World) (hl : DL w (· < w.heap.size) L A cap) (hk : KR w Kt) :
    CallsIn Fence.wide n Tryd.prog 30 #[.slice A 19 cap, .agg (NI D).toArray] w fun e W' => e = .returned (.agg (U (pubk (rc L (lft D) 19))).toArray) ∧ Below w.heap.size w W' := by
  have hn1 : 1 ≤ n := by omega
  have HRD := Lib.hid (rc_dig L (lft D) hl.2.2.2.1 19 (by omega))
  have hlt0 := hk.lt
  have HL := Lib.hid hl
  have HK := Lib.hid hk
  have HLL := Lib.hid hL
  have HDD := Lib.hid hD
  have H3 := Lib.hid h3
  have HFD := Lib.hid (show (lft D).length = 19 by rw [lft_len]; exact hD)
  clear hl hk hL hD h3
  refine callsIn_of_wp_marks Tryd.func30 rfl trivial ?_ rfl
  simp only [Tryd.ntmps30, List.size_toArray, List.length_cons, List.length_nil, Nat.reduceAdd, Nat.reduceSub, Array.replicate_succ, Array.replicate_zero, List.push_toArray, List.append_toArray, List.nil_append, List.cons_append]
  have hbx := box3 w (NI D).toArray (U (flb 32 [])).toArray #[.slice none 0 0] 47 23 59 _ rfl
  have r3 : RowN (((w.alloc (.cells (NI D).toArray 47)).alloc (.cells (U (flb 32 [])).toArray 23)).alloc (.cells #[.slice none 0 0] 59)) w.heap.size 47 D := hbx.1
  clear hbx
  gi_wp2_with (refine in_loadN rfl (.tmp 3) rfl w.heap.size D rfl r3 HDD.out ?_)
  clear r3
  generalize hW1 : ((w.alloc _).alloc _).alloc _ = W1
  obtain ⟨h0, h1, h2, hb1, hz1⟩ := box3 w (NI D).toArray (U (flb 32 [])).toArray #[.slice none 0 0] 47 23 59 W1 hW1
  clear hW1 h0
  have R1 := Lib.hid (show RowB W1 (w.heap.size + 1) 23 (flb 32 []) from h1)
  have B1 := Lib.hid (show Boxed W1 (w.heap.size + 2) 59 (.slice none 0 0) from h2)
  have HB1 := Lib.hid hb1
  have HZ1 := Lib.hid hz1
  clear h1 h2 hb1 hz1
  rw [show w.heap.size + 1 + 1 = w.heap.size + 2 from rfl]
  refine ⟨trivial, ?_⟩
  gi_at_call 39
  have CC := Lib.hid ((callsIn_wide (n := n - 1)).2 (left_all D W1 HDD.out H3.out))
  (with_reducible refine CC.out.mono ?_)
  rintro e W2 ⟨rfl, hb2⟩
  have hz2 : w.heap.size + 3 ≤ W2.heap.size := by have := hb2.size; have := HZ1.out; omega
  have HB2 := Lib.hid (HB1.out.trans (hb2.mono (by have := HZ1.out; omega)))
  have R2 := Lib.hid (R1.out.keep (hb2.block _ (by have := HZ1.out; omega)))
  have B2 := Lib.hid (show Boxed W2 (w.heap.size + 2) 59 (.slice none 0 0) from (hb2.block _ (by have := HZ1.out; omega)).trans B1.out)
  clear CC hb2 R1 B1 HB1 HZ1
  gi_wp2
  refine ⟨trivial, ?_⟩
  gi_at_call 36
  have CC := Lib.hid ((callsIn_wide (n := n - 1)).2 (reached_all A 19 cap (lft D) W2))
  (with_reducible refine CC.out.mono ?_)
  rintro e W3 ⟨rfl, hw3⟩
  obtain ⟨⟨c1, c2⟩, hz3, hb3⟩ := signed_boxes A cap L (lft D) W2 W3 hw3
  clear CC hw3
  have HC1 := Lib.hid c1
  have HC2 := Lib.hid c2
  have HB3 := Lib.hid (HB2.out.trans (hb3.mono (by omega)))
  have R3 := Lib.hid (R2.out.keep (hb3.block _ (by omega)))
  have B3 := Lib.hid (show Boxed W3 (w.heap.size + 2) 59 (.slice none 0 0) from (hb3.block _ (by omega)).trans B2.out)
  have hs0 : Hid (W3.heap.size = W2.heap.size + 2) := Lib.hid hz3
  have hz3' : W2.heap.size + 2 ≤ W3.heap.size := by omega
  clear c1 c2 hb3 HB2 R2 B2
  gi_wp2
  have HSS := Lib.hid (show ∀ i, (i = W2.heap.size ∨ i = W2.heap.size + 1 ∨ i < w.heap.size) → i < W3.heap.size ∧ i ≠ w.heap.size + 2 from fun i hi => by omega)
  have HEF := Lib.hid (eni_from w W3.heap.size (w.heap.size + 2) (w.heap.size + 1) (by omega))
  have hc1 := HC1.out
  have HWK := Lib.hid (HK.out.keep (HB3.out.block 0 hlt0))
  have HLW := Lib.hid (HL.out.keep (w' := W3) (S' := fun i => i = W2.heap.size ∨ i = W2.heap.size + 1 ∨ i < w.heap.size) fun i hi => ⟨.inr (.inr hi), HB3.out.block i hi⟩)
  rw [← HLL.out] at hc1
  refine wpIn_rangeFunc_ownH rfl hn1 (gf := 44) (lb := #[.pointer (some ⟨W2.heap.size, 0, none⟩), .pointer (some ⟨W2.heap.size + 1, 0, none⟩)]) rfl trivial (enters_of Tryd.func44 (by kernel_rfl) rfl)
    (reached_stops (n - 1) (by omega) W2.heap.size (W2.heap.size + 1) (fun i => i = W2.heap.size ∨ i = W2.heap.size + 1 ∨ i < w.heap.size) L A cap (lft D) HLL.out HFD.out (lft_le D) W3 (fun i hi => (HSS.out i hi).1) (.inl rfl) (.inr (.inl rfl)) (.inr (.inr hlt0)) hc1 HC2.out HLW.out HWK.out) KS.trans (fun W l o o' hl _ _ _ => ks_put (B := W3.heap.size) (fun i hi => (HSS.out i hi).1) W l o' hl) (Below.refl _ _) (fun _ => rfl)
    (EnI w W3.heap.size (w.heap.size + 2) (w.heap.size + 1))
    (fun _ _ _ => False)
    HEF.out
    (fun _ _ _ _ _ hs _ _ => hs)
    ⟨[], _, rfl, B3.out, World.ownsRow_nil _ _ _ _, (fun j b x hj => by simp at hj), R3.out, HB3.out, Nat.le_refl _⟩
    (fun x a' W => ∃ Bx, W3.heap.size ≤ Bx ∧ RowB W Bx 23 (nz x) ∧ a' = { tmps := #[.slice A 19 cap, .agg (NI D).toArray, undef, .pointer (some ⟨w.heap.size, 0, none⟩), .pointer (some ⟨w.heap.size + 1, 0, none⟩), .pointer (some ⟨w.heap.size + 2, 0, none⟩), .pointer (some ⟨Bx, 0, none⟩), .slice A 19 cap, .agg (NI D).toArray, .agg (NI (lft D)).toArray, .func (.func 44) #[] #[.pointer (some ⟨W2.heap.size, 0, none⟩), .pointer (some ⟨W2.heap.size + 1, 0, none⟩)], .agg (U (nz x)).toArray, undef, undef, undef, undef, undef, undef], defers := [] })
    (fun x a' _ X Y row hs hg hr => by obtain ⟨Bx, h1, h2, h3⟩ := hs; exact ⟨Bx, h1, rowb_own Bx (nz x) () X Y row h2 hg (fun r e => (hr r e).2), h3⟩)
    ?assign ?body ?done ?stop
  case assign =>
    rintro l pre x W K hI hK
    have h7 := hI
    obtain ⟨_, _, _, _, _, _, _, _, h7⟩ := h7
    unfold ED
    have hx := nz_len x
    have HX := Lib.hid hx
    have HI := Lib.hid hI
    generalize nz x = X at *
    clear hx hI hc1
    have n5 : RowB (W.alloc (.cells (U (flb 32 [])).toArray 23)) W.heap.size 23 (flb 32 []) := heap_alloc_new W _
    gi_wp2_with (refine in_store rfl (.tmp 6) (.tmp 11) rfl W.heap.size (flb 32 []) X rfl rfl n5 (by simp [flb]) HX.out ?_)
    have hb5 : Below W.heap.size W ((W.alloc (.cells (U (flb 32 [])).toArray 23)).setRow W.heap.size (U X).toArray) := below_setRow ((Below.refl _ _).alloc (Nat.le_refl _) _) (Nat.le_refl _) _
    exact hK _ _ ((keeps_below hb5).from _) (ks_below hb5 fun i hi => Nat.lt_of_lt_of_le (HSS.out i hi).1 h7) (HEF.out pre W _ none HI.out ⟨hb5.os, hb5.tape, hb5.output, hb5.size, fun k hk _ => hb5.block k hk⟩ (fun r e => by cases e)) ⟨W.heap.size, h7, n5.setRow X, rfl⟩
  case body =>
    rintro l pre x a' W hl _ ⟨bs, v, h1, h2, h3, h4, h5, h6, h7⟩ ⟨Bx, hBx, bX, rfl⟩ hlt
    have FIN := Lib.hid (fun (v' : Value) (w1 : World) ho hg => eni_step w W3.heap.size (w.heap.size + 2) (w.heap.size + 1) Bx (fun i => i = W2.heap.size ∨ i = W2.heap.size + 1 ∨ i < w.heap.size) (by omega) (by omega) (by omega) (by omega) HSS.out pre x W w1 bs v v' h1 h2 h3 h4 h5 h6 h7 bX hBx (.cells #[.slice (some ⟨Bx, 0, none⟩) 32 32] 41) ho hg (by omega))
    have h3' : (W.drew.alloc (.cells #[.slice (some ⟨Bx, 0, none⟩) 32 32] 41)).ownsRow W3.heap.size 41 1 v bs.length (EN bs) := World.ownsRow.alloc (show W.drew.ownsRow W3.heap.size 41 1 v bs.length (EN bs) from h3) _
    have H3' := Lib.hid h3'
    have HC := Lib.hid (show W.drew.cell? ⟨w.heap.size + 2, 0, none⟩ = some v from h2.cell)
    have HCA := Lib.hid (show (W.drew.alloc (.cells #[.slice (some ⟨Bx, 0, none⟩) 32 32] 41)).cell? ⟨w.heap.size + 2, 0, none⟩ = some v from (Boxed.below (show Boxed W.drew (w.heap.size + 2) 59 v from h2) ((Below.refl _ _).alloc (Nat.le_refl _) _)).cell)
    have hbl : bs.length ≤ 1000 := by omega
    clear hc1 h1 h2 h3 h4 h5 h6 h3'
    gi_wp2
    refine wpIn_region_any (by kernel_rfl) ?_
    change wpAnyIn _ _ _ _ _ _ _ _ _ W.drew
    refine wpAnyIn_ready (rs := [0, 1]) (by kernel_rfl) (by simp) ?_
    refine (AllReadyIn.cons (o := _) rfl (fun K hK => ?_) (AllReadyIn.cons (o := _) rfl (fun K hK => ?_) AllReadyIn.nil))
    · refine inr_load1 12 (.tmp 5) (w.heap.size + 2) v rfl rfl rfl rfl HC.out (hK _ _ ?_)
      simp only [Act.put, List.setIfInBounds_toArray, List.set_cons_zero, List.set_cons_succ]
      clear hK K
      refine wpAnyIn_ready (rs := [1]) (by kernel_rfl) (by simp) ?_
      refine (AllReadyIn.cons (o := _) rfl (fun K hK => ?_) AllReadyIn.nil)
      refine inr_arr 13 (.tmp 6) Bx rfl rfl rfl rfl (hK _ _ ?_)
      simp only [Act.put, List.setIfInBounds_toArray, List.set_cons_zero, List.set_cons_succ]
      clear hK K
      refine wpAnyIn_ready (rs := [2]) (by kernel_rfl) (by simp) ?_
      refine (AllReadyIn.cons (o := _) rfl (fun K hK => ?_) AllReadyIn.nil)
      refine inr_bs 14 (.tmp 13) (.slice (some ⟨Bx, 0, none⟩) 32 32) (some ⟨Bx, 0, none⟩) 32 32 rfl rfl rfl rfl rfl (hK _ _ ?_)
      simp only [Act.put, List.setIfInBounds_toArray, List.set_cons_zero, List.set_cons_succ]
      clear hK K
      refine wpAnyIn_ready (rs := [3]) (by kernel_rfl) (by simp) ?_
      refine (AllReadyIn.cons (o := _) rfl (fun K hK => ?_) AllReadyIn.nil)
      refine inr_app 15 (.tmp 12) (.tmp 14) W3.heap.size W.heap.size bs.length v (.slice (some ⟨Bx, 0, none⟩) 32 32) (EN bs) rfl rfl rfl rfl rfl H3'.out (cell_of_row _ W.heap.size 0 _ _ _ (heap_alloc_new W.drew _)) rfl hbl (by simp; omega) (fun v' w1 ho hg => ?_)
      obtain ⟨g', cap', rfl⟩ := ownsRow_succ ho
      obtain ⟨fa, fb, fc⟩ := FIN.out _ w1 ho hg
      refine hK _ _ ?_
      simp only [Act.put, List.setIfInBounds_toArray, List.set_cons_zero, List.set_cons_succ]
      clear hK K
      refine wpAnyIn_ready (rs := [4]) (by kernel_rfl) (by simp) ?_
      refine (AllReadyIn.cons (o := _) rfl (fun K hK => ?_) AllReadyIn.nil)
      refine inr_store1 (.tmp 5) (.tmp 15) (w.heap.size + 2) v _ rfl rfl rfl rfl rfl _ _ _ rfl fa fb (hK _ _ ?_)
      clear hK K
      refine wpAnyIn_done (by kernel_rfl) ?_ _
      exact ⟨fc.1, fc.2.1, fc.2.2⟩
    · refine inr_arr 13 (.tmp 6) Bx rfl rfl rfl rfl (hK _ _ ?_)
      simp only [Act.put, List.setIfInBounds_toArray, List.set_cons_zero, List.set_cons_succ]
      clear hK K
      refine wpAnyIn_ready (rs := [0, 2]) (by kernel_rfl) (by simp) ?_
      refine (AllReadyIn.cons (o := _) rfl (fun K hK => ?_) (AllReadyIn.cons (o := _) rfl (fun K hK => ?_) AllReadyIn.nil))
      · refine inr_load1 12 (.tmp 5) (w.heap.size + 2) v rfl rfl rfl rfl HC.out (hK _ _ ?_)
        simp only [Act.put, List.setIfInBounds_toArray, List.set_cons_zero, List.set_cons_succ]
        clear hK K
        refine wpAnyIn_ready (rs := [2]) (by kernel_rfl) (by simp) ?_
        refine (AllReadyIn.cons (o := _) rfl (fun K hK => ?_) AllReadyIn.nil)
        refine inr_bs 14 (.tmp 13) (.slice (some ⟨Bx, 0, none⟩) 32 32) (some ⟨Bx, 0, none⟩) 32 32 rfl rfl rfl rfl rfl (hK _ _ ?_)
        simp only [Act.put, List.setIfInBounds_toArray, List.set_cons_zero, List.set_cons_succ]
        clear hK K
        refine wpAnyIn_ready (rs := [3]) (by kernel_rfl) (by simp) ?_
        refine (AllReadyIn.cons (o := _) rfl (fun K hK => ?_) AllReadyIn.nil)
        refine inr_app 15 (.tmp 12) (.tmp 14) W3.heap.size W.heap.size bs.length v (.slice (some ⟨Bx, 0, none⟩) 32 32) (EN bs) rfl rfl rfl rfl rfl H3'.out (cell_of_row _ W.heap.size 0 _ _ _ (heap_alloc_new W.drew _)) rfl hbl (by simp; omega) (fun v' w1 ho hg => ?_)
        obtain ⟨g', cap', rfl⟩ := ownsRow_succ ho
        obtain ⟨fa, fb, fc⟩ := FIN.out _ w1 ho hg
        refine hK _ _ ?_
        simp only [Act.put, List.setIfInBounds_toArray, List.set_cons_zero, List.set_cons_succ]
        clear hK K
        refine wpAnyIn_ready (rs := [4]) (by kernel_rfl) (by simp) ?_
        refine (AllReadyIn.cons (o := _) rfl (fun K hK => ?_) AllReadyIn.nil)
        refine inr_store1 (.tmp 5) (.tmp 15) (w.heap.size + 2) v _ rfl rfl rfl rfl rfl _ _ _ rfl fa fb (hK _ _ ?_)
        clear hK K
        refine wpAnyIn_done (by kernel_rfl) ?_ _
        exact ⟨fc.1, fc.2.1, fc.2.2⟩
      · refine inr_bs 14 (.tmp 13) (.slice (some ⟨Bx, 0, none⟩) 32 32) (some ⟨Bx, 0, none⟩) 32 32 rfl rfl rfl rfl rfl (hK _ _ ?_)
        simp only [Act.put, List.setIfInBounds_toArray, List.set_cons_zero, List.set_cons_succ]
        clear hK K
        refine wpAnyIn_ready (rs := [0]) (by kernel_rfl) (by simp) ?_
        refine (AllReadyIn.cons (o := _) rfl (fun K hK => ?_) AllReadyIn.nil)
        refine inr_load1 12 (.tmp 5) (w.heap.size + 2) v rfl rfl rfl rfl HCA.out (hK _ _ ?_)
        simp only [Act.put, List.setIfInBounds_toArray, List.set_cons_zero, List.set_cons_succ]
        clear hK K
        refine wpAnyIn_ready (rs := [3]) (by kernel_rfl) (by simp) ?_
        refine (AllReadyIn.cons (o := _) rfl (fun K hK => ?_) AllReadyIn.nil)
        refine inr_app 15 (.tmp 12) (.tmp 14) W3.heap.size W.heap.size bs.length v (.slice (some ⟨Bx, 0, none⟩) 32 32) (EN bs) rfl rfl rfl rfl rfl H3'.out (cell_of_row _ W.heap.size 0 _ _ _ (heap_alloc_new W.drew _)) rfl hbl (by simp; omega) (fun v' w1 ho hg => ?_)
        obtain ⟨g', cap', rfl⟩ := ownsRow_succ ho
        obtain ⟨fa, fb, fc⟩ := FIN.out _ w1 ho hg
        refine hK _ _ ?_
        simp only [Act.put, List.setIfInBounds_toArray, List.set_cons_zero, List.set_cons_succ]
        clear hK K
        refine wpAnyIn_ready (rs := [4]) (by kernel_rfl) (by simp) ?_
        refine (AllReadyIn.cons (o := _) rfl (fun K hK => ?_) AllReadyIn.nil)
        refine inr_store1 (.tmp 5) (.tmp 15) (w.heap.size + 2) v _ rfl rfl rfl rfl rfl _ _ _ rfl fa fb (hK _ _ ?_)
        clear hK K
        refine wpAnyIn_done (by kernel_rfl) ?_ _
        exact ⟨fc.1, fc.2.1, fc.2.2⟩
  case done =>
    rintro D' ys W hD' rfl ⟨bs, v, h1, h2, h3, h4, h5, h6, h7⟩ hK
    have h1' := h1
    rw [rc_len] at h1
    rw [h1] at h3
    obtain ⟨g', cap', rfl⟩ := ownsRow_succ h3
    have hc := h2.cell
    have hcaps : 19 ≤ cap' ∧ cap' ≤ 9223372036854775807 ∧ g' < W.heap.size := by
      rcases h3.2 with ⟨e, _⟩ | ⟨g, cap, cur, e, _, hgb, k1, k2, _⟩
      · cases e
      · injection e with e1 _ e3
        injection e1 with e1
        injection e1 with e1 _
        subst e1 e3
        exact ⟨k1, k2, (Array.getElem?_eq_some_iff.1 hgb).1⟩
    obtain ⟨hq1, hq2, hq3⟩ := hcaps
    have hp := eni_parts HRD.out bs g' cap' h1' (by rw [h1]; exact h3) h4
    have hpl : ((bs.zip (rc L (lft D) 19)).map fun p => ((some ⟨p.1, 0, none⟩, 32, p.2) : Pt)).length = 19 := by rw [List.length_map, List.length_zip, h1, rc_len]; rfl
    have C := ctag_all publicT _ g' cap' W (by decide) hp hq3 (by rw [hpl]; exact hq1) hq2 (by rw [hpl]; omega) (by rw [tot_map bs _ h1' HRD.out, rc_len]; omega) (HK.out.keep (h6.block 0 hlt0))
    rw [hpl, cat_map bs _ h1'] at C
    have CC := Lib.hid ((callsIn_wide (n := n - 1)).2 C)
    have HH5 := Lib.hid h5
    have HH6 := Lib.hid h6
    have HK' := Lib.hid hK
    clear C hp hpl h1' h1 h2 h3 h4 h5 h6 hK hc1
    gi_wp2
    refine ⟨trivial, ?_⟩
    gi_at_call 40
    refine CC.out.mono ?_
    rintro e W5 ⟨rfl, hb5⟩
    have r5 := HH5.out.keep (hb5.block _ (by omega))
    have hd5 : W5.heap[D']? = some (.deferred (some [])) := (hb5.block D' (Array.getElem?_eq_some_iff.1 HK'.out).1).trans HK'.out
    have hlen : (pubk (rc L (lft D) 19)).length = 32 := pubk_len _
    have HR6 := Lib.hid (r5.setRow (pubk (rc L (lft D) 19)))
    have HD6 := Lib.hid (show (W5.setRow (w.heap.size + 1) (U (pubk (rc L (lft D) 19))).toArray).heap[D']? = some (.deferred (some [])) from (setRow_other _ _ _ _ (by omega)).trans hd5)
    have HB6 := Lib.hid (below_setRow (HH6.out.trans (hb5.mono HH6.out.size)) (show w.heap.size ≤ w.heap.size + 1 by omega) (U (pubk (rc L (lft D) 19))).toArray)
    have HPL := Lib.hid hlen
    clear hb5 hd5 CC hc hlen
    gi_wp2_with (refine in_store rfl (.tmp 4) (.tmp 17) rfl (w.heap.size + 1) (flb 32 []) (pubk (rc L (lft D) 19)) rfl rfl r5 (by simp [flb]) HPL.out ?_)
    refine ⟨by simp, .inl ⟨_, _, rfl, run_takeDeferred HD6.out, ?_⟩⟩
    have hr7 : RowB ((W5.setRow (w.heap.size + 1) (U (pubk (rc L (lft D) 19))).toArray).putObj D' (.deferred none)) (w.heap.size + 1) 23 (pubk (rc L (lft D) 19)) := HR6.out.keep (World.putObj_heap_other (by omega))
    refine ⟨_, res_B rfl _ _ _ _ _ rfl hr7 HPL.out, rfl, HB6.out.trans (belowK_b (w := w) (Nat.le_refl _) _ D' _ _ (by omega) HD6.out rfl rfl)⟩
  case stop =>
    rintro D' c pre W _ _ h _
    exact h.elim

set_option maxHeartbeats 1000000 in
theorem public_all (L : List (List UInt8)) (A : Option Addr) (cap : Nat) (D : List Nat) (hL : L.length = 19) (hD : D.length = 19) (h3 : ∀ d ∈ D, d ≤ 3) (w : World) (hl : DL w (· < w.heap.size) L A cap) (hk : KR w Kt) :
    Calls Tryd.prog 30 #[.slice A 19 cap, .agg (NI D).toArray] w fun e W' => e = .returned (.agg (U (pubk (rc L (lft D) 19))).toArray) ∧ Below w.heap.size w W' :=
  callsIn_wide.1 (public_in 9 (Nat.le_refl _) L A cap D hL hD h3 w hl hk)
end Go.Proofs.YtllkkafajchioaaDoor
