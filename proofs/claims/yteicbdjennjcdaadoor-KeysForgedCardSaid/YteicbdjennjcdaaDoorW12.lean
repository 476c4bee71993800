/- Several texts joined: parts LL LM. -/
import Derived.Deep.CutRange
import Derived.Test.YteicbdjennjcdaaDoorW11
namespace Go.Proofs.YteicbdjennjcdaaDoor
section
set_option maxRecDepth 100000
open Go.RowKit

theorem ev_dec {o : Oper} {a : Act} {w : World} (x y : Operand) (N : Nat) (hN : N ≤ 1000000000000000) (ho : o.op = .binOp .sub 3 x y 3) (hx : a.eval x = .int .i64 ((N + 1 : Nat) : Int)) (hy : a.eval y = .int .i64 1) :
    (execOp a.eval o).run Tryd.prog w = .ok (.value (.int .i64 (N : Int))) w := by
  have := ev_sub (w := w) x y ((N + 1 : Nat) : Int) 1 ho hx hy (by omega) (by omega)
  rwa [show ((N + 1 : Nat) : Int) - 1 = N by omega] at this
theorem enters_rclimb : Enters Tryd.prog 84 := enters_of Tryd.func84 (by kernel_rfl) rfl
theorem enters_rnode : Enters Tryd.prog 69 := enters_of Tryd.func69 (by kernel_rfl) rfl

set_option maxRecDepth 100000 in
set_option maxHeartbeats 1600000 in
theorem rclimb_leaf (d : List UInt8) (hd : d.length = 32) (w : World) (A : Option Addr) (cap : Nat) :
    Calls Tryd.prog 84 #[.agg (U d).toArray, .int .i64 0, .int .i64 1, .slice A 0 cap] w fun e w' => e = .returned (.agg (U (leafd d)).toArray) ∧ Below w.heap.size w w' := by
  obtain ⟨W1, hW1⟩ : ∃ W1, (w.alloc (.cells (U d).toArray 23)).alloc (.cells (U (flb 32 [])).toArray 23) = W1 := ⟨_, rfl⟩
  obtain ⟨h0, h1, hb1, hz1⟩ := box2 w (U d).toArray (U (flb 32 [])).toArray 23 23 W1 hW1
  have hr0 : RowB W1 w.heap.size 23 d := h0
  have hr1 : RowB W1 (w.heap.size + 1) 23 (flb 32 []) := h1
  have C := Lib.hid (show Calls Tryd.prog 43 #[.string leafT, .slice (some ⟨w.heap.size, 0, none⟩) 32 32] W1 fun e w' => e = .returned (.agg (U (leafd d)).toArray) ∧ Below W1.heap.size W1 w' from by
    have := rtagged_all leafT d (some ⟨w.heap.size, 0, none⟩) 32 W1 (by decide) (by omega) ((hr0.b32 hd).keep fun i hi => ⟨by omega, rfl⟩)
    rwa [hd] at this)
  have HW1 := Lib.hid hW1
  have HR1 := Lib.hid hr1
  have HB1 := Lib.hid hb1
  clear h0 h1 hr0 hr1 hb1 hW1
  go_enter Tryd.func84, Tryd.ntmps84
  go_wp2_with fail
  generalize hW1' : (w.alloc _).alloc _ = W1'
  have e9 : W1' = W1 := hW1'.symm.trans HW1.out
  clear hW1'
  rw [e9]
  clear e9 W1'
  refine C.out.mono ?_
  rintro e w2 ⟨rfl, hb2⟩
  have hd2 : RowB w2 (w.heap.size + 1) 23 (flb 32 []) := (hb2.block _ (by omega)).trans HR1.out
  have hr2 := hd2.setRow (leafd d)
  have HB2 := Lib.hid (HB1.out.trans (hb2.mono (by omega)))
  clear C hb2
  go_wp2_with (refine store_B rfl (.tmp 8) (.tmp 14) rfl (w.heap.size + 1) (flb 32 []) (leafd d) rfl rfl 23 hd2 (tagd_len _ _) (by simp [flb]) ?_)
  exact bodyPost_ret (res_B rfl _ _ _ _ _ rfl hr2 (tagd_len _ _)) rfl ⟨rfl, below_setRow HB2.out (by omega) _⟩

set_option maxRecDepth 100000 in
set_option maxHeartbeats 3200000 in
theorem rclimb_all (f : Nat) : ∀ (d : List UInt8) (i n : Nat) (P : List (List UInt8)) (A : Option Addr) (cap : Nat) (w : World), d.length = 32 → i < n → n ≤ f → f ≤ 1099511627776 → DL w (· < w.heap.size) P A cap → P.length = stp f i n →
    Calls Tryd.prog 84 #[.agg (U d).toArray, .int .i64 i, .int .i64 n, .slice A P.length cap] w fun e w' => e = .returned (.agg (U (clm f d i n P)).toArray) ∧ Below w.heap.size w w' := by
  induction f with
  | zero => intro d i n P A cap w _ h1 h2; omega
  | succ f ih =>
    intro d i n P A cap w hd hi hfu hf2 hl hp
    by_cases h1 : n = 1
    · subst h1
      obtain rfl : i = 0 := by omega
      have h0 : P = [] := List.eq_nil_of_length_eq_zero (by rw [hp, stp, if_pos (by omega)])
      subst h0
      have := rclimb_leaf d hd w A cap
      rw [clm, if_pos (by omega)]
      exact this
    obtain ⟨k, _, _, hk1, hk2, hk3⟩ := hf_spec n (by omega) (by omega)
    obtain ⟨K, hK⟩ : ∃ K, K = hf n := ⟨_, rfl⟩
    rw [← hK] at hk1 hk2 hk3
    have hp1 : i < K → P.length = 1 + stp f i K := fun h => by rw [hp, stp, if_neg (by omega), ← hK, if_pos h]
    have hp2 : ¬ i < K → P.length = 1 + stp f (i - K) (n - K) := fun h => by rw [hp, stp, if_neg (by omega), ← hK, if_neg h]
    have hp0 : 0 < P.length := by
      by_cases h : i < K
      · have := hp1 h; omega
      · have := hp2 h; omega
    have hc1 : i < K → clm (f + 1) d i n P = noded (clm f d i K P.dropLast) (P.getLastD []) := fun h => by rw [clm, if_neg (by omega), ← hK, if_pos h]
    have hc2 : ¬ i < K → clm (f + 1) d i n P = noded (P.getLastD []) (clm f d (i - K) (n - K) P.dropLast) := fun h => by rw [clm, if_neg (by omega), ← hK, if_neg h]
    obtain ⟨b, o, rfl, hS, hat⟩ := hl.2.2.2.2 hp0
    obtain ⟨X, hX⟩ : ∃ X, X = P.getLastD [] := ⟨_, rfl⟩
    have hgl := last_get P hp0
    rw [← hX] at hgl
    have hXl : X.length = 32 := hl.2.2.2.1 X (List.mem_of_getElem? hgl)
    obtain ⟨N, hN⟩ : ∃ N, P.length = N + 1 := ⟨P.length - 1, by omega⟩
    rw [hN, Nat.add_sub_cancel] at hgl
    have hrx := hat _ _ hgl
    have hdl : DL w (· < w.heap.size) P.dropLast (some ⟨b, o, none⟩) cap := by rw [dropLast_take]; exact hl.take _
    have hdn : P.dropLast.length = N := by rw [List.length_dropLast, hN]; rfl
    obtain ⟨D, hD⟩ : ∃ D, D = P.dropLast := ⟨_, rfl⟩
    rw [← hD] at hdl hdn hc1 hc2
    rw [← hX] at hc1 hc2
    have hcap := hl.1
    have hcm : cap ≤ 9223372036854775807 := hl.2.1
    rw [hN] at hp1 hp2 hcap
    rw [hN]
    clear hp hl hat hD hX hN hp0 hgl
    have hsl := stp_le (f + 1) i n
    have b9 : N ≤ 1000000000000000 := by
      by_cases hh : i < K
      · have := hp1 hh; have := stp_le f i K; omega
      · have := hp2 hh; have := stp_le f (i - K) (n - K); omega
    clear hsl
    obtain ⟨W1, hW1⟩ : ∃ W1, (w.alloc (.cells (U d).toArray 23)).alloc (.cells (U (flb 32 [])).toArray 23) = W1 := ⟨_, rfl⟩
    obtain ⟨h0, h1', hb1, hz1⟩ := box2 w (U d).toArray (U (flb 32 [])).toArray 23 23 W1 hW1
    have hn2 : RowB (W1.alloc (.cells (U (flb 32 [])).toArray 23)) W1.heap.size 23 (flb 32 []) := heap_alloc_new W1 _
    obtain ⟨W3, hW3⟩ : ∃ W3, (W1.alloc (.cells (U (flb 32 [])).toArray 23)).setRow W1.heap.size (U X).toArray = W3 := ⟨_, rfl⟩
    have hr3 : RowB W3 W1.heap.size 23 X := by rw [← hW3]; exact hn2.setRow X
    have hb3 : Below W1.heap.size W1 W3 := by rw [← hW3]; exact below_setRow ((Below.refl _ _).alloc (Nat.le_refl _) _) (Nat.le_refl _) _
    have hz3 : W1.heap.size < W3.heap.size := hr3.lt
    have KEEP := Lib.hid (show ∀ ww, Below W3.heap.size W3 ww → DL ww (· < ww.heap.size) D (some ⟨b, o, none⟩) cap ∧ RowB ww w.heap.size 23 d ∧ RowB ww (w.heap.size + 1) 23 (flb 32 []) ∧ RowB ww W1.heap.size 23 X ∧ Below w.heap.size w ww from fun ww h => by
      have hh : Below W1.heap.size W1 ww := hb3.trans (h.mono (by omega))
      have hw : Below w.heap.size w ww := hb1.trans (hh.mono (by omega))
      have := hw.size
      exact ⟨hdl.keep fun i hi => ⟨by omega, hw.block i hi⟩, (hh.block _ (by omega)).trans h0, (hh.block _ (by omega)).trans h1', hr3.keep (h.block _ hz3), hw⟩)
    have STEP := Lib.hid (show ∀ ww w', Below W3.heap.size W3 ww → Below ww.heap.size ww w' → Below W3.heap.size W3 w' from fun ww w' h1 h2 => h1.trans (h2.mono h1.size))
    have C := Lib.hid (half_all n W1 (by omega) (by omega))
    rw [← hK] at C
    have CA := Lib.hid (show i < K → ∀ ww, Below W3.heap.size W3 ww → Calls Tryd.prog 84 #[.agg (U d).toArray, .int .i64 i, .int .i64 K, .slice (some ⟨b, o, none⟩) N cap] ww fun e w' => e = .returned (.agg (U (clm f d i K D)).toArray) ∧ Below ww.heap.size ww w' from fun hik ww h => by
      have := ih d i K D (some ⟨b, o, none⟩) cap ww hd hik (by omega) (by omega) (KEEP.out ww h).1 (by have := hp1 hik; omega)
      rwa [hdn] at this)
    have CB := Lib.hid (show ¬ i < K → ∀ ww, Below W3.heap.size W3 ww → Calls Tryd.prog 84 #[.agg (U d).toArray, .int .i64 ((i : Int) - K), .int .i64 ((n : Int) - K), .slice (some ⟨b, o, none⟩) N cap] ww fun e w' => e = .returned (.agg (U (clm f d (i - K) (n - K) D)).toArray) ∧ Below ww.heap.size ww w' from fun hik ww h => by
      have := ih d (i - K) (n - K) D (some ⟨b, o, none⟩) cap ww hd (by omega) (by omega) (by omega) (KEEP.out ww h).1 (by have := hp2 hik; omega)
      rwa [hdn, show ((i - K : Nat) : Int) = (i : Int) - K by omega, show ((n - K : Nat) : Int) = (n : Int) - K by omega] at this)
    have HD := Lib.hid hd
    have HXL := Lib.hid hXl
    have HC1 := Lib.hid hc1
    have HC2 := Lib.hid hc2
    have HW1 := Lib.hid hW1
    have HW3 := Lib.hid hW3
    have hrx1 : W1.rangeAt b (o + N * 32) (U X) := fun j u hu => (World.cell?_of_block (hb1.block b hS)).trans (hrx j u hu)
    have HN2 := Lib.hid hn2
    have hn1 : ¬ n = 1 := h1
    have b1 : N ≤ cap := by omega
    have b2 : (N : Int) ≤ cap := by omega
    have b3 : N < N + 1 := by omega
    have b5 : N + 1 ≤ cap := hcap
    have b6 : IntKind.i64.wrap (((N + 1 : Nat) : Int) - 1) = N := by rw [show ((N + 1 : Nat) : Int) - 1 = N by omega]; exact IntWalk.i64_in _ (by omega)
    have HZ1 := Lib.hid hz1
    have hz1' : w.heap.size + 2 ≤ W1.heap.size := by omega
    clear ih hd hdl hdn hXl hrx hK hp1 hp2 hc1 hc2 h0 h1' hb1 hz1 hW1 h1 hn2 hW3 hr3 hb3 b6
    go_enter Tryd.func84, Tryd.ntmps84
    go_wp2_with fail
    generalize hW1' : (w.alloc _).alloc _ = W1'
    have e9 : W1' = W1 := hW1'.symm.trans HW1.out
    clear hW1'
    rw [e9]
    clear e9 W1'
    refine C.out.mono ?_
    rintro e w' ⟨rfl, hw'⟩
    rw [hw']
    clear hw' w'
    have hbx : Below W3.heap.size W3 W3.drew := (Below.refl _ _).drew
    by_cases hik : i < K
    · go_upto_region 6 with (first
        | (refine load_D rfl (.tmp 21) rfl b (o + N * 32) X rfl hrx1 HXL.out ?_)
        | (refine store_B rfl (.tmp 10) (.tmp 22) rfl W1.heap.size (flb 32 []) X rfl rfl 23 HN2.out HXL.out (by simp [flb]) ?_))
      generalize hW3' : World.setRow _ _ _ = W3'
      have e9 : W3' = W3 := hW3'.symm.trans HW3.out
      clear hW3'
      rw [e9]
      clear e9 W3' hrx1
      try simp only [Act.put]
      go_wp2_with fail
      have CX := CA.out hik
      refine wp_region_noPanic ?_
      refine wp_region_held_drew (S := fun w' => w'.rangeAt w.heap.size 0 (U d) ∧ w'.rangeAt W1.heap.size 0 (U X)) (by kernel_rfl) ⟨(KEEP.out _ hbx).2.1.range, (KEEP.out _ hbx).2.2.2.1.range⟩ (fun hHeld => ?_)
      refine tk_load 0 26 (.tmp 4) w.heap.size 0 d rfl (by kernel_rfl) (by kernel_rfl) (by kernel_rfl) (fun _ _ _ _ h => h) rfl rfl rfl rfl (fun _ h => h.1) HD.out hHeld ?_
      simp only [Act.put, List.setIfInBounds_toArray, List.set_cons_zero, List.set_cons_succ]
      refine tk_move 1 27 (.tmp 1) (.int .i64 i) rfl (by kernel_rfl) (by kernel_rfl) (by kernel_rfl) (fun _ _ _ _ h => h) rfl rfl rfl rfl hHeld ?_
      simp only [Act.put, List.setIfInBounds_toArray, List.set_cons_zero, List.set_cons_succ]
      refine tk_move 2 28 (.tmp 9) (.int .i64 K) rfl (by kernel_rfl) (by kernel_rfl) (by kernel_rfl) (fun _ _ _ _ h => h) rfl rfl rfl rfl hHeld ?_
      simp only [Act.put, List.setIfInBounds_toArray, List.set_cons_zero, List.set_cons_succ]
      refine tk_move 3 29 (.tmp 3) (.slice (some ⟨b, o, none⟩) (N + 1) cap) rfl (by kernel_rfl) (by kernel_rfl) (by kernel_rfl) (fun _ _ _ _ h => h) rfl rfl rfl rfl hHeld ?_
      simp only [Act.put, List.setIfInBounds_toArray, List.set_cons_zero, List.set_cons_succ]
      refine tk_move 4 30 (.tmp 3) (.slice (some ⟨b, o, none⟩) (N + 1) cap) rfl (by kernel_rfl) (by kernel_rfl) (by kernel_rfl) (fun _ _ _ _ h => h) rfl rfl rfl rfl hHeld ?_
      simp only [Act.put, List.setIfInBounds_toArray, List.set_cons_zero, List.set_cons_succ]
      refine tk_val 5 31 (.int .i64 ((N + 1 : Nat) : Int)) rfl (by kernel_rfl) (by kernel_rfl) (by kernel_rfl) (fun _ _ _ _ h => h) rfl rfl (fun w _ => ev_len (.tmp 30) _ _ _ rfl rfl) hHeld ?_
      simp only [Act.put, List.setIfInBounds_toArray, List.set_cons_zero, List.set_cons_succ]
      refine tk_val 6 32 (.int .i64 (N : Int)) rfl (by kernel_rfl) (by kernel_rfl) (by kernel_rfl) (fun _ _ _ _ h => h) rfl rfl (fun w _ => ev_dec (.tmp 31) (.const (.int .i64 1)) N b9 rfl rfl rfl) hHeld ?_
      simp only [Act.put, List.setIfInBounds_toArray, List.set_cons_zero, List.set_cons_succ]
      refine tk_val 7 33 (.slice (some ⟨b, o, none⟩) N cap) rfl (by kernel_rfl) (by kernel_rfl) (by kernel_rfl) (fun _ _ _ _ h => h) rfl rfl (fun w _ => ev_slice_to (.tmp 29) (.tmp 32) b o (N + 1) cap N rfl rfl rfl b1) hHeld ?_
      simp only [Act.put, List.setIfInBounds_toArray, List.set_cons_zero, List.set_cons_succ]
      refine tk_load 9 35 (.tmp 10) W1.heap.size 0 X rfl (by kernel_rfl) (by kernel_rfl) (by kernel_rfl) (fun _ _ _ _ h => h) rfl rfl rfl rfl (fun _ h => h.2) HXL.out hHeld ?_
      simp only [Act.put, List.setIfInBounds_toArray, List.set_cons_zero, List.set_cons_succ]
      refine lone 8 (by kernel_rfl) rfl (fun K' hK' => to_call 84 34 _ _ #[.agg (U d).toArray, .int .i64 i, .int .i64 K, .slice (some ⟨b, o, none⟩) N cap] _ rfl rfl rfl rfl enters_rclimb (CX _ hbx) (fun e w5 h5 => ⟨_, h5.1, ?_⟩))
      have hb5 := STEP.out _ _ hbx h5.2
      refine hK' _ _ ⟨(KEEP.out _ hb5).2.1.range, (KEEP.out _ hb5).2.2.2.1.range⟩ ?_
      simp only [Act.put, List.setIfInBounds_toArray, List.set_cons_zero, List.set_cons_succ]
      refine lone 10 (by kernel_rfl) rfl (fun K'' hK'' => to_call 69 36 _ _ #[.agg (U (clm f d i K D)).toArray, .agg (U X).toArray] _ rfl rfl rfl rfl enters_rnode (rnode_all (clm f d i K D) X w5 (clm_len _ _ _ _ _) HXL.out) (fun e w7 h7 => ⟨_, h7.1, ?_⟩))
      have hb7 := STEP.out _ _ hb5 h7.2
      refine hK'' _ _ ⟨(KEEP.out _ hb7).2.1.range, (KEEP.out _ hb7).2.2.2.1.range⟩ ?_
      simp only [Act.put, List.setIfInBounds_toArray, List.set_cons_zero, List.set_cons_succ]
      have hr7 := (KEEP.out _ hb7).2.2.1
      have hr8 := hr7.setRow (noded (clm f d i K D) X)
      have hb8 := below_setRow (KEEP.out _ hb7).2.2.2.2 (show w.heap.size ≤ w.heap.size + 1 by omega) (U (noded (clm f d i K D) X)).toArray
      refine lone 11 (by kernel_rfl) rfl (fun K3 hK3 => step_store_d rfl (.tmp 8) (.tmp 36) rfl rfl (w.heap.size + 1) (flb 32 []) (noded (clm f d i K D) X) rfl rfl hr7 (by simp [flb]) (tagd_len _ _) (hK3 _ _ ⟨?_, ?_⟩ ?_))
      · exact ((KEEP.out _ hb7).2.1.keep (setRow_other _ _ _ _ (by omega))).range
      · exact ((KEEP.out _ hb7).2.2.2.1.keep (setRow_other _ _ _ _ (by omega))).range
      refine wpAnyH_done (by kernel_rfl) (NoPanic.normal ?_) _
      have HR8 := Lib.hid hr8
      have HB8 := Lib.hid hb8
      clear hr7 hr8 hb7 hb8 hb5 h5 h7 hHeld hbx
      go_wp2_with fail
      rw [HC1.out hik]
      exact bodyPost_ret (res_B rfl _ _ _ _ _ rfl HR8.out (tagd_len _ _)) rfl ⟨rfl, HB8.out⟩
    · go_upto_region 7 with (first
        | (refine load_D rfl (.tmp 21) rfl b (o + N * 32) X rfl hrx1 HXL.out ?_)
        | (refine store_B rfl (.tmp 10) (.tmp 22) rfl W1.heap.size (flb 32 []) X rfl rfl 23 HN2.out HXL.out (by simp [flb]) ?_))
      generalize hW3' : World.setRow _ _ _ = W3'
      have e9 : W3' = W3 := hW3'.symm.trans HW3.out
      clear hW3'
      rw [e9]
      clear e9 W3' hrx1
      try simp only [Act.put]
      go_wp2_with fail
      have CX := CB.out hik
      refine wp_region_noPanic ?_
      refine wp_region_held_drew (S := fun w' => w'.rangeAt w.heap.size 0 (U d) ∧ w'.rangeAt W1.heap.size 0 (U X)) (by kernel_rfl) ⟨(KEEP.out _ hbx).2.1.range, (KEEP.out _ hbx).2.2.2.1.range⟩ (fun hHeld => ?_)
      refine tk_load 0 37 (.tmp 10) W1.heap.size 0 X rfl (by kernel_rfl) (by kernel_rfl) (by kernel_rfl) (fun _ _ _ _ h => h) rfl rfl rfl rfl (fun _ h => h.2) HXL.out hHeld ?_
      simp only [Act.put, List.setIfInBounds_toArray, List.set_cons_zero, List.set_cons_succ]
      refine tk_load 1 38 (.tmp 4) w.heap.size 0 d rfl (by kernel_rfl) (by kernel_rfl) (by kernel_rfl) (fun _ _ _ _ h => h) rfl rfl rfl rfl (fun _ h => h.1) HD.out hHeld ?_
      simp only [Act.put, List.setIfInBounds_toArray, List.set_cons_zero, List.set_cons_succ]
      refine tk_move 2 39 (.tmp 1) (.int .i64 i) rfl (by kernel_rfl) (by kernel_rfl) (by kernel_rfl) (fun _ _ _ _ h => h) rfl rfl rfl rfl hHeld ?_
      simp only [Act.put, List.setIfInBounds_toArray, List.set_cons_zero, List.set_cons_succ]
      refine tk_move 3 40 (.tmp 9) (.int .i64 K) rfl (by kernel_rfl) (by kernel_rfl) (by kernel_rfl) (fun _ _ _ _ h => h) rfl rfl rfl rfl hHeld ?_
      simp only [Act.put, List.setIfInBounds_toArray, List.set_cons_zero, List.set_cons_succ]
      refine tk_val 4 41 (.int .i64 ((i : Int) - K)) rfl (by kernel_rfl) (by kernel_rfl) (by kernel_rfl) (fun _ _ _ _ h => h) rfl rfl (fun w _ => ev_sub (.tmp 39) (.tmp 40) i K rfl rfl rfl (by omega) (by omega)) hHeld ?_
      simp only [Act.put, List.setIfInBounds_toArray, List.set_cons_zero, List.set_cons_succ]
      refine tk_move 5 42 (.tmp 2) (.int .i64 n) rfl (by kernel_rfl) (by kernel_rfl) (by kernel_rfl) (fun _ _ _ _ h => h) rfl rfl rfl rfl hHeld ?_
      simp only [Act.put, List.setIfInBounds_toArray, List.set_cons_zero, List.set_cons_succ]
      refine tk_move 6 43 (.tmp 9) (.int .i64 K) rfl (by kernel_rfl) (by kernel_rfl) (by kernel_rfl) (fun _ _ _ _ h => h) rfl rfl rfl rfl hHeld ?_
      simp only [Act.put, List.setIfInBounds_toArray, List.set_cons_zero, List.set_cons_succ]
      refine tk_val 7 44 (.int .i64 ((n : Int) - K)) rfl (by kernel_rfl) (by kernel_rfl) (by kernel_rfl) (fun _ _ _ _ h => h) rfl rfl (fun w _ => ev_sub (.tmp 42) (.tmp 43) n K rfl rfl rfl (by omega) (by omega)) hHeld ?_
      simp only [Act.put, List.setIfInBounds_toArray, List.set_cons_zero, List.set_cons_succ]
      refine tk_move 8 45 (.tmp 3) (.slice (some ⟨b, o, none⟩) (N + 1) cap) rfl (by kernel_rfl) (by kernel_rfl) (by kernel_rfl) (fun _ _ _ _ h => h) rfl rfl rfl rfl hHeld ?_
      simp only [Act.put, List.setIfInBounds_toArray, List.set_cons_zero, List.set_cons_succ]
      refine tk_move 9 46 (.tmp 3) (.slice (some ⟨b, o, none⟩) (N + 1) cap) rfl (by kernel_rfl) (by kernel_rfl) (by kernel_rfl) (fun _ _ _ _ h => h) rfl rfl rfl rfl hHeld ?_
      simp only [Act.put, List.setIfInBounds_toArray, List.set_cons_zero, List.set_cons_succ]
      refine tk_val 10 47 (.int .i64 ((N + 1 : Nat) : Int)) rfl (by kernel_rfl) (by kernel_rfl) (by kernel_rfl) (fun _ _ _ _ h => h) rfl rfl (fun w _ => ev_len (.tmp 46) _ _ _ rfl rfl) hHeld ?_
      simp only [Act.put, List.setIfInBounds_toArray, List.set_cons_zero, List.set_cons_succ]
      refine tk_val 11 48 (.int .i64 (N : Int)) rfl (by kernel_rfl) (by kernel_rfl) (by kernel_rfl) (fun _ _ _ _ h => h) rfl rfl (fun w _ => ev_dec (.tmp 47) (.const (.int .i64 1)) N b9 rfl rfl rfl) hHeld ?_
      simp only [Act.put, List.setIfInBounds_toArray, List.set_cons_zero, List.set_cons_succ]
      refine tk_val 12 49 (.slice (some ⟨b, o, none⟩) N cap) rfl (by kernel_rfl) (by kernel_rfl) (by kernel_rfl) (fun _ _ _ _ h => h) rfl rfl (fun w _ => ev_slice_to (.tmp 45) (.tmp 48) b o (N + 1) cap N rfl rfl rfl b1) hHeld ?_
      simp only [Act.put, List.setIfInBounds_toArray, List.set_cons_zero, List.set_cons_succ]
      refine lone 13 (by kernel_rfl) rfl (fun K' hK' => to_call 84 50 _ _ #[.agg (U d).toArray, .int .i64 ((i : Int) - K), .int .i64 ((n : Int) - K), .slice (some ⟨b, o, none⟩) N cap] _ rfl rfl rfl rfl enters_rclimb (CX _ hbx) (fun e w5 h5 => ⟨_, h5.1, ?_⟩))
      have hb5 := STEP.out _ _ hbx h5.2
      refine hK' _ _ ⟨(KEEP.out _ hb5).2.1.range, (KEEP.out _ hb5).2.2.2.1.range⟩ ?_
      simp only [Act.put, List.setIfInBounds_toArray, List.set_cons_zero, List.set_cons_succ]
      refine lone 14 (by kernel_rfl) rfl (fun K'' hK'' => to_call 69 51 _ _ #[.agg (U X).toArray, .agg (U (clm f d (i - K) (n - K) D)).toArray] _ rfl rfl rfl rfl enters_rnode (rnode_all X (clm f d (i - K) (n - K) D) w5 HXL.out (clm_len _ _ _ _ _)) (fun e w7 h7 => ⟨_, h7.1, ?_⟩))
      have hb7 := STEP.out _ _ hb5 h7.2
      refine hK'' _ _ ⟨(KEEP.out _ hb7).2.1.range, (KEEP.out _ hb7).2.2.2.1.range⟩ ?_
      simp only [Act.put, List.setIfInBounds_toArray, List.set_cons_zero, List.set_cons_succ]
      have hr7 := (KEEP.out _ hb7).2.2.1
      have hr8 := hr7.setRow (noded X (clm f d (i - K) (n - K) D))
      have hb8 := below_setRow (KEEP.out _ hb7).2.2.2.2 (show w.heap.size ≤ w.heap.size + 1 by omega) (U (noded X (clm f d (i - K) (n - K) D))).toArray
      refine lone 15 (by kernel_rfl) rfl (fun K3 hK3 => step_store_d rfl (.tmp 8) (.tmp 51) rfl rfl (w.heap.size + 1) (flb 32 []) (noded X (clm f d (i - K) (n - K) D)) rfl rfl hr7 (by simp [flb]) (tagd_len _ _) (hK3 _ _ ⟨?_, ?_⟩ ?_))
      · exact ((KEEP.out _ hb7).2.1.keep (setRow_other _ _ _ _ (by omega))).range
      · exact ((KEEP.out _ hb7).2.2.2.1.keep (setRow_other _ _ _ _ (by omega))).range
      refine wpAnyH_done (by kernel_rfl) (NoPanic.normal ?_) _
      have HR8 := Lib.hid hr8
      have HB8 := Lib.hid hb8
      clear hr7 hr8 hb7 hb8 hb5 h5 h7 hHeld hbx
      go_wp2_with fail
      rw [HC2.out hik]
      exact bodyPost_ret (res_B rfl _ _ _ _ _ rfl HR8.out (tagd_len _ _)) rfl ⟨rfl, HB8.out⟩
end
section
set_option maxRecDepth 100000
open Go.RowKit

set_option maxRecDepth 100000 in
set_option maxHeartbeats 1600000 in
theorem rClimb_no (f : Nat) (d : List UInt8) (_hd : d.length = 32) (i n : Int) (P : List (List UInt8)) (A : Option Addr) (cap : Nat) (w : World) (hf2 : f ≤ 1099511627776) (_hpl : P.length ≤ 1099511627776)
    (h : n < 1 ∨ 1099511627776 < n ∨ i < 0 ∨ n ≤ i ∨ (n ≤ f ∧ P.length ≠ stp f i.toNat n.toNat)) :
    Calls Tryd.prog 48 #[.agg (U d).toArray, .int .i64 i, .int .i64 n, .slice A P.length cap] w fun e w' => e = .returned (.tuple #[.agg (U z32).toArray, .int .i64 1]) ∧ Below w.heap.size w w' := by
  obtain ⟨W1, hW1⟩ : ∃ W1, (w.alloc (.cells (U d).toArray 23)).alloc (.cells (U (flb 32 [])).toArray 23) = W1 := ⟨_, rfl⟩
  obtain ⟨h0, h1, hb1, hz1⟩ := box2 w (U d).toArray (U (flb 32 [])).toArray 23 23 W1 hW1
  have HW1 := Lib.hid hW1
  have hr1 : RowB W1 (w.heap.size + 1) 23 (flb 32 []) := h1
  have HR1 := Lib.hid hr1
  have HB1 := Lib.hid hb1
  have CS : 0 ≤ i → i < n → n ≤ f → Calls Tryd.prog 83 #[.int .i64 i, .int .i64 n] W1 fun e w' => e = .returned (.int .i64 (stp f i.toNat n.toNat)) ∧ w' = W1 := fun h1 h2 h3 => by
    have := rlength_all f i.toNat n.toNat W1 (by omega) (by omega) (by omega)
    rwa [show ((i.toNat : Nat) : Int) = i by omega, show ((n.toNat : Nat) : Int) = n by omega] at this
  have HCS := Lib.hid CS
  have HH := Lib.hid h
  have hst := stp_le f i.toNat n.toNat
  clear h0 h1 hb1 hW1 hr1 h CS
  have HF : Hid (Below w.heap.size w W1) := HB1
  by_cases c1 : n < 1
  · clear HCS
    have hr1 := HR1.out
    rw [← HW1.out] at hr1
    have hbb := HB1.out
    rw [← HW1.out] at hbb
    have HR2 := Lib.hid (hr1.setRow z32)
    have HBB := Lib.hid hbb
    clear hbb HF
    go_enter Tryd.func48, Tryd.ntmps48
    go_wp2_with (refine store_B rfl (.tmp 8) (.tmp 33) rfl (w.heap.size + 1) (flb 32 []) z32 rfl rfl 23 hr1 rfl (by simp [flb]) ?_)
    exact bodyPost_ret (res_two rfl _ _ _ _ _ _ rfl rfl HR2.out rfl) rfl ⟨rfl, below_setRow HBB.out (by omega) _⟩
  by_cases c2 : 1099511627776 < n
  · clear HCS
    have hr1 := HR1.out
    rw [← HW1.out] at hr1
    have hbb := HB1.out
    rw [← HW1.out] at hbb
    have HR2 := Lib.hid (hr1.setRow z32)
    have HBB := Lib.hid hbb
    clear hbb HF
    go_enter Tryd.func48, Tryd.ntmps48
    go_wp2_with (refine store_B rfl (.tmp 8) (.tmp 33) rfl (w.heap.size + 1) (flb 32 []) z32 rfl rfl 23 hr1 rfl (by simp [flb]) ?_)
    exact bodyPost_ret (res_two rfl _ _ _ _ _ _ rfl rfl HR2.out rfl) rfl ⟨rfl, below_setRow HBB.out (by omega) _⟩
  by_cases c3 : i < 0
  · clear HCS
    have hr1 := HR1.out
    rw [← HW1.out] at hr1
    have hbb := HB1.out
    rw [← HW1.out] at hbb
    have HR2 := Lib.hid (hr1.setRow z32)
    have HBB := Lib.hid hbb
    clear hbb HF
    go_enter Tryd.func48, Tryd.ntmps48
    go_wp2_with (refine store_B rfl (.tmp 8) (.tmp 33) rfl (w.heap.size + 1) (flb 32 []) z32 rfl rfl 23 hr1 rfl (by simp [flb]) ?_)
    exact bodyPost_ret (res_two rfl _ _ _ _ _ _ rfl rfl HR2.out rfl) rfl ⟨rfl, below_setRow HBB.out (by omega) _⟩
  by_cases c4 : n ≤ i
  · clear HCS
    have hr1 := HR1.out
    rw [← HW1.out] at hr1
    have hbb := HB1.out
    rw [← HW1.out] at hbb
    have HR2 := Lib.hid (hr1.setRow z32)
    have HBB := Lib.hid hbb
    clear hbb HF
    go_enter Tryd.func48, Tryd.ntmps48
    go_wp2_with (refine store_B rfl (.tmp 8) (.tmp 33) rfl (w.heap.size + 1) (flb 32 []) z32 rfl rfl 23 hr1 rfl (by simp [flb]) ?_)
    exact bodyPost_ret (res_two rfl _ _ _ _ _ _ rfl rfl HR2.out rfl) rfl ⟨rfl, below_setRow HBB.out (by omega) _⟩
  have hh : n ≤ f ∧ P.length ≠ stp f i.toNat n.toNat := by
    rcases HH.out with h | h | h | h | h
    · omega
    · omega
    · omega
    · omega
    · exact h
  have C := Lib.hid (HCS.out (by omega) (by omega) hh.1)
  have hne : (P.length == stp f i.toNat n.toNat) = false := by simpa using hh.2
  have hne2 : (P.length != stp f i.toNat n.toNat) = true := by simpa using hh.2
  have hne3 : ¬ P.length = stp f i.toNat n.toNat := hh.2
  have hne4 : ¬ (P.length : Int) = (stp f i.toNat n.toNat : Nat) := by omega
  generalize stp f i.toNat n.toNat = st at *
  clear hh HCS HH
  go_enter Tryd.func48, Tryd.ntmps48
  go_wp2_with fail
  generalize hW1' : (w.alloc _).alloc _ = W1'
  have e9 : W1' = W1 := hW1'.symm.trans HW1.out
  clear hW1'
  rw [e9]
  clear e9 W1'
  refine C.out.mono ?_
  rintro e w' ⟨rfl, hw'⟩
  rw [hw']
  clear hw' w'
  have hr1 := HR1.out
  have hr2 := hr1.setRow z32
  go_wp2_with (refine store_B rfl (.tmp 8) (.tmp 33) rfl (w.heap.size + 1) (flb 32 []) z32 rfl rfl 23 hr1 rfl (by simp [flb]) ?_)
  exact bodyPost_ret (res_two rfl _ _ _ _ _ _ rfl rfl hr2 rfl) rfl ⟨rfl, below_setRow HB1.out (by omega) _⟩

set_option maxRecDepth 100000 in
set_option maxHeartbeats 1600000 in
theorem rClimb_yes (f : Nat) (d : List UInt8) (hd : d.length = 32) (i n : Nat) (P : List (List UInt8)) (A : Option Addr) (cap : Nat) (w : World) (hi : i < n) (hn : n ≤ f) (hf2 : f ≤ 1099511627776) (hl : DL w (· < w.heap.size) P A cap) (hp : P.length = stp f i n) :
    Calls Tryd.prog 48 #[.agg (U d).toArray, .int .i64 i, .int .i64 n, .slice A P.length cap] w fun e w' => e = .returned (.tuple #[.agg (U (clm f d i n P)).toArray, .int .i64 0]) ∧ Below w.heap.size w w' := by
  obtain ⟨W1, hW1⟩ : ∃ W1, (w.alloc (.cells (U d).toArray 23)).alloc (.cells (U (flb 32 [])).toArray 23) = W1 := ⟨_, rfl⟩
  obtain ⟨h0, h1, hb1, hz1⟩ := box2 w (U d).toArray (U (flb 32 [])).toArray 23 23 W1 hW1
  have C := Lib.hid (rlength_all f i n W1 hi hn (by omega))
  have C2 := Lib.hid (rclimb_all f d i n P A cap W1 hd hi hn hf2 (hl.keep fun j hj => ⟨by omega, hb1.block j hj⟩) hp)
  have HW1 := Lib.hid hW1
  have hr0 : RowB W1 w.heap.size 23 d := h0
  have hr1 : RowB W1 (w.heap.size + 1) 23 (flb 32 []) := h1
  have HR1 := Lib.hid hr1
  have HB1 := Lib.hid hb1
  have hst := stp_le f i n
  rw [← hp] at C hst
  have hnn : (n : Int) ≤ 1099511627776 := by omega
  have hn1 : (1 : Int) ≤ n := by omega
  clear h0 h1 hb1 hW1 hr1 hl hp
  go_enter Tryd.func48, Tryd.ntmps48
  go_wp2_with fail
  generalize hW1' : (w.alloc _).alloc _ = W1'
  have e9 : W1' = W1 := hW1'.symm.trans HW1.out
  clear hW1'
  rw [e9]
  clear e9 W1'
  refine C.out.mono ?_
  rintro e w' ⟨rfl, hw'⟩
  rw [hw']
  clear hw' w'
  go_wp2_with (refine load_B rfl (.tmp 4) rfl w.heap.size rfl 23 d hr0 hd ?_)
  refine C2.out.mono ?_
  rintro e w2 ⟨rfl, hb2⟩
  have hd2 : RowB w2 (w.heap.size + 1) 23 (flb 32 []) := (hb2.block _ (by omega)).trans HR1.out
  have hr2 := hd2.setRow (clm f d i n P)
  have HB2 := Lib.hid (HB1.out.trans (hb2.mono (by omega)))
  clear C C2 hb2 hr0
  go_wp2_with (refine store_B rfl (.tmp 8) (.tmp 38) rfl (w.heap.size + 1) (flb 32 []) (clm f d i n P) rfl rfl 23 hd2 (clm_len _ _ _ _ _) (by simp [flb]) ?_)
  exact bodyPost_ret (res_two rfl _ _ _ _ _ _ rfl rfl hr2 (clm_len _ _ _ _ _)) rfl ⟨rfl, below_setRow HB2.out (by omega) _⟩

/-- what a climb gives -/
def crd (f : Nat) (d : List UInt8) (i n : Int) (P : List (List UInt8)) : List UInt8 := if 1 ≤ n ∧ n ≤ 1099511627776 ∧ 0 ≤ i ∧ i < n ∧ P.length = stp f i.toNat n.toNat then clm f d i.toNat n.toNat P else z32
def cre (f : Nat) (i n : Int) (P : List (List UInt8)) : Int := if 1 ≤ n ∧ n ≤ 1099511627776 ∧ 0 ≤ i ∧ i < n ∧ P.length = stp f i.toNat n.toNat then 0 else 1
theorem crd_len (f : Nat) (d : List UInt8) (i n : Int) (P : List (List UInt8)) : (crd f d i n P).length = 32 := by
  unfold crd
  split
  · exact clm_len _ _ _ _ _
  · rfl
theorem Climb_any (f : Nat) (d : List UInt8) (hd : d.length = 32) (i n : Int) (P : List (List UInt8)) (A : Option Addr) (cap : Nat) (w : World) (hf1 : 1099511627776 ≤ f) (hf2 : f ≤ 1099511627776) (hl : DL w (· < w.heap.size) P A cap) (hp : P.length ≤ 1099511627776) (hk : KR w Kt) :
    Calls Tryd.prog 29 #[.agg (U d).toArray, .int .i64 i, .int .i64 n, .slice A P.length cap] w fun e w' => e = .returned (.tuple #[.agg (U (crd f d i n P)).toArray, .int .i64 (cre f i n P)]) ∧ Below w.heap.size w w' := by
  unfold crd cre
  by_cases h : 1 ≤ n ∧ n ≤ 1099511627776 ∧ 0 ≤ i ∧ i < n ∧ P.length = stp f i.toNat n.toNat
  · rw [if_pos h, if_pos h]
    obtain ⟨h1, h2, h3, h4, h5⟩ := h
    have := Climb_yes f d hd i.toNat n.toNat P A cap w (by omega) (by omega) hf2 hl h5 hk
    rwa [show ((i.toNat : Nat) : Int) = i by omega, show ((n.toNat : Nat) : Int) = n by omega] at this
  · rw [if_neg h, if_neg h]
    refine Climb_no f d hd i n P A cap w hf2 hp ?_
    by_cases h1 : n < 1
    · exact .inl h1
    by_cases h2 : 1099511627776 < n
    · exact .inr (.inl h2)
    by_cases h3 : i < 0
    · exact .inr (.inr (.inl h3))
    by_cases h4 : n ≤ i
    · exact .inr (.inr (.inr (.inl h4)))
    exact .inr (.inr (.inr (.inr ⟨by omega, fun h5 => h ⟨by omega, by omega, by omega, by omega, h5⟩⟩)))
theorem rClimb_any (f : Nat) (d : List UInt8) (hd : d.length = 32) (i n : Int) (P : List (List UInt8)) (A : Option Addr) (cap : Nat) (w : World) (hf1 : 1099511627776 ≤ f) (hf2 : f ≤ 1099511627776) (hl : DL w (· < w.heap.size) P A cap) (hp : P.length ≤ 1099511627776) :
    Calls Tryd.prog 48 #[.agg (U d).toArray, .int .i64 i, .int .i64 n, .slice A P.length cap] w fun e w' => e = .returned (.tuple #[.agg (U (crd f d i n P)).toArray, .int .i64 (cre f i n P)]) ∧ Below w.heap.size w w' := by
  unfold crd cre
  by_cases h : 1 ≤ n ∧ n ≤ 1099511627776 ∧ 0 ≤ i ∧ i < n ∧ P.length = stp f i.toNat n.toNat
  · rw [if_pos h, if_pos h]
    obtain ⟨h1, h2, h3, h4, h5⟩ := h
    have := rClimb_yes f d hd i.toNat n.toNat P A cap w (by omega) (by omega) hf2 hl h5
    rwa [show ((i.toNat : Nat) : Int) = i by omega, show ((n.toNat : Nat) : Int) = n by omega] at this
  · rw [if_neg h, if_neg h]
    refine rClimb_no f d hd i n P A cap w hf2 hp ?_
    by_cases h1 : n < 1
    · exact .inl h1
    by_cases h2 : 1099511627776 < n
    · exact .inr (.inl h2)
    by_cases h3 : i < 0
    · exact .inr (.inr (.inl h3))
    by_cases h4 : n ≤ i
    · exact .inr (.inr (.inr (.inl h4)))
    exact .inr (.inr (.inr (.inr ⟨by omega, fun h5 => h ⟨by omega, by omega, by omega, by omega, h5⟩⟩)))

/-- what a path is, for any number -/
def prp (f : Nat) (L : List (List UInt8)) (i : Int) : List (List UInt8) := if 0 ≤ i ∧ i < L.length then pth f L i.toNat else []
def pre_ (L : List (List UInt8)) (i : Int) : Int := if 0 ≤ i ∧ i < L.length then 0 else 1
theorem Path_any (f : Nat) (L : List (List UInt8)) (i : Int) (A : Option Addr) (cap : Nat) (w : World) (hf : L.length ≤ f) (hf2 : f ≤ 1099511627776) (hl : DL w (· < w.heap.size) L A cap) (hk : KR w Kt) :
    Calls Tryd.prog 37 #[.slice A L.length cap, .int .i64 i] w fun e w' => ∃ A' c', e = .returned (.tuple #[.slice A' (prp f L i).length c', .int .i64 (pre_ L i)]) ∧ DL w' (fun j => w.heap.size ≤ j ∧ j < w'.heap.size) (prp f L i) A' c' ∧ Below w.heap.size w w' := by
  unfold prp pre_
  by_cases h : 0 ≤ i ∧ i < L.length
  · rw [if_pos h, if_pos h]
    have := path_yes f L i.toNat A cap w hf hf2 (by omega) hl hk
    rw [show ((i.toNat : Nat) : Int) = i by omega] at this
    refine this.mono fun e w' ⟨A', c', he, ho, hb⟩ => ?_
    obtain ⟨A2, c2, e2, hd⟩ := ho.dl
    injection e2 with e3 _ e4
    subst e3 e4
    exact ⟨A', c', he, hd, hb⟩
  · rw [if_neg h, if_neg h]
    refine (path_no L i A cap w (by omega) (by omega)).mono fun e w' ⟨he, hw⟩ => ?_
    subst hw
    exact ⟨none, 0, he, ⟨Nat.le_refl _, Nat.zero_le _, fun _ => rfl, (fun _ h => nomatch h), fun h => absurd h (by simp)⟩, Below.refl _ _⟩
theorem rPath_any (f : Nat) (L : List (List UInt8)) (i : Int) (A : Option Addr) (cap : Nat) (w : World) (hf : L.length ≤ f) (hf2 : f ≤ 1099511627776) (hl : DL w (· < w.heap.size) L A cap) :
    Calls Tryd.prog 39 #[.slice A L.length cap, .int .i64 i] w fun e w' => ∃ A' c', e = .returned (.tuple #[.slice A' (prp f L i).length c', .int .i64 (pre_ L i)]) ∧ DL w' (fun j => w.heap.size ≤ j ∧ j < w'.heap.size) (prp f L i) A' c' ∧ Below w.heap.size w w' := by
  unfold prp pre_
  by_cases h : 0 ≤ i ∧ i < L.length
  · rw [if_pos h, if_pos h]
    have := rpath_yes f L i.toNat A cap w hf hf2 (by omega) hl
    rw [show ((i.toNat : Nat) : Int) = i by omega] at this
    refine this.mono fun e w' ⟨A', c', he, ho, hb⟩ => ?_
    obtain ⟨A2, c2, e2, hd⟩ := ho.dl
    injection e2 with e3 _ e4
    subst e3 e4
    exact ⟨A', c', he, hd, hb⟩
  · rw [if_neg h, if_neg h]
    refine (rpath_no L i A cap w (by omega) (by omega)).mono fun e w' ⟨he, hw⟩ => ?_
    subst hw
    exact ⟨none, 0, he, ⟨Nat.le_refl _, Nat.zero_le _, fun _ => rfl, (fun _ h => nomatch h), fun h => absurd h (by simp)⟩, Below.refl _ _⟩
/-- a path has no more steps than the length has bits -/
theorem stp_log (f : Nat) : ∀ (k i n : Nat), n ≤ 2 ^ k → n ≤ 2 ^ 64 → stp f i n ≤ k := by
  induction f with
  | zero => intro k i n _ _; simp [stp]
  | succ f ih =>
    intro k i n h h3
    rw [stp]
    by_cases h1 : n ≤ 1
    · rw [if_pos h1]; omega
    rw [if_neg h1]
    obtain ⟨m, _, e, hk1, hk2, hk3⟩ := hf_spec n (by omega) h3
    have hmk : m < k := by
      rw [e] at hk1
      exact (Nat.pow_lt_pow_iff_right (by omega : 1 < 2)).1 (Nat.lt_of_lt_of_le hk1 h)
    obtain ⟨k', rfl⟩ : ∃ k', k = k' + 1 := ⟨k - 1, by omega⟩
    have hle : hf n ≤ 2 ^ k' := by rw [e]; exact Nat.pow_le_pow_right (by omega) (by omega)
    by_cases hi : i < hf n
    · rw [if_pos hi]; have := ih k' i (hf n) hle (by omega); omega
    · rw [if_neg hi]; have := ih k' (i - hf n) (n - hf n) (by omega) (by omega); omega
theorem prp_len (f : Nat) (L : List (List UInt8)) (i : Int) (h : L.length ≤ 32) : (prp f L i).length ≤ 5 := by
  unfold prp
  split
  · rw [pth_len f L i.toNat (by omega)]
    exact stp_log f 5 i.toNat L.length (by simpa using h) (by omega)
  · simp
end
end Go.Proofs.YteicbdjennjcdaaDoor
