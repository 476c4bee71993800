/- Several texts joined: parts LF LG. -/
import Derived.Test.YteicbdjennjcdaaDoorW09
namespace Go.Proofs.YteicbdjennjcdaaDoor
section
set_option maxRecDepth 100000
open Go.RowKit

theorem step_store_d {ops : Array Oper} {o : Oper} {a : Act} {K : Act → World → Prop} {Q : Exit → Act → World → Prop} {E : Prop} {w : World} (hgd : o.guard = none) (x y : Operand) (ho : o.op = .store 23 x y) (hd : o.dst = none)
    (g : Nat) (l l' : List UInt8) (hx : a.eval x = .pointer (some ⟨g, 0, none⟩)) (hy : a.eval y = .agg (U l').toArray) (h : RowB w g 23 l) (hl : l.length = 32) (hl' : l'.length = 32)
    (hK : K a (w.setRow g (U l').toArray)) : if Region.wanted o (yielded ops a.tmps) = true then Oper.wp Tryd.prog o a w K Q else E :=
  step_store_B hgd x y ho g l l' hx hy h hl hl' (by rw [hd]; exact hK)
theorem enters_climb : Enters Tryd.prog 64 := enters_of Tryd.func64 (by kernel_rfl) rfl
theorem enters_node : Enters Tryd.prog 62 := enters_of Tryd.func62 (by kernel_rfl) rfl

set_option maxRecDepth 100000 in
set_option maxHeartbeats 3200000 in
theorem climb_all (f : Nat) : ∀ (d : List UInt8) (i n : Nat) (P : List (List UInt8)) (A : Option Addr) (cap : Nat) (w : World), d.length = 32 → i < n → n ≤ f → f ≤ 1099511627776 → DL w (· < w.heap.size) P A cap → P.length = stp f i n → KR w Kt →
    Calls Tryd.prog 64 #[.agg (U d).toArray, .int .i64 i, .int .i64 n, .slice A P.length cap] w fun e w' => e = .returned (.agg (U (clm f d i n P)).toArray) ∧ Below w.heap.size w w' := by
  induction f with
  | zero => intro d i n P A cap w _ h1 h2; omega
  | succ f ih =>
    intro d i n P A cap w hd hi hfu hf2 hl hp hk
    by_cases h1 : n = 1
    · subst h1
      obtain rfl : i = 0 := by omega
      have h0 : P = [] := List.eq_nil_of_length_eq_zero (by rw [hp, stp, if_pos (by omega)])
      subst h0
      have := climb_leaf d hd w hk A cap
      rw [clm, if_pos (by omega)]
      exact this
    have hlt0 := hk.lt
    obtain ⟨k, _, _, hk1, hk2, hk3⟩ := hf_spec n (by omega) (by omega)
    obtain ⟨K, hK⟩ : ∃ K, K = hf n := ⟨_, rfl⟩
    rw [← hK] at hk1 hk2 hk3
    have hp1 : i < K → P.length = 1 + stp f i K := fun h => by rw [hp, stp, if_neg (by omega), ← hK, if_pos h]
    have hp2 : ¬ i < K → P.length = 1 + stp f (i - K) (n - K) := fun h => by rw [hp, stp, if_neg (by omega), ← hK, if_neg h]
    have hp0 : 0 < P.length := by
      by_cases h : i < K
      · have := hp1 h; omega
      · have := hp2 h; omega
    have hc1 : i < K → clm (f + 1) d i n P = noded (clm f d i K P.dropLast) (P.getLastD []) := fun h => by rw [clm, if_neg (by omega), ← hK, if_pos h]
    have hc2 : ¬ i < K → clm (f + 1) d i n P = noded (P.getLastD []) (clm f d (i - K) (n - K) P.dropLast) := fun h => by rw [clm, if_neg (by omega), ← hK, if_neg h]
    obtain ⟨b, o, rfl, hS, hat⟩ := hl.2.2.2.2 hp0
    obtain ⟨X, hX⟩ : ∃ X, X = P.getLastD [] := ⟨_, rfl⟩
    have hgl := last_get P hp0
    rw [← hX] at hgl
    have hXl : X.length = 32 := hl.2.2.2.1 X (List.mem_of_getElem? hgl)
    obtain ⟨N, hN⟩ : ∃ N, P.length = N + 1 := ⟨P.length - 1, by omega⟩
    rw [hN, Nat.add_sub_cancel] at hgl
    have hrx := hat _ _ hgl
    have hdl : DL w (· < w.heap.size) P.dropLast (some ⟨b, o, none⟩) cap := by rw [dropLast_take]; exact hl.take _
    have hdn : P.dropLast.length = N := by rw [List.length_dropLast, hN]; rfl
    obtain ⟨D, hD⟩ : ∃ D, D = P.dropLast := ⟨_, rfl⟩
    rw [← hD] at hdl hdn hc1 hc2
    rw [← hX] at hc1 hc2
    have hcap := hl.1
    have hcm : cap ≤ 9223372036854775807 := hl.2.1
    rw [hN] at hp1 hp2 hcap
    rw [hN]
    clear hp hl hat hD hX hN hp0 hgl
    obtain ⟨W1, hW1⟩ : ∃ W1, (w.alloc (.cells (U d).toArray 23)).alloc (.cells (U (flb 32 [])).toArray 23) = W1 := ⟨_, rfl⟩
    obtain ⟨h0, h1', hb1, hz1⟩ := box2 w (U d).toArray (U (flb 32 [])).toArray 23 23 W1 hW1
    have KEEP := Lib.hid (show ∀ ww, Below W1.heap.size W1 ww → DL ww (· < ww.heap.size) D (some ⟨b, o, none⟩) cap ∧ KR ww Kt ∧ RowB ww w.heap.size 23 d ∧ RowB ww (w.heap.size + 1) 23 (flb 32 []) ∧ ww.rangeAt b (o + N * 32) (U X) ∧ Below w.heap.size w ww from fun ww h => by
      have hw : Below w.heap.size w ww := hb1.trans (h.mono (by omega))
      have := hw.size
      exact ⟨hdl.keep fun i hi => ⟨by omega, hw.block i hi⟩, hk.keep (hw.block 0 hlt0), (h.block _ (by omega)).trans h0, (h.block _ (by omega)).trans h1', fun j u hu => (World.cell?_of_block (hw.block b hS)).trans (hrx j u hu), hw⟩)
    have STEP := Lib.hid (show ∀ ww w', Below W1.heap.size W1 ww → Below ww.heap.size ww w' → Below W1.heap.size W1 w' from fun ww w' h1 h2 => h1.trans (h2.mono h1.size))
    have C := Lib.hid (split_all n W1 (by omega) (by omega))
    rw [← hK] at C
    have CA := Lib.hid (show i < K → ∀ ww, Below W1.heap.size W1 ww → Calls Tryd.prog 64 #[.agg (U d).toArray, .int .i64 i, .int .i64 K, .slice (some ⟨b, o, none⟩) N cap] ww fun e w' => e = .returned (.agg (U (clm f d i K D)).toArray) ∧ Below ww.heap.size ww w' from fun hik ww h => by
      have := ih d i K D (some ⟨b, o, none⟩) cap ww hd hik (by omega) (by omega) (KEEP.out ww h).1 (by have := hp1 hik; omega) (KEEP.out ww h).2.1
      rwa [hdn] at this)
    have CB := Lib.hid (show ¬ i < K → ∀ ww, Below W1.heap.size W1 ww → Calls Tryd.prog 64 #[.agg (U d).toArray, .int .i64 ((i : Int) - K), .int .i64 ((n : Int) - K), .slice (some ⟨b, o, none⟩) N cap] ww fun e w' => e = .returned (.agg (U (clm f d (i - K) (n - K) D)).toArray) ∧ Below ww.heap.size ww w' from fun hik ww h => by
      have := ih d (i - K) (n - K) D (some ⟨b, o, none⟩) cap ww hd (by omega) (by omega) (by omega) (KEEP.out ww h).1 (by have := hp2 hik; omega) (KEEP.out ww h).2.1
      rwa [hdn, show ((i - K : Nat) : Int) = (i : Int) - K by omega, show ((n - K : Nat) : Int) = (n : Int) - K by omega] at this)
    have HD := Lib.hid hd
    have HXL := Lib.hid hXl
    have HC1 := Lib.hid hc1
    have HC2 := Lib.hid hc2
    have HW1 := Lib.hid hW1
    have hn1 : ¬ n = 1 := h1
    have b1 : N ≤ cap := by omega
    have b2 : (N : Int) ≤ cap := by omega
    have b3 : N < N + 1 := by omega
    have b5 : N + 1 ≤ cap := hcap
    clear ih hk hd hdl hdn hXl hrx hK hp1 hp2 hc1 hc2 h0 h1' hb1 hz1 hW1 h1
    go_enter Tryd.func64, Tryd.ntmps64
    go_wp2_with fail
    generalize hW1' : (w.alloc _).alloc _ = W1'
    have e9 : W1' = W1 := hW1'.symm.trans HW1.out
    clear hW1'
    rw [e9]
    clear e9 W1'
    refine C.out.mono ?_
    rintro e w' ⟨rfl, hw'⟩
    rw [hw']
    clear hw' w'
    have hbx : Below W1.heap.size W1 W1.drew := (Below.refl _ _).drew
    by_cases hik : i < K
    · go_wp2_with fail
      have CA' := CA.out hik
      refine wp_region_noPanic ?_
      refine wp_region_held_drew (S := fun w' => w'.rangeAt w.heap.size 0 (U d) ∧ w'.rangeAt b (o + N * 32) (U X)) (by kernel_rfl) ⟨(KEEP.out _ hbx).2.2.1.range, (KEEP.out _ hbx).2.2.2.2.1⟩ (fun hHeld => ?_)
      refine tk_load 0 23 (.tmp 4) w.heap.size 0 d rfl (by kernel_rfl) (by kernel_rfl) (by kernel_rfl) (fun _ _ _ _ h => h) rfl rfl rfl rfl (fun _ h => h.1) HD.out hHeld ?_
      simp only [Act.put, List.setIfInBounds_toArray, List.set_cons_zero, List.set_cons_succ]
      refine tk_move 1 24 (.tmp 1) (.int .i64 i) rfl (by kernel_rfl) (by kernel_rfl) (by kernel_rfl) (fun _ _ _ _ h => h) rfl rfl rfl rfl hHeld ?_
      simp only [Act.put, List.setIfInBounds_toArray, List.set_cons_zero, List.set_cons_succ]
      refine tk_move 2 25 (.tmp 9) (.int .i64 K) rfl (by kernel_rfl) (by kernel_rfl) (by kernel_rfl) (fun _ _ _ _ h => h) rfl rfl rfl rfl hHeld ?_
      simp only [Act.put, List.setIfInBounds_toArray, List.set_cons_zero, List.set_cons_succ]
      refine tk_move 3 26 (.tmp 3) (.slice (some ⟨b, o, none⟩) (N + 1) cap) rfl (by kernel_rfl) (by kernel_rfl) (by kernel_rfl) (fun _ _ _ _ h => h) rfl rfl rfl rfl hHeld ?_
      simp only [Act.put, List.setIfInBounds_toArray, List.set_cons_zero, List.set_cons_succ]
      refine tk_move 4 27 (.tmp 10) (.int .i64 N) rfl (by kernel_rfl) (by kernel_rfl) (by kernel_rfl) (fun _ _ _ _ h => h) rfl rfl rfl rfl hHeld ?_
      simp only [Act.put, List.setIfInBounds_toArray, List.set_cons_zero, List.set_cons_succ]
      refine tk_val 5 28 (.slice (some ⟨b, o, none⟩) N cap) rfl (by kernel_rfl) (by kernel_rfl) (by kernel_rfl) (fun _ _ _ _ h => h) rfl rfl (fun w _ => ev_slice_to (.tmp 26) (.tmp 27) b o (N + 1) cap N rfl rfl rfl b1) hHeld ?_
      simp only [Act.put, List.setIfInBounds_toArray, List.set_cons_zero, List.set_cons_succ]
      refine tk_move 7 30 (.tmp 3) (.slice (some ⟨b, o, none⟩) (N + 1) cap) rfl (by kernel_rfl) (by kernel_rfl) (by kernel_rfl) (fun _ _ _ _ h => h) rfl rfl rfl rfl hHeld ?_
      simp only [Act.put, List.setIfInBounds_toArray, List.set_cons_zero, List.set_cons_succ]
      refine tk_move 8 31 (.tmp 10) (.int .i64 N) rfl (by kernel_rfl) (by kernel_rfl) (by kernel_rfl) (fun _ _ _ _ h => h) rfl rfl rfl rfl hHeld ?_
      simp only [Act.put, List.setIfInBounds_toArray, List.set_cons_zero, List.set_cons_succ]
      refine tk_val 9 32 (.pointer (some ⟨b, o + N * 32, none⟩)) rfl (by kernel_rfl) (by kernel_rfl) (by kernel_rfl) (fun _ _ _ _ h => h) rfl rfl (fun w _ => ev_index (.tmp 30) (.tmp 31) b o (N + 1) cap N rfl rfl rfl b3) hHeld ?_
      simp only [Act.put, List.setIfInBounds_toArray, List.set_cons_zero, List.set_cons_succ]
      refine tk_load 10 33 (.tmp 32) b (o + N * 32) X rfl (by kernel_rfl) (by kernel_rfl) (by kernel_rfl) (fun _ _ _ _ h => h) rfl rfl rfl rfl (fun _ h => h.2) HXL.out hHeld ?_
      simp only [Act.put, List.setIfInBounds_toArray, List.set_cons_zero, List.set_cons_succ]
      refine lone 6 (by kernel_rfl) rfl (fun K' hK' => to_call 64 29 _ _ #[.agg (U d).toArray, .int .i64 i, .int .i64 K, .slice (some ⟨b, o, none⟩) N cap] _ rfl rfl rfl rfl enters_climb (CA' _ hbx) (fun e w5 h5 => ⟨_, h5.1, ?_⟩))
      have hb5 := STEP.out _ _ hbx h5.2
      refine hK' _ _ ⟨(KEEP.out _ hb5).2.2.1.range, (KEEP.out _ hb5).2.2.2.2.1⟩ ?_
      simp only [Act.put, List.setIfInBounds_toArray, List.set_cons_zero, List.set_cons_succ]
      refine lone 11 (by kernel_rfl) rfl (fun K'' hK'' => to_call 62 34 _ _ #[.agg (U (clm f d i K D)).toArray, .agg (U X).toArray] _ rfl rfl rfl rfl enters_node (node_all (clm f d i K D) X w5 (clm_len _ _ _ _ _) HXL.out (KEEP.out _ hb5).2.1) (fun e w7 h7 => ⟨_, h7.1, ?_⟩))
      have hb7 := STEP.out _ _ hb5 h7.2
      refine hK'' _ _ ⟨(KEEP.out _ hb7).2.2.1.range, (KEEP.out _ hb7).2.2.2.2.1⟩ ?_
      simp only [Act.put, List.setIfInBounds_toArray, List.set_cons_zero, List.set_cons_succ]
      have hr7 := (KEEP.out _ hb7).2.2.2.1
      have hr8 := hr7.setRow (noded (clm f d i K D) X)
      have hb8 := below_setRow (KEEP.out _ hb7).2.2.2.2.2 (show w.heap.size ≤ w.heap.size + 1 by omega) (U (noded (clm f d i K D) X)).toArray
      refine lone 12 (by kernel_rfl) rfl (fun K3 hK3 => step_store_d rfl (.tmp 8) (.tmp 34) rfl rfl (w.heap.size + 1) (flb 32 []) (noded (clm f d i K D) X) rfl rfl hr7 (by simp [flb]) (tagd_len _ _) (hK3 _ _ ⟨?_, ?_⟩ ?_))
      · exact ((KEEP.out _ hb7).2.2.1.keep (setRow_other _ _ _ _ (by omega))).range
      · exact fun j u hu => (World.cell?_of_block (setRow_other _ _ _ _ (show b ≠ w.heap.size + 1 by omega))).trans ((KEEP.out _ hb7).2.2.2.2.1 j u hu)
      refine wpAnyH_done (by kernel_rfl) (NoPanic.normal ?_) _
      have HR8 := Lib.hid hr8
      have HB8 := Lib.hid hb8
      clear hr7 hr8 hb7 hb8 hb5 h5 h7 hHeld hbx
      go_wp2_with fail
      rw [HC1.out hik]
      exact bodyPost_ret (res_B rfl _ _ _ _ _ rfl HR8.out (tagd_len _ _)) rfl ⟨rfl, HB8.out⟩
    · go_wp2_with fail
      have CB' := CB.out hik
      refine wp_region_noPanic ?_
      refine wp_region_held_drew (S := fun w' => w'.rangeAt w.heap.size 0 (U d) ∧ w'.rangeAt b (o + N * 32) (U X)) (by kernel_rfl) ⟨(KEEP.out _ hbx).2.2.1.range, (KEEP.out _ hbx).2.2.2.2.1⟩ (fun hHeld => ?_)
      refine tk_move 0 35 (.tmp 3) (.slice (some ⟨b, o, none⟩) (N + 1) cap) rfl (by kernel_rfl) (by kernel_rfl) (by kernel_rfl) (fun _ _ _ _ h => h) rfl rfl rfl rfl hHeld ?_
      simp only [Act.put, List.setIfInBounds_toArray, List.set_cons_zero, List.set_cons_succ]
      refine tk_move 1 36 (.tmp 10) (.int .i64 N) rfl (by kernel_rfl) (by kernel_rfl) (by kernel_rfl) (fun _ _ _ _ h => h) rfl rfl rfl rfl hHeld ?_
      simp only [Act.put, List.setIfInBounds_toArray, List.set_cons_zero, List.set_cons_succ]
      refine tk_val 2 37 (.pointer (some ⟨b, o + N * 32, none⟩)) rfl (by kernel_rfl) (by kernel_rfl) (by kernel_rfl) (fun _ _ _ _ h => h) rfl rfl (fun w _ => ev_index (.tmp 35) (.tmp 36) b o (N + 1) cap N rfl rfl rfl b3) hHeld ?_
      simp only [Act.put, List.setIfInBounds_toArray, List.set_cons_zero, List.set_cons_succ]
      refine tk_load 3 38 (.tmp 37) b (o + N * 32) X rfl (by kernel_rfl) (by kernel_rfl) (by kernel_rfl) (fun _ _ _ _ h => h) rfl rfl rfl rfl (fun _ h => h.2) HXL.out hHeld ?_
      simp only [Act.put, List.setIfInBounds_toArray, List.set_cons_zero, List.set_cons_succ]
      refine tk_load 4 39 (.tmp 4) w.heap.size 0 d rfl (by kernel_rfl) (by kernel_rfl) (by kernel_rfl) (fun _ _ _ _ h => h) rfl rfl rfl rfl (fun _ h => h.1) HD.out hHeld ?_
      simp only [Act.put, List.setIfInBounds_toArray, List.set_cons_zero, List.set_cons_succ]
      refine tk_move 5 40 (.tmp 1) (.int .i64 i) rfl (by kernel_rfl) (by kernel_rfl) (by kernel_rfl) (fun _ _ _ _ h => h) rfl rfl rfl rfl hHeld ?_
      simp only [Act.put, List.setIfInBounds_toArray, List.set_cons_zero, List.set_cons_succ]
      refine tk_move 6 41 (.tmp 9) (.int .i64 K) rfl (by kernel_rfl) (by kernel_rfl) (by kernel_rfl) (fun _ _ _ _ h => h) rfl rfl rfl rfl hHeld ?_
      simp only [Act.put, List.setIfInBounds_toArray, List.set_cons_zero, List.set_cons_succ]
      refine tk_val 7 42 (.int .i64 ((i : Int) - K)) rfl (by kernel_rfl) (by kernel_rfl) (by kernel_rfl) (fun _ _ _ _ h => h) rfl rfl (fun w _ => ev_sub (.tmp 40) (.tmp 41) i K rfl rfl rfl (by omega) (by omega)) hHeld ?_
      simp only [Act.put, List.setIfInBounds_toArray, List.set_cons_zero, List.set_cons_succ]
      refine tk_move 8 43 (.tmp 2) (.int .i64 n) rfl (by kernel_rfl) (by kernel_rfl) (by kernel_rfl) (fun _ _ _ _ h => h) rfl rfl rfl rfl hHeld ?_
      simp only [Act.put, List.setIfInBounds_toArray, List.set_cons_zero, List.set_cons_succ]
      refine tk_move 9 44 (.tmp 9) (.int .i64 K) rfl (by kernel_rfl) (by kernel_rfl) (by kernel_rfl) (fun _ _ _ _ h => h) rfl rfl rfl rfl hHeld ?_
      simp only [Act.put, List.setIfInBounds_toArray, List.set_cons_zero, List.set_cons_succ]
      refine tk_val 10 45 (.int .i64 ((n : Int) - K)) rfl (by kernel_rfl) (by kernel_rfl) (by kernel_rfl) (fun _ _ _ _ h => h) rfl rfl (fun w _ => ev_sub (.tmp 43) (.tmp 44) n K rfl rfl rfl (by omega) (by omega)) hHeld ?_
      simp only [Act.put, List.setIfInBounds_toArray, List.set_cons_zero, List.set_cons_succ]
      refine tk_move 11 46 (.tmp 3) (.slice (some ⟨b, o, none⟩) (N + 1) cap) rfl (by kernel_rfl) (by kernel_rfl) (by kernel_rfl) (fun _ _ _ _ h => h) rfl rfl rfl rfl hHeld ?_
      simp only [Act.put, List.setIfInBounds_toArray, List.set_cons_zero, List.set_cons_succ]
      refine tk_move 12 47 (.tmp 10) (.int .i64 N) rfl (by kernel_rfl) (by kernel_rfl) (by kernel_rfl) (fun _ _ _ _ h => h) rfl rfl rfl rfl hHeld ?_
      simp only [Act.put, List.setIfInBounds_toArray, List.set_cons_zero, List.set_cons_succ]
      refine tk_val 13 48 (.slice (some ⟨b, o, none⟩) N cap) rfl (by kernel_rfl) (by kernel_rfl) (by kernel_rfl) (fun _ _ _ _ h => h) rfl rfl (fun w _ => ev_slice_to (.tmp 46) (.tmp 47) b o (N + 1) cap N rfl rfl rfl b1) hHeld ?_
      simp only [Act.put, List.setIfInBounds_toArray, List.set_cons_zero, List.set_cons_succ]
      refine lone 14 (by kernel_rfl) rfl (fun K' hK' => to_call 64 49 _ _ #[.agg (U d).toArray, .int .i64 ((i : Int) - K), .int .i64 ((n : Int) - K), .slice (some ⟨b, o, none⟩) N cap] _ rfl rfl rfl rfl enters_climb (CB' _ hbx) (fun e w5 h5 => ⟨_, h5.1, ?_⟩))
      have hb5 := STEP.out _ _ hbx h5.2
      refine hK' _ _ ⟨(KEEP.out _ hb5).2.2.1.range, (KEEP.out _ hb5).2.2.2.2.1⟩ ?_
      simp only [Act.put, List.setIfInBounds_toArray, List.set_cons_zero, List.set_cons_succ]
      refine lone 15 (by kernel_rfl) rfl (fun K'' hK'' => to_call 62 50 _ _ #[.agg (U X).toArray, .agg (U (clm f d (i - K) (n - K) D)).toArray] _ rfl rfl rfl rfl enters_node (node_all X (clm f d (i - K) (n - K) D) w5 HXL.out (clm_len _ _ _ _ _) (KEEP.out _ hb5).2.1) (fun e w7 h7 => ⟨_, h7.1, ?_⟩))
      have hb7 := STEP.out _ _ hb5 h7.2
      refine hK'' _ _ ⟨(KEEP.out _ hb7).2.2.1.range, (KEEP.out _ hb7).2.2.2.2.1⟩ ?_
      simp only [Act.put, List.setIfInBounds_toArray, List.set_cons_zero, List.set_cons_succ]
      have hr7 := (KEEP.out _ hb7).2.2.2.1
      have hr8 := hr7.setRow (noded X (clm f d (i - K) (n - K) D))
      have hb8 := below_setRow (KEEP.out _ hb7).2.2.2.2.2 (show w.heap.size ≤ w.heap.size + 1 by omega) (U (noded X (clm f d (i - K) (n - K) D))).toArray
      refine lone 16 (by kernel_rfl) rfl (fun K3 hK3 => step_store_d rfl (.tmp 8) (.tmp 50) rfl rfl (w.heap.size + 1) (flb 32 []) (noded X (clm f d (i - K) (n - K) D)) rfl rfl hr7 (by simp [flb]) (tagd_len _ _) (hK3 _ _ ⟨?_, ?_⟩ ?_))
      · exact ((KEEP.out _ hb7).2.2.1.keep (setRow_other _ _ _ _ (by omega))).range
      · exact fun j u hu => (World.cell?_of_block (setRow_other _ _ _ _ (show b ≠ w.heap.size + 1 by omega))).trans ((KEEP.out _ hb7).2.2.2.2.1 j u hu)
      refine wpAnyH_done (by kernel_rfl) (NoPanic.normal ?_) _
      have HR8 := Lib.hid hr8
      have HB8 := Lib.hid hb8
      clear hr7 hr8 hb7 hb8 hb5 h5 h7 hHeld hbx
      go_wp2_with fail
      rw [HC2.out hik]
      exact bodyPost_ret (res_B rfl _ _ _ _ _ rfl HR8.out (tagd_len _ _)) rfl ⟨rfl, HB8.out⟩
end
section
set_option maxRecDepth 100000
open Go.RowKit

theorem flbz : flb 32 [] = z32 := rfl
set_option maxRecDepth 100000 in
set_option maxHeartbeats 1600000 in
theorem Climb_no (f : Nat) (d : List UInt8) (_hd : d.length = 32) (i n : Int) (P : List (List UInt8)) (A : Option Addr) (cap : Nat) (w : World) (hf2 : f ≤ 1099511627776) (_hpl : P.length ≤ 1099511627776)
    (h : n < 1 ∨ 1099511627776 < n ∨ i < 0 ∨ n ≤ i ∨ (n ≤ f ∧ P.length ≠ stp f i.toNat n.toNat)) :
    Calls Tryd.prog 29 #[.agg (U d).toArray, .int .i64 i, .int .i64 n, .slice A P.length cap] w fun e w' => e = .returned (.tuple #[.agg (U z32).toArray, .int .i64 1]) ∧ Below w.heap.size w w' := by
  obtain ⟨W1, hW1⟩ : ∃ W1, (w.alloc (.cells (U d).toArray 23)).alloc (.cells (U (flb 32 [])).toArray 23) = W1 := ⟨_, rfl⟩
  obtain ⟨h0, h1, hb1, hz1⟩ := box2 w (U d).toArray (U (flb 32 [])).toArray 23 23 W1 hW1
  have HW1 := Lib.hid hW1
  have hr1 : RowB W1 (w.heap.size + 1) 23 (flb 32 []) := h1
  have HR1 := Lib.hid hr1
  have HB1 := Lib.hid hb1
  have CS : 0 ≤ i → i < n → n ≤ f → Calls Tryd.prog 63 #[.int .i64 i, .int .i64 n] W1 fun e w' => e = .returned (.int .i64 (stp f i.toNat n.toNat)) ∧ w' = W1 := fun h1 h2 h3 => by
    have := steps_all f i.toNat n.toNat W1 (by omega) (by omega) (by omega)
    rwa [show ((i.toNat : Nat) : Int) = i by omega, show ((n.toNat : Nat) : Int) = n by omega] at this
  have HCS := Lib.hid CS
  have HH := Lib.hid h
  have hst := stp_le f i.toNat n.toNat
  clear h0 h1 hb1 hW1 hr1 h CS
  have HF : Hid (Below w.heap.size w W1) := HB1
  by_cases c1 : n < 1
  · clear HCS
    have hr1 := HR1.out
    rw [← HW1.out] at hr1
    have hbb := HB1.out
    rw [← HW1.out] at hbb
    have HR2 := Lib.hid (hr1.setRow z32)
    have HBB := Lib.hid hbb
    clear hbb HF
    go_enter Tryd.func29, Tryd.ntmps29
    go_wp2_with (refine store_B rfl (.tmp 8) (.tmp 33) rfl (w.heap.size + 1) (flb 32 []) z32 rfl rfl 23 hr1 rfl (by simp [flb]) ?_)
    exact bodyPost_ret (res_two rfl _ _ _ _ _ _ rfl rfl HR2.out rfl) rfl ⟨rfl, below_setRow HBB.out (by omega) _⟩
  by_cases c2 : 1099511627776 < n
  · clear HCS
    have hr1 := HR1.out
    rw [← HW1.out] at hr1
    have hbb := HB1.out
    rw [← HW1.out] at hbb
    have HR2 := Lib.hid (hr1.setRow z32)
    have HBB := Lib.hid hbb
    clear hbb HF
    go_enter Tryd.func29, Tryd.ntmps29
    go_wp2_with (refine store_B rfl (.tmp 8) (.tmp 33) rfl (w.heap.size + 1) (flb 32 []) z32 rfl rfl 23 hr1 rfl (by simp [flb]) ?_)
    exact bodyPost_ret (res_two rfl _ _ _ _ _ _ rfl rfl HR2.out rfl) rfl ⟨rfl, below_setRow HBB.out (by omega) _⟩
  by_cases c3 : i < 0
  · clear HCS
    have hr1 := HR1.out
    rw [← HW1.out] at hr1
    have hbb := HB1.out
    rw [← HW1.out] at hbb
    have HR2 := Lib.hid (hr1.setRow z32)
    have HBB := Lib.hid hbb
    clear hbb HF
    go_enter Tryd.func29, Tryd.ntmps29
    go_wp2_with (refine store_B rfl (.tmp 8) (.tmp 33) rfl (w.heap.size + 1) (flb 32 []) z32 rfl rfl 23 hr1 rfl (by simp [flb]) ?_)
    exact bodyPost_ret (res_two rfl _ _ _ _ _ _ rfl rfl HR2.out rfl) rfl ⟨rfl, below_setRow HBB.out (by omega) _⟩
  by_cases c4 : n ≤ i
  · clear HCS
    have hr1 := HR1.out
    rw [← HW1.out] at hr1
    have hbb := HB1.out
    rw [← HW1.out] at hbb
    have HR2 := Lib.hid (hr1.setRow z32)
    have HBB := Lib.hid hbb
    clear hbb HF
    go_enter Tryd.func29, Tryd.ntmps29
    go_wp2_with (refine store_B rfl (.tmp 8) (.tmp 33) rfl (w.heap.size + 1) (flb 32 []) z32 rfl rfl 23 hr1 rfl (by simp [flb]) ?_)
    exact bodyPost_ret (res_two rfl _ _ _ _ _ _ rfl rfl HR2.out rfl) rfl ⟨rfl, below_setRow HBB.out (by omega) _⟩
  have hh : n ≤ f ∧ P.length ≠ stp f i.toNat n.toNat := by
    rcases HH.out with h | h | h | h | h
    · omega
    · omega
    · omega
    · omega
    · exact h
  have C := Lib.hid (HCS.out (by omega) (by omega) hh.1)
  have hne : (P.length == stp f i.toNat n.toNat) = false := by simpa using hh.2
  have hne2 : (P.length != stp f i.toNat n.toNat) = true := by simpa using hh.2
  have hne3 : ¬ P.length = stp f i.toNat n.toNat := hh.2
  have hne4 : ¬ (P.length : Int) = (stp f i.toNat n.toNat : Nat) := by omega
  generalize stp f i.toNat n.toNat = st at *
  clear hh HCS HH
  go_enter Tryd.func29, Tryd.ntmps29
  go_wp2_with fail
  generalize hW1' : (w.alloc _).alloc _ = W1'
  have e9 : W1' = W1 := hW1'.symm.trans HW1.out
  clear hW1'
  rw [e9]
  clear e9 W1'
  refine C.out.mono ?_
  rintro e w' ⟨rfl, hw'⟩
  rw [hw']
  clear hw' w'
  have hr1 := HR1.out
  have hr2 := hr1.setRow z32
  go_wp2_with (refine store_B rfl (.tmp 8) (.tmp 33) rfl (w.heap.size + 1) (flb 32 []) z32 rfl rfl 23 hr1 rfl (by simp [flb]) ?_)
  exact bodyPost_ret (res_two rfl _ _ _ _ _ _ rfl rfl hr2 rfl) rfl ⟨rfl, below_setRow HB1.out (by omega) _⟩

set_option maxRecDepth 100000 in
set_option maxHeartbeats 1600000 in
theorem Climb_yes (f : Nat) (d : List UInt8) (hd : d.length = 32) (i n : Nat) (P : List (List UInt8)) (A : Option Addr) (cap : Nat) (w : World) (hi : i < n) (hn : n ≤ f) (hf2 : f ≤ 1099511627776) (hl : DL w (· < w.heap.size) P A cap) (hp : P.length = stp f i n) (hk : KR w Kt) :
    Calls Tryd.prog 29 #[.agg (U d).toArray, .int .i64 i, .int .i64 n, .slice A P.length cap] w fun e w' => e = .returned (.tuple #[.agg (U (clm f d i n P)).toArray, .int .i64 0]) ∧ Below w.heap.size w w' := by
  have hlt0 := hk.lt
  obtain ⟨W1, hW1⟩ : ∃ W1, (w.alloc (.cells (U d).toArray 23)).alloc (.cells (U (flb 32 [])).toArray 23) = W1 := ⟨_, rfl⟩
  obtain ⟨h0, h1, hb1, hz1⟩ := box2 w (U d).toArray (U (flb 32 [])).toArray 23 23 W1 hW1
  have C := Lib.hid (steps_all f i n W1 hi hn (by omega))
  have C2 := Lib.hid (climb_all f d i n P A cap W1 hd hi hn hf2 (hl.keep fun j hj => ⟨by omega, hb1.block j hj⟩) hp (hk.keep (hb1.block 0 hlt0)))
  have HW1 := Lib.hid hW1
  have hr0 : RowB W1 w.heap.size 23 d := h0
  have hr1 : RowB W1 (w.heap.size + 1) 23 (flb 32 []) := h1
  have HR1 := Lib.hid hr1
  have HB1 := Lib.hid hb1
  have hst := stp_le f i n
  rw [← hp] at C hst
  have hnn : (n : Int) ≤ 1099511627776 := by omega
  have hn1 : (1 : Int) ≤ n := by omega
  clear h0 h1 hb1 hW1 hr1 hk hl hp
  go_enter Tryd.func29, Tryd.ntmps29
  go_wp2_with fail
  generalize hW1' : (w.alloc _).alloc _ = W1'
  have e9 : W1' = W1 := hW1'.symm.trans HW1.out
  clear hW1'
  rw [e9]
  clear e9 W1'
  refine C.out.mono ?_
  rintro e w' ⟨rfl, hw'⟩
  rw [hw']
  clear hw' w'
  go_wp2_with (refine load_B rfl (.tmp 4) rfl w.heap.size rfl 23 d hr0 hd ?_)
  refine C2.out.mono ?_
  rintro e w2 ⟨rfl, hb2⟩
  have hd2 : RowB w2 (w.heap.size + 1) 23 (flb 32 []) := (hb2.block _ (by omega)).trans HR1.out
  have hr2 := hd2.setRow (clm f d i n P)
  have HB2 := Lib.hid (HB1.out.trans (hb2.mono (by omega)))
  clear C C2 hb2 hr0
  go_wp2_with (refine store_B rfl (.tmp 8) (.tmp 38) rfl (w.heap.size + 1) (flb 32 []) (clm f d i n P) rfl rfl 23 hd2 (clm_len _ _ _ _ _) (by simp [flb]) ?_)
  exact bodyPost_ret (res_two rfl _ _ _ _ _ _ rfl rfl hr2 (clm_len _ _ _ _ _)) rfl ⟨rfl, below_setRow HB2.out (by omega) _⟩
end
end Go.Proofs.YteicbdjennjcdaaDoor
