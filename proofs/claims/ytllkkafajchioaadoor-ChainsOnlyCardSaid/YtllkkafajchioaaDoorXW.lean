/- Chains: the law's own examples. -/
import Derived.Test.YtllkkafajchioaaDoorXV
namespace Go.Proofs.YtllkkafajchioaaDoor
open Go.RowKit

/-- what is signed leads to the public key -/
theorem recF_sgn (s m : List UInt8) : recF m (sgn s m) = pubF s := by
  unfold recF pubF
  congr 1
  unfold rc
  apply List.map_congr_left
  intro i hi
  have hi := List.mem_range.1 hi
  have h1 : (sgn s m).getD i [] = sn ((dgl m).getD i 0) ((fsts s 19).getD i []) := by
    unfold sgn rc
    rw [List.getD_eq_getElem?_getD, List.getElem?_map, List.getElem?_range hi]
    rfl
  obtain ⟨d, hd⟩ : ∃ d, (dgl m)[i]? = some d := ⟨_, List.getElem?_eq_getElem (by rw [dgl_len]; exact hi)⟩
  have hd3 := dgl_le m d (List.mem_of_getElem? hd)
  have h2 : (lft (dgl m)).getD i 0 = 3 - d := by
    rw [List.getD_eq_getElem?_getD, lft, List.getElem?_map, hd]
    rfl
  have h3 : (List.replicate 19 3).getD i 0 = 3 := by
    rw [List.getD_eq_getElem?_getD, List.getElem?_replicate, if_pos hi]
    rfl
  rw [h1, h2, h3, sn_add, List.getD_eq_getElem?_getD, hd]
  congr 1
  simp
  omega

def seedD : List UInt8 := 7 :: List.replicate 31 0
def zeros16 : List Nat := List.replicate 16 0
def wantL : List Nat := List.replicate 16 0 ++ [3, 0, 0]
def threesL : List Nat := List.replicate 16 3 ++ [0, 0, 0]
theorem dgl_zero : dgl z32 = wantL := by decide +kernel
theorem dgl_full : dgl fullD = threesL := by decide +kernel
theorem ear_full : earF (dgl fullD) (dgl z32) 19 0 = some 0 := by decide +kernel
theorem ear_none : earF (dgl fullD) (dgl fullD) 19 0 = none := by decide +kernel
theorem enters_full : Enters Tryd.prog 28 := enters_of Tryd.func28 (by kernel_rfl) rfl
theorem enters_Sign : Enters Tryd.prog 21 := enters_of Tryd.func21 (by kernel_rfl) rfl
theorem enters_Earlier : Enters Tryd.prog 11 := enters_of Tryd.func11 (by kernel_rfl) rfl
theorem ownN_row (w : World) (l : List Nat) (n : Nat) (hn : l.length = n) (h : n ≤ 1000) : OwnN (w.alloc (.cells (NI l).toArray 3)) w.heap.size (.slice (some ⟨w.heap.size, 0, none⟩) n n) l := by
  subst hn
  exact ⟨by rw [NI_length, Nat.mul_one], .inr ⟨w.heap.size, l.length, (NI l).toArray, rfl, Nat.le_refl _, heap_alloc_new w _, Nat.le_refl _, by simp only [maxLen]; omega, by simp [NI_length], by rw [Nat.mul_one, ← NI_length l, List.take_length]⟩⟩

set_option maxRecDepth 100000 in
set_option maxHeartbeats 3200000 in
theorem sane_all (w : World) (hk : KR w Kt) : Calls Tryd.prog 10 #[] w fun e w' => e = .returned (.bool true) ∧ Below w.heap.size w w' := by
  have hlt0 := hk.lt
  have HK := Lib.hid hk
  clear hk
  obtain ⟨h0, h1, hb1, hz1⟩ := box2 w (U (flb 32 [])).toArray (U (flb 32 [])).toArray 23 23 _ rfl
  have r0 : RowB ((w.alloc (.cells (U (flb 32 [])).toArray 23)).alloc (.cells (U (flb 32 [])).toArray 23)) w.heap.size 23 (flb 32 []) := h0
  have r0' := r0.setRow z32
  have r1' : RowB (((w.alloc (.cells (U (flb 32 [])).toArray 23)).alloc (.cells (U (flb 32 [])).toArray 23)).setRow w.heap.size (U z32).toArray) (w.heap.size + 1) 23 (flb 32 []) := (setRow_other _ _ _ _ (by omega)).trans h1
  have HG := Lib.hid (show ∀ W, (((w.alloc (.cells (U (flb 32 [])).toArray 23)).alloc (.cells (U (flb 32 [])).toArray 23)).setRow w.heap.size (U z32).toArray).setRow (w.heap.size + 1) (U seedD).toArray = W → RowB W w.heap.size 23 z32 ∧ RowB W (w.heap.size + 1) 23 seedD ∧ Below w.heap.size w W ∧ Hid (W.heap.size = w.heap.size + 2) ∧ w.heap.size + 2 ≤ W.heap.size from fun W h => by
    subst h
    exact ⟨(setRow_other _ _ _ _ (by omega)).trans r0', r1'.setRow seedD, below_setRow (below_setRow hb1 (Nat.le_refl _) _) (by omega) _, Lib.hid (by rw [setRow_size, setRow_size]; exact hz1), by rw [setRow_size, setRow_size, hz1]; omega⟩)
  have hmk : ∀ w : World, (Instr.makeSlice 29 (.int .i64 16) (.int .i64 16)).run Tryd.prog w = .ok (.slice (some ⟨w.heap.size, 0, none⟩) 16 16) (w.alloc (.cells (NI zeros16).toArray 3)) := fun _ => by kernel_rfl
  have hbs : ∀ w : World, (Instr.buildSlice 29 19 #[(0, .int .i64 3), (1, .int .i64 3), (2, .int .i64 3), (3, .int .i64 3), (4, .int .i64 3), (5, .int .i64 3), (6, .int .i64 3), (7, .int .i64 3), (8, .int .i64 3), (9, .int .i64 3), (10, .int .i64 3), (11, .int .i64 3), (12, .int .i64 3), (13, .int .i64 3), (14, .int .i64 3), (15, .int .i64 3), (16, .int .i64 0), (17, .int .i64 0), (18, .int .i64 0)]).run Tryd.prog w = .ok (.slice (some ⟨w.heap.size, 0, none⟩) 19 19) (w.alloc (.cells (NI threesL).toArray 3)) := fun _ => by kernel_rfl
  clear h0 h1 hb1 hz1 r0'
  go_enter Tryd.func10, Tryd.ntmps10
  go_wp2_with (first
    | (refine store_B rfl (.tmp 1) (.tmp 12) rfl w.heap.size (flb 32 []) z32 rfl rfl 23 r0 rfl rfl ?_)
    | (refine store_B rfl (.tmp 2) (.tmp 13) rfl (w.heap.size + 1) (flb 32 []) seedD rfl rfl 23 r1' rfl rfl ?_; generalize hW : World.setRow _ _ _ = W; obtain ⟨q0, q1, q2, HZ, hzw⟩ := HG.out W hW; clear hW r0 r1' HG; have R0 := Lib.hid q0; have R1 := Lib.hid q1; have HB := Lib.hid q2; clear q0 q1 q2; have OW := Lib.hid (show OwnN ((W.alloc (.cells (NI zeros16).toArray 3)).alloc (.cells #[.int .i64 3, .int .i64 0, .int .i64 0] 3)) W.heap.size (.slice (some ⟨W.heap.size, 0, none⟩) 16 16) zeros16 from World.ownsRow.alloc (ownN_row W zeros16 16 rfl (by omega)) _); have CE := Lib.hid (three_int (W.alloc (.cells (NI zeros16).toArray 3)) 3 0 0 3); have HB2 := Lib.hid ((HB.out.alloc HB.out.size (.cells (NI zeros16).toArray 3)).alloc (by simp; have := HB.out.size; omega) (.cells #[.int .i64 3, .int .i64 0, .int .i64 0] 3)))
    | (at_builtin; refine app_int rfl (.tmp 14) (.tmp 15) rfl W.heap.size (W.heap.size + 1) 3 _ zeros16 [3, 0, 0] rfl rfl rfl OW.out (fun j u hu => by have := CE.out j u hu; rwa [World.size_alloc] at this) (by decide) (by simp; omega) ?_; intro v3 w3 ho3 hg3; have HB3 := Lib.hid (below_ownN HB2.out hg3 OW.out HB.out.size (by simp; have := HB.out.size; omega)); have hk3 := fun (g : Nat) (h : g < W.heap.size) => (hg3.block g (by simp; omega) (fun e => by have := (World.ownsRow.lt OW.out g e.symm).1; omega)).trans ((Below.heap_alloc _ _ g (by simp; omega)).trans (Below.heap_alloc W _ g h)); obtain ⟨A3, c3, e3⟩ := ho3.slice; rw [show (zeros16 ++ ([3, 0, 0] : List Nat)).length = 19 from rfl] at e3; subst e3; have HO3 := Lib.hid ho3; have HK3 := Lib.hid hk3; clear ho3 hg3 hk3 OW CE))
  --CUT
  have hz3 := HB3.out.size
  have hwz := HB.out.size
  have h9 : W.heap.size ≤ w3.heap.size := by
    have := HO3.out.2
    rcases this with ⟨e, _⟩ | ⟨g, cap, cur, _, hg, hh, _⟩
    · cases e
    · have := (Array.getElem?_eq_some_iff.1 hh).1; omega
  have hb34 : Below w3.heap.size w3 (w3.alloc (.cells (NI threesL).toArray 3)) := (Below.refl _ _).alloc (Nat.le_refl _) _
  have KEEP := Lib.hid (show ∀ ww, Below (w3.heap.size + 1) (w3.alloc (.cells (NI threesL).toArray 3)) ww → RowB ww w.heap.size 23 z32 ∧ RowB ww (w.heap.size + 1) 23 seedD ∧ IL ww (· < w3.heap.size + 1) wantL A3 c3 ∧ IL ww (· < w3.heap.size + 1) threesL (some ⟨w3.heap.size, 0, none⟩) 19 ∧ KR ww Kt ∧ Below w.heap.size w ww from fun ww h => by
    have hh : Below w3.heap.size w3 ww := hb34.trans (h.mono (by omega))
    refine ⟨(hh.block _ (by omega)).trans ((HK3.out _ (by omega)).trans R0.out), (hh.block _ (by omega)).trans ((HK3.out _ (by omega)).trans R1.out), HO3.out.il.keep fun i hi => ⟨by omega, hh.block i hi.2⟩, ?_, HK.out.keep ((hh.block 0 (by omega)).trans (HB3.out.block 0 hlt0)), HB3.out.trans (hh.mono (by omega))⟩
    have h8 : RowN ww w3.heap.size 3 threesL := (h.block _ (by omega)).trans (heap_alloc_new w3 _)
    exact (h8.il rfl).keep fun i hi => ⟨by omega, rfl⟩)
  clear hb34
  obtain ⟨W4, hW4⟩ : ∃ W4, w3.alloc (.cells (NI threesL).toArray 3) = W4 := ⟨_, rfl⟩
  rw [hW4] at KEEP
  generalize hq4 : w3.alloc _ = W4'
  have e9 : W4' = W4 := hq4.symm.trans hW4
  clear hq4
  rw [e9]
  clear e9 W4'
  obtain ⟨n4, hn4⟩ : ∃ n4, n4 = w3.heap.size + 1 := ⟨_, rfl⟩
  have hz4 : W4.heap.size = n4 := by rw [← hW4, hn4, World.size_alloc]
  have HG3 := Lib.hid (show w3.heap.size + 1 = n4 from hn4.symm)
  rw [← hn4] at KEEP
  have hn5 : w.heap.size + 3 ≤ n4 := by omega
  clear hW4 hn4 HB2 HB3 HO3 HK3 R0 R1 HB HZ hmk hbs
  have HZ4 := Lib.hid hz4
  clear hz4
  refine wp_region_noPanic ?_
  have h0 : Below n4 W4 W4.drew := (Below.refl _ _).drew
  refine wp_region_held_drew (S := fun ww => Below n4 W4 ww) (by kernel_rfl) h0 (fun _ => ?_)
  refine tk_load 0 18 (.tmp 2) (w.heap.size + 1) (0) seedD rfl (by kernel_rfl) (by kernel_rfl) (by kernel_rfl) (fun _ _ _ _ h => h) rfl rfl rfl rfl (fun ww h => (KEEP.out ww h).2.1.range) rfl h0 ?_
  simp only [Act.put, List.setIfInBounds_toArray, List.set_cons_zero, List.set_cons_succ]
  have hs0 : n4 ≤ W4.drew.heap.size := by show n4 ≤ W4.heap.size; rw [HZ4.out]; omega
  generalize W4.drew = V0 at *
  refine lone 1 (by kernel_rfl) rfl (fun K hK => to_call 28 19 _ _ #[] _ rfl rfl rfl rfl enters_full (full_all V0) (fun e w5 h5 => ⟨_, h5.1, ?_⟩))
  have hx5 := h0.trans (h5.2.mono hs0)
  have hs5 : n4 ≤ w5.heap.size := Nat.le_trans hs0 h5.2.size
  refine hK _ _ hx5 ?_
  simp only [Act.put, List.setIfInBounds_toArray, List.set_cons_zero, List.set_cons_succ]
  clear hK h5
  refine lone 2 (by kernel_rfl) rfl (fun K hK => to_call 21 20 _ _ #[.agg (U seedD).toArray, .agg (U fullD).toArray] _ rfl rfl rfl rfl enters_Sign (sign_all seedD fullD w5 rfl rfl (KEEP.out _ hx5).2.2.2.2.1) (fun e w6 h6 => ?_))
  obtain ⟨v6, h61, h62, h63⟩ := h6
  obtain ⟨A6, c6, rfl⟩ := h62.slice
  rw [sgn_len] at h61 h62
  refine ⟨_, h61, ?_⟩
  have hx6 := hx5.trans (h63.mono hs5)
  have hs6 : n4 ≤ w6.heap.size := Nat.le_trans hs5 h63.size
  have HDL := Lib.hid (h62.dlw (sgn_len _ _))
  refine hK _ _ hx6 ?_
  simp only [Act.put, List.setIfInBounds_toArray, List.set_cons_zero, List.set_cons_succ]
  clear hK h61 h62 h63
  refine tk_assign 3 5 (.tmp 20) (.slice A6 19 c6) rfl (by kernel_rfl) (by kernel_rfl) (by kernel_rfl) (fun _ _ _ _ h => h) rfl rfl rfl rfl hx6 ?_
  simp only [Act.put, List.setIfInBounds_toArray, List.set_cons_zero, List.set_cons_succ]
  refine wpAnyH_done (by kernel_rfl) (NoPanic.normal ?_) _
  have HX6 := Lib.hid hx6
  have KE := Lib.hid (show ∀ ww, Below w6.heap.size w6 ww → RowB ww w.heap.size 23 z32 ∧ RowB ww (w.heap.size + 1) 23 seedD ∧ IL ww (· < n4) wantL A3 c3 ∧ IL ww (· < n4) threesL (some ⟨w3.heap.size, 0, none⟩) 19 ∧ KR ww Kt ∧ Below w.heap.size w ww ∧ DL ww (· < ww.heap.size) (sgn seedD fullD) A6 c6 from fun ww h => by
    obtain ⟨k1, k2, k3, k4, k5, k6⟩ := KEEP.out ww (HX6.out.trans (h.mono hs6))
    exact ⟨k1, k2, k3, k4, k5, k6, HDL.out.keep fun i hi => ⟨Nat.lt_of_lt_of_le hi h.size, h.block i hi⟩⟩)
  have STEP := Lib.hid (show ∀ ww w', Below w6.heap.size w6 ww → Below ww.heap.size ww w' → Below w6.heap.size w6 w' from fun ww w' h1 h2 => h1.trans (h2.mono h1.size))
  have hb6 : Below w6.heap.size w6 w6 := Below.refl _ _
  have hw6 : w.heap.size + 3 ≤ w6.heap.size := by omega
  clear hx6 hx5 h0 hs0 hs5
  have rz := (KE.out _ hb6).1
  go_wp2_with (refine load_B rfl (.tmp 1) rfl w.heap.size rfl 23 z32 rz rfl ?_)
  refine (Recover_no z32 0 0 none w6 (by omega) (by omega)).mono ?_
  rintro e w7 ⟨rfl, hb7⟩
  have hb7' := STEP.out _ _ hb6 hb7
  have n7 : RowB (w7.alloc (.cells (U (flb 32 [])).toArray 23)) w7.heap.size 23 (flb 32 []) := heap_alloc_new w7 _
  have HB8 := Lib.hid (STEP.out _ _ hb7' (below_setRow ((Below.refl w7.heap.size w7).alloc (Nat.le_refl _) (.cells (U (flb 32 [])).toArray 23)) (Nat.le_refl _) (U z32).toArray))
  clear hb7 rz hb7' hb6
  go_wp2_with (refine store_B rfl (.tmp 6) (.tmp 24) rfl w7.heap.size (flb 32 []) z32 rfl rfl 23 n7 rfl (by simp [flb]) ?_)
  generalize hg8 : (w7.alloc _).setRow _ _ = w8
  have hb8 : Below w6.heap.size w6 w8 := by rw [← hg8]; exact HB8.out
  clear hg8 HB8 n7
  have HB8 := Lib.hid hb8
  have hb8d : Below w6.heap.size w6 w8.drew := HB8.out.drew
  refine wp_region_noPanic ?_
  refine wp_region_held_drew (S := fun ww => Below w6.heap.size w6 ww) (by kernel_rfl) hb8d (fun _ => ?_)
  refine tk_move 1 28 (.tmp 5) (.slice A6 19 c6) rfl (by kernel_rfl) (by kernel_rfl) (by kernel_rfl) (fun _ _ _ _ h => h) rfl rfl rfl rfl hb8d ?_
  simp only [Act.put, List.setIfInBounds_toArray, List.set_cons_zero, List.set_cons_succ]
  refine tk_load 2 29 (.tmp 1) w.heap.size (0) z32 rfl (by kernel_rfl) (by kernel_rfl) (by kernel_rfl) (fun _ _ _ _ h => h) rfl rfl rfl rfl (fun ww h => (KE.out ww h).1.range) rfl hb8d ?_
  simp only [Act.put, List.setIfInBounds_toArray, List.set_cons_zero, List.set_cons_succ]
  generalize w8.drew = V8 at *
  refine lone 0 (by kernel_rfl) rfl (fun K hK => to_call 28 27 _ _ #[] _ rfl rfl rfl rfl enters_full (full_all V8) (fun e w9 h9 => ⟨_, h9.1, ?_⟩))
  have hb9 := STEP.out _ _ hb8d h9.2
  refine hK _ _ hb9 ?_
  simp only [Act.put, List.setIfInBounds_toArray, List.set_cons_zero, List.set_cons_succ]
  clear hK h9
  refine lone 3 (by kernel_rfl) rfl (fun K hK => to_call 11 30 _ _ #[.agg (U fullD).toArray, .slice A6 19 c6, .agg (U z32).toArray] _ rfl rfl rfl rfl enters_Earlier (Earlier_yes fullD z32 c6 A6 w9 rfl rfl) (fun e w10 h10 => ⟨_, h10.1, ?_⟩))
  have hb10 := STEP.out _ _ hb9 h10.2
  refine hK _ _ hb10 ?_
  rw [ear_full]
  simp only [Act.put, List.setIfInBounds_toArray, List.set_cons_zero, List.set_cons_succ]
  clear hK h10
  refine tk_move 4 26 (.tmp 30) (.tuple #[.int .i64 0, .bool true]) rfl (by kernel_rfl) (by kernel_rfl) (by kernel_rfl) (fun _ _ _ _ h => h) rfl rfl rfl rfl hb10 ?_
  simp only [Act.put, List.setIfInBounds_toArray, List.set_cons_zero, List.set_cons_succ]
  refine tk_val 5 31 (.int .i64 0) rfl (by kernel_rfl) (by kernel_rfl) (by kernel_rfl) (fun _ _ _ _ h => h) rfl rfl (fun w _ => ev_extract (.tmp 26) 0 #[.int .i64 0, .bool true] _ rfl rfl rfl) hb10 ?_
  simp only [Act.put, List.setIfInBounds_toArray, List.set_cons_zero, List.set_cons_succ]
  refine tk_val 6 32 (.bool true) rfl (by kernel_rfl) (by kernel_rfl) (by kernel_rfl) (fun _ _ _ _ h => h) rfl rfl (fun w _ => ev_extract (.tmp 26) 1 #[.int .i64 0, .bool true] _ rfl rfl rfl) hb10 ?_
  simp only [Act.put, List.setIfInBounds_toArray, List.set_cons_zero, List.set_cons_succ]
  refine tk_assign 7 8 (.tmp 31) (.int .i64 0) rfl (by kernel_rfl) (by kernel_rfl) (by kernel_rfl) (fun _ _ _ _ h => h) rfl rfl rfl rfl hb10 ?_
  simp only [Act.put, List.setIfInBounds_toArray, List.set_cons_zero, List.set_cons_succ]
  refine tk_assign 8 9 (.tmp 32) (.bool true) rfl (by kernel_rfl) (by kernel_rfl) (by kernel_rfl) (fun _ _ _ _ h => h) rfl rfl rfl rfl hb10 ?_
  simp only [Act.put, List.setIfInBounds_toArray, List.set_cons_zero, List.set_cons_succ]
  refine wpAnyH_done (by kernel_rfl) (NoPanic.normal ?_) _
  have HB10 := Lib.hid hb10
  clear hb10 hb9 hb8d hb8 HB8
  go_wp2_with fail
  refine (full_all w10).mono ?_
  rintro e w11 ⟨rfl, hb⟩
  have HB11 := Lib.hid (STEP.out _ _ HB10.out hb)
  clear hb HB10
  go_wp2_with fail
  refine (full_all w11).mono ?_
  rintro e w12 ⟨rfl, hb⟩
  have HB12 := Lib.hid (STEP.out _ _ HB11.out hb)
  clear hb HB11
  go_wp2_with fail
  refine (Earlier_yes fullD fullD c6 A6 w12 rfl rfl).mono ?_
  rintro e w13 ⟨rfl, hb⟩
  have HB13 := Lib.hid (STEP.out _ _ HB12.out hb)
  rw [ear_none, show erv none = .tuple #[.int .i64 0, .bool false] from rfl]
  have rz := (KE.out _ HB13.out).1
  clear hb HB12
  go_wp2_with (refine load_B rfl (.tmp 1) rfl w.heap.size rfl 23 z32 rz rfl ?_)
  refine (Digits_all z32 w13 rfl).mono ?_
  rintro e w14 ⟨g14, rfl, hr14, hg14, hb⟩
  have HB14 := Lib.hid (STEP.out _ _ HB13.out hb)
  have C := rSameInts_all (dgl z32) wantL (some ⟨g14, 0, none⟩) 19 A3 c3 w14 ((hr14.il (dgl_len _)).keep fun i hi => ⟨by rw [hi]; exact hr14.lt, rfl⟩) ((KE.out _ HB14.out).2.2.1.keep fun i hi => ⟨by have := HB14.out.size; omega, rfl⟩) (by rw [dgl_len]; omega) (by rw [show wantL.length = 19 from rfl]; omega)
  rw [dgl_len, show wantL.length = 19 from rfl, decide_eq_true dgl_zero] at C
  have CC := Lib.hid C
  clear hb HB13 rz C hr14 hg14
  go_wp2_with fail
  refine CC.out.mono ?_
  rintro e w15 ⟨rfl, hb⟩
  have HB15 := Lib.hid (STEP.out _ _ HB14.out hb)
  clear hb HB14 CC
  go_wp2_with fail
  refine (full_all w15).mono ?_
  rintro e w16 ⟨rfl, hb⟩
  have HB16 := Lib.hid (STEP.out _ _ HB15.out hb)
  clear hb HB15
  go_wp2_with fail
  refine (Digits_all fullD w16 rfl).mono ?_
  rintro e w17 ⟨g17, rfl, hr17, hg17, hb⟩
  have HB17 := Lib.hid (STEP.out _ _ HB16.out hb)
  have C := rSameInts_all (dgl fullD) threesL (some ⟨g17, 0, none⟩) 19 (some ⟨w3.heap.size, 0, none⟩) 19 w17 ((hr17.il (dgl_len _)).keep fun i hi => ⟨by rw [hi]; exact hr17.lt, rfl⟩) ((KE.out _ HB17.out).2.2.2.1.keep fun i hi => ⟨by have := HB17.out.size; omega, rfl⟩) (by rw [dgl_len]; omega) (by rw [show threesL.length = 19 from rfl]; omega)
  rw [dgl_len, show threesL.length = 19 from rfl, decide_eq_true dgl_full] at C
  have CC := Lib.hid C
  clear hb HB16 C hr17 hg17
  go_wp2_with fail
  refine CC.out.mono ?_
  rintro e w18 ⟨rfl, hb⟩
  have HB18 := Lib.hid (STEP.out _ _ HB17.out hb)
  have rs := (KE.out _ HB18.out).2.1
  clear hb HB17 CC
  go_wp2_with (refine load_Bw (by kernel_rfl) (.tmp 2) rfl (w.heap.size + 1) rfl 23 seedD rs rfl ?_)
  refine (Public_all seedD w18 rfl (KE.out _ HB18.out).2.2.2.2.1).mono ?_
  rintro e w19 ⟨rfl, hb⟩
  have HB19 := Lib.hid (STEP.out _ _ HB18.out hb)
  clear hb HB18 rs
  go_wp2_with fail
  refine (full_all w19).mono ?_
  rintro e w20 ⟨rfl, hb⟩
  have HB20 := Lib.hid (STEP.out _ _ HB19.out hb)
  clear hb HB19
  go_wp2_with fail
  have C := Verify_yes (pubF seedD) fullD (sgn seedD fullD) A6 c6 w20 (pubF_len _) rfl (sgn_len _ _) (KE.out _ HB20.out).2.2.2.2.2.2 (KE.out _ HB20.out).2.2.2.2.1
  rw [decide_eq_true (recF_sgn seedD fullD)] at C
  refine C.mono ?_
  rintro e w21 ⟨rfl, hb⟩
  have HB21 := Lib.hid (STEP.out _ _ HB20.out hb)
  have rs := (KE.out _ HB21.out).2.1
  clear hb HB20 C
  go_wp2_with (refine load_Bw (by kernel_rfl) (.tmp 2) rfl (w.heap.size + 1) rfl 23 seedD rs rfl ?_)
  refine (Public_all seedD w21 rfl (KE.out _ HB21.out).2.2.2.2.1).mono ?_
  rintro e w22 ⟨rfl, hb⟩
  have HB22 := Lib.hid (STEP.out _ _ HB21.out hb)
  clear hb HB21 rs
  go_wp2_with fail
  refine (full_all w22).mono ?_
  rintro e w23 ⟨rfl, hb⟩
  have HB23 := Lib.hid (STEP.out _ _ HB22.out hb)
  clear hb HB22
  go_wp2_with fail
  refine (Verify_no (pubF seedD) fullD 0 0 none w23 rfl (by omega) (by omega)).mono ?_
  rintro e w24 ⟨rfl, hb⟩
  have HB24 := Lib.hid (STEP.out _ _ HB23.out hb)
  clear hb HB23
  go_wp2_with fail
  go_ret
  exact ⟨rfl, (KE.out _ HB24.out).2.2.2.2.2.1⟩
end Go.Proofs.YtllkkafajchioaaDoor
