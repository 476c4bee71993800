/- Chains: the reference: Sign, Recover. -/
import Derived.Test.YtllkkafajchioaaDoorXT
namespace Go.Proofs.YtllkkafajchioaaDoor
open Go.RowKit

theorem rc_at (L : List (List UInt8)) (D : List Nat) (k d : Nat) (x : List UInt8) (hx : L[k]? = some x) (hd : D[k]? = some d) : rc L D (k + 1) = rc L D k ++ [sn d x] := by
  rw [rc_succ, List.getD_eq_getElem?_getD, hd, List.getD_eq_getElem?_getD, hx]
  rfl
theorem fsts_at (s : List UInt8) (k : Nat) (hk : k < 19) : (fsts s 19)[k]? = some (fst5 s k) := by simp [fsts, hk]

set_option maxRecDepth 100000 in
set_option maxHeartbeats 3200000 in
theorem rSign_all (s m : List UInt8) (w : World) (hs : s.length = 32) (hm : m.length = 32) :
    Calls Tryd.prog 22 #[.agg (U s).toArray, .agg (U m).toArray] w fun e w' => ∃ A c, e = .returned (.slice A 19 c) ∧ OwnD w' w.heap.size (.slice A 19 c) (sgn s m) ∧ Below w.heap.size w w' := by
  have HS := Lib.hid hs
  have HM := Lib.hid hm
  clear hs hm
  have hbx := box2 w (U s).toArray (U m).toArray 23 23 _ rfl
  have r1 : RowB ((w.alloc (.cells (U s).toArray 23)).alloc (.cells (U m).toArray 23)) (w.heap.size + 1) 23 m := hbx.2.1
  clear hbx
  go_enter Tryd.func22, Tryd.ntmps22
  go_wp2_with (refine load_B rfl (.tmp 3) rfl (w.heap.size + 1) rfl 23 m r1 HM.out ?_)
  clear r1
  generalize hW1 : (w.alloc _).alloc _ = W1
  obtain ⟨h0, _, hb1, hz1⟩ := box2 w (U s).toArray (U m).toArray 23 23 W1 hW1
  clear hW1
  refine (rDigits_all m W1 HM.out).mono ?_
  rintro e W2 ⟨Ad, cd, rfl, hod, hb2⟩
  have hz2 := hb2.size
  have HR := Lib.hid (show RowB W2 w.heap.size 23 s from (hb2.block _ (by omega)).trans h0)
  have HD := Lib.hid (hod.il.keep (w' := W2) (S' := (· < W2.heap.size)) fun i hi => ⟨hi.2, rfl⟩)
  have HB2 := Lib.hid (hb1.trans (hb2.mono (by omega)))
  have HDL := Lib.hid (dgl_len m)
  have HDE := Lib.hid (dgl_le m)
  have OE := Lib.hid (ownD_empty W2)
  have hz2' : w.heap.size < W2.heap.size := by omega
  have KEEP := Lib.hid (show ∀ ww, Below W2.heap.size W2 ww → ww.rangeAt w.heap.size 0 (U s) ∧ IL ww (· < W2.heap.size) (dgl m) Ad cd from fun ww h => ⟨(HR.out.keep (h.block _ hz2')).range, HD.out.keep fun i hi => ⟨hi, h.block i hi⟩⟩)
  clear hod h0 hb1 hb2 hz1
  go_wp2_with fail
  go_loopw [6, 7] (fun v y wr => ∃ (k : Nat) (A : Option Addr) (c : Nat), v = .slice A k c ∧ y = .int .i64 k ∧ k ≤ 19 ∧ Hid (OwnD wr W2.heap.size (.slice A k c) (rc (fsts s 19) (dgl m) k)) ∧ Hid (Below W2.heap.size W2 wr)) (fun _ y _ => 19 - (intOf y).toNat)
  case atStart => exact ⟨0, _, _, rfl, rfl, by omega, OE, Lib.hid ((Below.refl _ _).alloc (Nat.le_refl _) _)⟩
  case round =>
    obtain ⟨k, A, c, rfl, rfl, hk, HO, HB⟩ := hrel
    have hz := HB.out.size
    by_cases hlt : k < 19
    · have HL := Lib.hid (rc_len (fsts s 19) (dgl m) k)
      have h5 := fst5_len s k
      have H5 := Lib.hid h5
      obtain ⟨d, hd⟩ : ∃ d, (dgl m)[k]? = some d := ⟨_, List.getElem?_eq_getElem (by rw [HDL.out]; exact hlt)⟩
      have hd3 := HDE.out d (List.mem_of_getElem? hd)
      have HF := Lib.hid (rc_at (fsts s 19) (dgl m) k d (fst5 s k) (fsts_at s k hlt) hd)
      have H6 := Lib.hid (sn_len d _ h5)
      obtain ⟨bd, od, rfl, hSd, _⟩ := HD.out.2.2 (by rw [HDL.out]; omega)
      have KC := Lib.hid (show ∀ ww, Below W2.heap.size W2 ww → ww.cell? ⟨bd, od + k, none⟩ = some (.int .i64 (d : Int)) from fun ww h => by
        obtain ⟨b', o', e, _, hc⟩ := (KEEP.out ww h).2.2.2 (by rw [HDL.out]; omega)
        injection e with e
        injection e with e1 e2
        subst e1 e2
        exact hc k d hd)
      clear h5 hd hSd
      go_wp2_with fail
      refine wp_region_noPanic ?_
      have h0 : Below W2.heap.size W2 wr.drew := HB.out.drew
      refine wp_region_held_drew (S := fun ww => Below W2.heap.size W2 ww) (by kernel_rfl) h0 (fun _ => ?_)
      refine tk_move 0 15 (.tmp 6) (.slice A k c) rfl (by kernel_rfl) (by kernel_rfl) (by kernel_rfl) (fun _ _ _ _ h => h) rfl rfl rfl rfl h0 ?_
      simp only [Act.put, List.setIfInBounds_toArray, List.set_cons_zero, List.set_cons_succ]
      refine tk_load 1 16 (.tmp 2) w.heap.size (0) s rfl (by kernel_rfl) (by kernel_rfl) (by kernel_rfl) (fun _ _ _ _ h => h) rfl rfl rfl rfl (fun ww h => (KEEP.out ww h).1) HS.out h0 ?_
      simp only [Act.put, List.setIfInBounds_toArray, List.set_cons_zero, List.set_cons_succ]
      refine tk_move 2 17 (.tmp 7) (.int .i64 k) rfl (by kernel_rfl) (by kernel_rfl) (by kernel_rfl) (fun _ _ _ _ h => h) rfl rfl rfl rfl h0 ?_
      simp only [Act.put, List.setIfInBounds_toArray, List.set_cons_zero, List.set_cons_succ]
      refine tk_move 4 19 (.tmp 5) (.slice (some ⟨bd, od, none⟩) 19 cd) rfl (by kernel_rfl) (by kernel_rfl) (by kernel_rfl) (fun _ _ _ _ h => h) rfl rfl rfl rfl h0 ?_
      simp only [Act.put, List.setIfInBounds_toArray, List.set_cons_zero, List.set_cons_succ]
      refine tk_move 5 20 (.tmp 7) (.int .i64 k) rfl (by kernel_rfl) (by kernel_rfl) (by kernel_rfl) (fun _ _ _ _ h => h) rfl rfl rfl rfl h0 ?_
      simp only [Act.put, List.setIfInBounds_toArray, List.set_cons_zero, List.set_cons_succ]
      refine tk_val 6 21 (.pointer (some ⟨bd, od + k, none⟩)) rfl (by kernel_rfl) (by kernel_rfl) (by kernel_rfl) (fun _ _ _ _ h => h) rfl rfl (fun w _ => ev_index_int (.tmp 19) (.tmp 20) bd od 19 cd k rfl rfl rfl hlt) h0 ?_
      simp only [Act.put, List.setIfInBounds_toArray, List.set_cons_zero, List.set_cons_succ]
      refine tk_val 7 22 (.int .i64 d) rfl (by kernel_rfl) (by kernel_rfl) (by kernel_rfl) (fun _ _ _ _ h => h) rfl rfl (fun ww h => ev_load_int (.tmp 21) bd (od + k) d rfl rfl (KC.out ww h)) h0 ?_
      simp only [Act.put, List.setIfInBounds_toArray, List.set_cons_zero, List.set_cons_succ]
      have HO0 := Lib.hid (show OwnD wr.drew W2.heap.size (.slice A k c) (rc (fsts s 19) (dgl m) k) from HO.out)
      have hs0 : wr.drew.heap.size = wr.heap.size := rfl
      generalize wr.drew = V0 at *
      refine lone 3 (by kernel_rfl) rfl (fun K hK => to_call 34 18 _ _ #[.agg (U s).toArray, .int .i64 k] _ rfl rfl rfl rfl enters_First (rFirst_all s k V0 HS.out (by omega)) (fun e w5 h5 => ⟨_, h5.1, ?_⟩))
      have hx5 := h0.trans (h5.2.mono h0.size)
      have HO5 := Lib.hid (HO0.out.step h5.2)
      refine hK _ _ hx5 ?_
      simp only [Act.put, List.setIfInBounds_toArray, List.set_cons_zero, List.set_cons_succ]
      clear hK h5
      refine lone 8 (by kernel_rfl) rfl (fun K hK => to_call 31 23 _ _ #[.agg (U (fst5 s k)).toArray, .int .i64 d] _ rfl rfl rfl rfl enters_Steps (rSteps_all (fst5 s k) d w5 H5.out (by omega)) (fun e w6 h6 => ⟨_, h6.1, ?_⟩))
      have hx6 := hx5.trans (h6.2.mono hx5.size)
      have HO6 := Lib.hid (HO5.out.step h6.2)
      refine hK _ _ hx6 ?_
      simp only [Act.put, List.setIfInBounds_toArray, List.set_cons_zero, List.set_cons_succ]
      clear hK h6
      generalize sn d (fst5 s k) = X at *
      generalize rc (fsts s 19) (dgl m) k = M at *
      have hxa := hx6.alloc hx6.size (.cells (U X).toArray 23)
      refine lone 9 (by kernel_rfl) rfl (fun K hK => to_bs1 24 (.tmp 23) X rfl rfl rfl rfl H6.out (hK _ _ hxa ?_))
      simp only [Act.put, List.setIfInBounds_toArray, List.set_cons_zero, List.set_cons_succ]
      have HOA := HO6.out.alloc (.cells (U X).toArray 23)
      have hone := DL.one (show RowB (w6.alloc (.cells (U X).toArray 23)) w6.heap.size 23 X from heap_alloc_new w6 _) H6.out
      refine lone 10 (by kernel_rfl) rfl (fun K hK => to_app 25 (.tmp 15) (.tmp 24) rfl rfl rfl W2.heap.size _ _ M [X] _ 1 rfl rfl HOA hone (by rw [HL.out]; simp; omega) hxa.size (fun A7 c7 w7 ho7 hg7 _ => ?_))
      have hx7 := below_ownD hxa hg7 HOA (Nat.le_refl _) hxa.size
      have HO7 := Lib.hid ho7
      refine hK _ _ hx7 ?_
      simp only [Act.put, List.setIfInBounds_toArray, List.set_cons_zero, List.set_cons_succ]
      refine tk_assign 11 6 (.tmp 25) (.slice A7 (M.length + [X].length) c7) rfl (by kernel_rfl) (by kernel_rfl) (by kernel_rfl) (fun _ _ _ _ h => h) rfl rfl rfl rfl hx7 ?_
      simp only [Act.put, List.setIfInBounds_toArray, List.set_cons_zero, List.set_cons_succ]
      refine wpAnyH_done (by kernel_rfl) (NoPanic.normal ?_) _
      have HB7 := Lib.hid hx7
      clear hx7 ho7 hg7 hK hone HOA hxa hx6 hx5 h0
      go_wp2_with fail
      go_roundw
      case rel => exact ⟨k + 1, A7, c7, by rw [HL.out]; rfl, rfl, by omega, Lib.hid (by rw [HF.out]; have h := HO7.out; rw [HL.out] at h; exact h), HB7⟩
      case measure => simp [intOf]; omega
    · obtain rfl : k = 19 := by omega
      go_wp2_with fail
      go_ret
      exact ⟨A, c, rfl, HO.out.low (by omega), HB2.out.trans (HB.out.mono (by omega))⟩

set_option maxRecDepth 100000 in
set_option maxHeartbeats 1600000 in
theorem rRecover_no (m : List UInt8) (n cap : Nat) (A : Option Addr) (w : World) (hn : n ≠ 19) (_hm : n ≤ 9223372036854775807) :
    Calls Tryd.prog 17 #[.agg (U m).toArray, .slice A n cap] w fun e w' => e = .returned (.tuple #[.agg (U z32).toArray, .int .i64 50]) ∧ Below w.heap.size w w' := by
  have hne : ((n : Int) != 19) = true := by
    have : ¬ ((n : Int) = 19) := by omega
    simpa using this
  have hbx := box2 w (U m).toArray (U (flb 32 [])).toArray 23 23 _ rfl
  have r1 : RowB ((w.alloc (.cells (U m).toArray 23)).alloc (.cells (U (flb 32 [])).toArray 23)) (w.heap.size + 1) 23 (flb 32 []) := hbx.2.1
  have r2 := r1.setRow z32
  have HB := Lib.hid hbx.2.2.1
  clear hbx hn
  go_enter Tryd.func17, Tryd.ntmps17
  go_wp2_with (refine store_B rfl (.tmp 4) (.tmp 12) rfl (w.heap.size + 1) (flb 32 []) z32 rfl rfl 23 r1 rfl (by simp [flb]) ?_)
  exact bodyPost_ret (res_two rfl _ _ _ _ _ _ rfl rfl r2 rfl) rfl ⟨rfl, below_setRow HB.out (by omega) _⟩

set_option maxRecDepth 100000 in
set_option maxHeartbeats 3200000 in
theorem rRecover_yes (m : List UInt8) (L : List (List UInt8)) (A0 : Option Addr) (cap : Nat) (w : World) (hm : m.length = 32) (hL : L.length = 19) (hl : DL w (· < w.heap.size) L A0 cap) :
    Calls Tryd.prog 17 #[.agg (U m).toArray, .slice A0 19 cap] w fun e w' => e = .returned (.tuple #[.agg (U (recF m L)).toArray, .int .i64 0]) ∧ Below w.heap.size w w' := by
  have HM := Lib.hid hm
  have HLL := Lib.hid hL
  have HLI := Lib.hid hl
  have hcap := hl.1
  have hcm : cap ≤ 9223372036854775807 := hl.2.1
  rw [hL] at hcap
  clear hm hL hl
  have hbx := box2 w (U m).toArray (U (flb 32 [])).toArray 23 23 _ rfl
  have r1 : RowB ((w.alloc (.cells (U m).toArray 23)).alloc (.cells (U (flb 32 [])).toArray 23)) w.heap.size 23 m := hbx.1
  clear hbx
  go_enter Tryd.func17, Tryd.ntmps17
  go_wp2_with (refine load_B rfl (.tmp 2) rfl w.heap.size rfl 23 m r1 HM.out ?_)
  clear r1
  generalize hW1 : (w.alloc _).alloc _ = W1
  obtain ⟨_, h1, hb1, hz1⟩ := box2 w (U m).toArray (U (flb 32 [])).toArray 23 23 W1 hW1
  clear hW1
  refine (rDigits_all m W1 HM.out).mono ?_
  rintro e W2 ⟨Ad, cd, rfl, hod, hb2⟩
  have hz2 := hb2.size
  have HR := Lib.hid (show RowB W2 (w.heap.size + 1) 23 (flb 32 []) from (hb2.block _ (by omega)).trans h1)
  have HD := Lib.hid (hod.il.keep (w' := W2) (S' := (· < W2.heap.size)) fun i hi => ⟨hi.2, rfl⟩)
  have HB2 := Lib.hid (hb1.trans (hb2.mono (by omega)))
  have HDL := Lib.hid (dgl_len m)
  have HDE := Lib.hid (dgl_le m)
  have OE := Lib.hid (ownD_empty W2)
  have hz2' : w.heap.size + 1 < W2.heap.size := by omega
  have KEEP := Lib.hid (show ∀ ww, Below W2.heap.size W2 ww → DL ww (· < w.heap.size) L A0 cap ∧ IL ww (· < W2.heap.size) (dgl m) Ad cd from fun ww h => ⟨HLI.out.keep fun i hi => ⟨hi, (h.block i (by omega)).trans (HB2.out.block i hi)⟩, HD.out.keep fun i hi => ⟨hi, h.block i hi⟩⟩)
  clear hod h1 hb1 hb2 hz1
  go_wp2_with fail
  go_loopw [7, 8] (fun v y wr => ∃ (k : Nat) (A : Option Addr) (c : Nat), v = .slice A k c ∧ y = .int .i64 k ∧ k ≤ 19 ∧ Hid (OwnD wr W2.heap.size (.slice A k c) (rc L (lft (dgl m)) k)) ∧ Hid (Below W2.heap.size W2 wr)) (fun _ y _ => 19 - (intOf y).toNat)
  case atStart => exact ⟨0, _, _, rfl, rfl, by omega, OE, Lib.hid ((Below.refl _ _).alloc (Nat.le_refl _) _)⟩
  case round =>
    obtain ⟨k, A, c, rfl, rfl, hk, HO, HB⟩ := hrel
    have hz := HB.out.size
    by_cases hlt : k < 19
    · have HLN := Lib.hid (rc_len L (lft (dgl m)) k)
      obtain ⟨x, hx⟩ : ∃ x, L[k]? = some x := ⟨_, List.getElem?_eq_getElem (by rw [HLL.out]; exact hlt)⟩
      have H5 := Lib.hid (HLI.out.2.2.2.1 x (List.mem_of_getElem? hx))
      obtain ⟨d, hd⟩ : ∃ d, (dgl m)[k]? = some d := ⟨_, List.getElem?_eq_getElem (by rw [HDL.out]; exact hlt)⟩
      have hd3 := HDE.out d (List.mem_of_getElem? hd)
      have HF := Lib.hid (rc_at L (lft (dgl m)) k (3 - d) x hx (by rw [lft, List.getElem?_map, hd]; rfl))
      have H6 := Lib.hid (sn_len (3 - d) _ H5.out)
      obtain ⟨bd, od, rfl, hSd, _⟩ := HD.out.2.2 (by rw [HDL.out]; omega)
      obtain ⟨bl, ol, rfl, hSl, _⟩ := HLI.out.2.2.2.2 (by rw [HLL.out]; omega)
      have KC := Lib.hid (show ∀ ww, Below W2.heap.size W2 ww → ww.cell? ⟨bd, od + k, none⟩ = some (.int .i64 (d : Int)) from fun ww h => by
        obtain ⟨b', o', e, _, hc⟩ := (KEEP.out ww h).2.2.2 (by rw [HDL.out]; omega)
        injection e with e
        injection e with e1 e2
        subst e1 e2
        exact hc k d hd)
      have KL := Lib.hid (show ∀ ww, Below W2.heap.size W2 ww → ww.rangeAt bl (ol + k * 32) (U x) from fun ww h => by
        obtain ⟨b', o', e, _, hc⟩ := (KEEP.out ww h).1.2.2.2.2 (by rw [HLL.out]; omega)
        injection e with e
        injection e with e1 e2
        subst e1 e2
        exact hc k x hx)
      have h3d : ((3 - d : Nat) : Int) = 3 - (d : Int) := by omega
      have H3D := Lib.hid h3d
      clear hx hd hSd hSl h3d
      go_wp2_with fail
      refine wp_region_noPanic ?_
      have h0 : Below W2.heap.size W2 wr.drew := HB.out.drew
      refine wp_region_held_drew (S := fun ww => Below W2.heap.size W2 ww) (by kernel_rfl) h0 (fun _ => ?_)
      refine tk_move 0 20 (.tmp 7) (.slice A k c) rfl (by kernel_rfl) (by kernel_rfl) (by kernel_rfl) (fun _ _ _ _ h => h) rfl rfl rfl rfl h0 ?_
      simp only [Act.put, List.setIfInBounds_toArray, List.set_cons_zero, List.set_cons_succ]
      refine tk_move 1 21 (.tmp 1) (.slice (some ⟨bl, ol, none⟩) 19 cap) rfl (by kernel_rfl) (by kernel_rfl) (by kernel_rfl) (fun _ _ _ _ h => h) rfl rfl rfl rfl h0 ?_
      simp only [Act.put, List.setIfInBounds_toArray, List.set_cons_zero, List.set_cons_succ]
      refine tk_move 2 22 (.tmp 8) (.int .i64 k) rfl (by kernel_rfl) (by kernel_rfl) (by kernel_rfl) (fun _ _ _ _ h => h) rfl rfl rfl rfl h0 ?_
      simp only [Act.put, List.setIfInBounds_toArray, List.set_cons_zero, List.set_cons_succ]
      refine tk_val 3 23 (.pointer (some ⟨bl, ol + k * 32, none⟩)) rfl (by kernel_rfl) (by kernel_rfl) (by kernel_rfl) (fun _ _ _ _ h => h) rfl rfl (fun w _ => ev_index (.tmp 21) (.tmp 22) bl ol 19 cap k rfl rfl rfl hlt) h0 ?_
      simp only [Act.put, List.setIfInBounds_toArray, List.set_cons_zero, List.set_cons_succ]
      refine tk_load 4 24 (.tmp 23) bl (ol + k * 32) x rfl (by kernel_rfl) (by kernel_rfl) (by kernel_rfl) (fun _ _ _ _ h => h) rfl rfl rfl rfl (fun ww h => KL.out ww h) H5.out h0 ?_
      simp only [Act.put, List.setIfInBounds_toArray, List.set_cons_zero, List.set_cons_succ]
      refine tk_move 5 25 (.tmp 6) (.slice (some ⟨bd, od, none⟩) 19 cd) rfl (by kernel_rfl) (by kernel_rfl) (by kernel_rfl) (fun _ _ _ _ h => h) rfl rfl rfl rfl h0 ?_
      simp only [Act.put, List.setIfInBounds_toArray, List.set_cons_zero, List.set_cons_succ]
      refine tk_move 6 26 (.tmp 8) (.int .i64 k) rfl (by kernel_rfl) (by kernel_rfl) (by kernel_rfl) (fun _ _ _ _ h => h) rfl rfl rfl rfl h0 ?_
      simp only [Act.put, List.setIfInBounds_toArray, List.set_cons_zero, List.set_cons_succ]
      refine tk_val 7 27 (.pointer (some ⟨bd, od + k, none⟩)) rfl (by kernel_rfl) (by kernel_rfl) (by kernel_rfl) (fun _ _ _ _ h => h) rfl rfl (fun w _ => ev_index_int (.tmp 25) (.tmp 26) bd od 19 cd k rfl rfl rfl hlt) h0 ?_
      simp only [Act.put, List.setIfInBounds_toArray, List.set_cons_zero, List.set_cons_succ]
      refine tk_val 8 28 (.int .i64 d) rfl (by kernel_rfl) (by kernel_rfl) (by kernel_rfl) (fun _ _ _ _ h => h) rfl rfl (fun ww h => ev_load_int (.tmp 27) bd (od + k) d rfl rfl (KC.out ww h)) h0 ?_
      simp only [Act.put, List.setIfInBounds_toArray, List.set_cons_zero, List.set_cons_succ]
      refine tk_val 9 29 (.int .i64 ((3 - d : Nat) : Int)) rfl (by kernel_rfl) (by kernel_rfl) (by kernel_rfl) (fun _ _ _ _ h => h) rfl rfl (fun w _ => by rw [H3D.out]; exact ev_sub (.const (.int .i64 3)) (.tmp 28) 3 d rfl rfl rfl (by omega) (by omega)) h0 ?_
      simp only [Act.put, List.setIfInBounds_toArray, List.set_cons_zero, List.set_cons_succ]
      have HO0 := Lib.hid (show OwnD wr.drew W2.heap.size (.slice A k c) (rc L (lft (dgl m)) k) from HO.out)
      have hs0 : wr.drew.heap.size = wr.heap.size := rfl
      generalize wr.drew = V0 at *
      refine lone 10 (by kernel_rfl) rfl (fun K hK => to_call 31 30 _ _ #[.agg (U x).toArray, .int .i64 ((3 - d : Nat) : Int)] _ rfl rfl rfl rfl enters_Steps (rSteps_all x (3 - d) V0 H5.out (by omega)) (fun e w6 h6 => ⟨_, h6.1, ?_⟩))
      have hx6 := h0.trans (h6.2.mono h0.size)
      have HO6 := Lib.hid (HO0.out.step h6.2)
      refine hK _ _ hx6 ?_
      simp only [Act.put, List.setIfInBounds_toArray, List.set_cons_zero, List.set_cons_succ]
      clear hK h6
      generalize sn (3 - d) x = X at *
      generalize rc L (lft (dgl m)) k = M at *
      have hxa := hx6.alloc hx6.size (.cells (U X).toArray 23)
      refine lone 11 (by kernel_rfl) rfl (fun K hK => to_bs1 31 (.tmp 30) X rfl rfl rfl rfl H6.out (hK _ _ hxa ?_))
      simp only [Act.put, List.setIfInBounds_toArray, List.set_cons_zero, List.set_cons_succ]
      have HOA := HO6.out.alloc (.cells (U X).toArray 23)
      have hone := DL.one (show RowB (w6.alloc (.cells (U X).toArray 23)) w6.heap.size 23 X from heap_alloc_new w6 _) H6.out
      refine lone 12 (by kernel_rfl) rfl (fun K hK => to_app 32 (.tmp 20) (.tmp 31) rfl rfl rfl W2.heap.size _ _ M [X] _ 1 rfl rfl HOA hone (by rw [HLN.out]; simp; omega) hxa.size (fun A7 c7 w7 ho7 hg7 _ => ?_))
      have hx7 := below_ownD hxa hg7 HOA (Nat.le_refl _) hxa.size
      have HO7 := Lib.hid ho7
      refine hK _ _ hx7 ?_
      simp only [Act.put, List.setIfInBounds_toArray, List.set_cons_zero, List.set_cons_succ]
      refine tk_assign 13 7 (.tmp 32) (.slice A7 (M.length + [X].length) c7) rfl (by kernel_rfl) (by kernel_rfl) (by kernel_rfl) (fun _ _ _ _ h => h) rfl rfl rfl rfl hx7 ?_
      simp only [Act.put, List.setIfInBounds_toArray, List.set_cons_zero, List.set_cons_succ]
      refine wpAnyH_done (by kernel_rfl) (NoPanic.normal ?_) _
      have HB7 := Lib.hid hx7
      clear hx7 ho7 hg7 hK hone HOA hxa hx6 h0
      go_wp2_with fail
      go_roundw
      case rel => exact ⟨k + 1, A7, c7, by rw [HLN.out]; rfl, rfl, by omega, Lib.hid (by rw [HF.out]; have h := HO7.out; rw [HLN.out] at h; exact h), HB7⟩
      case measure => simp [intOf]; omega
    · obtain rfl : k = 19 := by omega
      have hl := HO.out.dlw (rc_len L (lft (dgl m)) 19)
      have C := rKey_all (rc L (lft (dgl m)) 19) A c wr (by rw [rc_len]; omega) hl
      rw [rc_len, show pubk (rc L (lft (dgl m)) 19) = recF m L from rfl] at C
      have CC := Lib.hid C
      have HR5 := Lib.hid (HR.out.keep (HB.out.block _ (by omega)))
      clear C hl
      go_wp2_with fail
      refine CC.out.mono ?_
      rintro e w5 ⟨rfl, hb5⟩
      have r5 := HR5.out.keep (hb5.block (w.heap.size + 1) (by omega))
      have r6 := r5.setRow (recF m L)
      have HB5 := Lib.hid (HB2.out.trans ((HB.out.trans (hb5.mono hz)).mono (by omega)))
      clear hb5 CC
      go_wp2_with (refine store_B rfl (.tmp 4) (.tmp 34) rfl (w.heap.size + 1) (flb 32 []) (recF m L) rfl rfl 23 r5 (recF_len _ _) (by simp [flb]) ?_)
      exact bodyPost_ret (res_two rfl _ _ _ _ _ _ rfl rfl r6 (recF_len _ _)) rfl ⟨rfl, below_setRow HB5.out (by omega) _⟩
end Go.Proofs.YtllkkafajchioaaDoor
