/- Chains: the reference: Step, Steps, First, Key; the law's step. -/
import Derived.Test.YtllkkafajchioaaDoorXN
import Derived.Test.YtllkkafajchioaaDoorJE
namespace Go.Proofs.YtllkkafajchioaaDoor
open Go.RowKit

set_option maxRecDepth 100000 in
set_option maxHeartbeats 1600000 in
theorem rStep_all (x : List UInt8) (w : World) (hx : x.length = 32) :
    Calls Tryd.prog 41 #[.agg (U x).toArray] w fun e w' => e = .returned (.agg (U (sd x)).toArray) ∧ Below w.heap.size w w' := by
  have HX := Lib.hid hx
  clear hx
  go_enter Tryd.func41, Tryd.ntmps41
  go_wp2_with fail
  generalize hW1 : (w.alloc _).alloc _ = W1
  obtain ⟨h0, h1, hb1, hz1⟩ := box2 w (U x).toArray (U (flb 32 [])).toArray 23 23 W1 hW1
  clear hW1
  have C := rtagged_all stepT x (some ⟨w.heap.size, 0, none⟩) 32 W1 (by decide) (by rw [HX.out]; omega) (((show RowB W1 w.heap.size 23 x from h0).b32 HX.out).keep fun i hi => ⟨by omega, rfl⟩)
  rw [HX.out] at C
  refine C.mono ?_
  rintro e w2 ⟨rfl, hb2⟩
  have hd2 : RowB w2 (w.heap.size + 1) 23 (flb 32 []) := (hb2.block _ (by omega)).trans h1
  have hr2 := hd2.setRow (sd x)
  have HB2 := Lib.hid (hb1.trans (hb2.mono (by omega)))
  clear h0 h1 hb1 C hb2
  go_wp2_with (refine store_B rfl (.tmp 2) (.tmp 4) rfl (w.heap.size + 1) (flb 32 []) (sd x) rfl rfl 23 hd2 (sd_len _) (by simp [flb]) ?_)
  exact bodyPost_ret (res_B rfl _ _ _ _ _ rfl hr2 (sd_len _)) rfl ⟨rfl, below_setRow HB2.out (by omega) _⟩

set_option maxRecDepth 100000 in
set_option maxHeartbeats 1600000 in
theorem step_all (x : List UInt8) (w : World) (hx : x.length = 32) (hk : KR w Kt) :
    Calls Tryd.prog 25 #[.agg (U x).toArray] w fun e w' => e = .returned (.agg (U (sd x)).toArray) ∧ Below w.heap.size w w' := by
  have HX := Lib.hid hx
  have HK := Lib.hid hk
  have hlt0 := hk.lt
  clear hx hk
  go_enter Tryd.func25, Tryd.ntmps25
  go_wp2_with fail
  generalize hW1 : (w.alloc _).alloc _ = W1
  obtain ⟨h0, h1, hb1, hz1⟩ := box2 w (U x).toArray (U (flb 32 [])).toArray 23 23 W1 hW1
  clear hW1
  have C := tagged_all stepT x (some ⟨w.heap.size, 0, none⟩) 32 W1 (by decide) (by rw [HX.out]; omega) (((show RowB W1 w.heap.size 23 x from h0).b32 HX.out).keep fun i hi => ⟨by omega, rfl⟩) (HK.out.keep (hb1.block 0 hlt0))
  rw [HX.out] at C
  refine C.mono ?_
  rintro e w2 ⟨rfl, hb2⟩
  have hd2 : RowB w2 (w.heap.size + 1) 23 (flb 32 []) := (hb2.block _ (by omega)).trans h1
  have hr2 := hd2.setRow (sd x)
  have HB2 := Lib.hid (hb1.trans (hb2.mono (by omega)))
  clear h0 h1 hb1 C hb2
  go_wp2_with (refine store_B rfl (.tmp 2) (.tmp 4) rfl (w.heap.size + 1) (flb 32 []) (sd x) rfl rfl 23 hd2 (sd_len _) (by simp [flb]) ?_)
  exact bodyPost_ret (res_B rfl _ _ _ _ _ rfl hr2 (sd_len _)) rfl ⟨rfl, below_setRow HB2.out (by omega) _⟩

set_option maxRecDepth 100000 in
set_option maxHeartbeats 1600000 in
theorem rSteps_all (x : List UInt8) (k : Nat) (w : World) (hx : x.length = 32) (hk : k ≤ 1000) :
    Calls Tryd.prog 31 #[.agg (U x).toArray, .int .i64 k] w fun e w' => e = .returned (.agg (U (sn k x)).toArray) ∧ Below w.heap.size w w' := by
  have HX := Lib.hid hx
  clear hx
  go_enter Tryd.func31, Tryd.ntmps31
  go_wp2_with fail
  generalize hW1 : (w.alloc _).alloc _ = W1
  obtain ⟨h0, h1, hb1, hz1⟩ := box2 w (U x).toArray (U (flb 32 [])).toArray 23 23 W1 hW1
  clear hW1
  have R0 := Lib.hid (show RowB W1 w.heap.size 23 (sn 0 x) from h0)
  have R1 := Lib.hid (show RowB W1 (w.heap.size + 1) 23 (flb 32 []) from h1)
  have HB1 := Lib.hid hb1
  have hz1' : w.heap.size + 2 ≤ W1.heap.size := by omega
  clear h0 h1 hb1 hz1
  go_loopw [5] (fun y wr => ∃ j : Nat, y = .int .i64 j ∧ j ≤ k ∧ Hid (RowB wr w.heap.size 23 (sn j x)) ∧ Hid (RowB wr (w.heap.size + 1) 23 (flb 32 [])) ∧ Hid (Below w.heap.size w wr)) (fun y _ => k - (intOf y).toNat)
  case atStart => exact ⟨0, rfl, by omega, R0, R1, HB1⟩
  case round =>
    obtain ⟨j, rfl, hj, H0, H1, HB⟩ := hrel
    have HSN := Lib.hid (sn_len j x HX.out)
    have hl1 := H1.out.lt
    by_cases hjk : j < k
    · have r0 := H0.out
      go_wp2_with (refine load_B rfl (.tmp 2) rfl w.heap.size rfl 23 (sn j x) r0 HSN.out ?_)
      refine (rStep_all (sn j x) wr HSN.out).mono ?_
      rintro e w6 ⟨rfl, hb6⟩
      have r6 := r0.keep (hb6.block _ (by omega))
      have HR7 := Lib.hid (r6.setRow (sn (j + 1) x))
      have HR8 := Lib.hid (show RowB (w6.setRow w.heap.size (U (sn (j + 1) x)).toArray) (w.heap.size + 1) 23 (flb 32 []) from (setRow_other _ _ _ _ (by omega)).trans (H1.out.keep (hb6.block _ hl1)))
      have HB7 := Lib.hid (below_setRow (HB.out.trans (hb6.mono HB.out.size)) (Nat.le_refl _) (U (sn (j + 1) x)).toArray)
      clear r0 hb6
      go_wp2_with (refine store_B rfl (.tmp 2) (.tmp 12) rfl w.heap.size (sn j x) (sn (j + 1) x) rfl rfl 23 r6 (sd_len _) HSN.out ?_)
      go_roundw
      case rel => exact ⟨j + 1, rfl, by omega, HR7, HR8, HB7⟩
      case measure => simp [intOf]; omega
    · have hjk2 : j = k := by omega
      rw [hjk2] at H0 HSN ⊢
      have r0 := H0.out
      have r1 := H1.out
      have r2 := r1.setRow (sn k x)
      clear hjk2 hjk hj
      go_wp2_with (first
        | (refine load_B rfl (.tmp 2) rfl w.heap.size rfl 23 (sn k x) r0 HSN.out ?_)
        | (refine store_B rfl (.tmp 4) (.tmp 13) rfl (w.heap.size + 1) (flb 32 []) (sn k x) rfl rfl 23 r1 HSN.out (by simp [flb]) ?_))
      exact bodyPost_ret (res_B rfl _ _ _ _ _ rfl r2 HSN.out) rfl ⟨rfl, below_setRow HB.out (by omega) _⟩

theorem own_empty (w : World) : Own (w.alloc (.cells #[] 5)) w.heap.size (.slice (some ⟨w.heap.size, 0, none⟩) 0 0) [] := own_row w #[] 0 rfl (by simp [maxLen])

set_option maxRecDepth 100000 in
set_option maxHeartbeats 1600000 in
theorem rFirst_all (x : List UInt8) (i : Nat) (w : World) (hx : x.length = 32) (hi : i < 256) :
    Calls Tryd.prog 34 #[.agg (U x).toArray, .int .i64 i] w fun e w' => e = .returned (.agg (U (fst5 x i)).toArray) ∧ Below w.heap.size w w' := by
  have HX := Lib.hid hx
  clear hx
  obtain ⟨h0, h1, hb1, hz1⟩ := box2 w (U x).toArray (U (flb 32 [])).toArray 23 23 _ rfl
  have oe := own_empty ((w.alloc (.cells (U x).toArray 23)).alloc (.cells (U (flb 32 [])).toArray 23))
  have bx := ((show RowB _ w.heap.size 23 x from h0).b32 HX.out).keep (w' := ((w.alloc (.cells (U x).toArray 23)).alloc (.cells (U (flb 32 [])).toArray 23)).alloc (.cells #[] 5)) (S' := (· < w.heap.size + 2)) fun j hj => ⟨by omega, Below.heap_alloc _ _ j (by omega)⟩
  rw [hz1] at oe
  have OE := Lib.hid oe
  have BX := Lib.hid bx
  have HB2 := Lib.hid (hb1.alloc hb1.size (.cells #[] 5))
  have R1 := Lib.hid (show RowB (((w.alloc (.cells (U x).toArray 23)).alloc (.cells (U (flb 32 [])).toArray 23)).alloc (.cells #[] 5)) (w.heap.size + 1) 23 (flb 32 []) from (Below.heap_alloc _ _ _ (by omega)).trans h1)
  have HZ := Lib.hid (show (((w.alloc (.cells (U x).toArray 23)).alloc (.cells (U (flb 32 [])).toArray 23)).alloc (.cells #[] 5)).heap.size = w.heap.size + 3 by rw [World.size_alloc, hz1])
  have HZ2 := Lib.hid (Nat.le_of_eq HZ.out.symm)
  have HZ3 := Lib.hid (Nat.le_trans (show w.heap.size + 2 ≤ w.heap.size + 3 by omega) HZ2.out)
  clear h0 h1 hb1 hz1 oe bx
  have HBY := Lib.hid (fun w3 : World => byt_one w3 (UInt8.ofNat i) (i : Int) (by rw [UInt8.toNat_ofNat', Nat.mod_eq_of_lt hi]))
  go_enter Tryd.func34, Tryd.ntmps34
  go_wp2_with (first
    | (at_builtin; refine app_byt rfl (.tmp 6) (.tmp 7) rfl (w.heap.size + 2) _ _ _ _ [] x rfl (by rw [HX.out]; rfl) OE.out BX.out (by rw [HX.out]; simp) HZ3.out ?_; intro v3 w3 ho3 hg3; rw [List.nil_append] at ho3; obtain ⟨A3, c3, e3⟩ := ho3.slice; subst e3; have HB3 := Lib.hid (below_own HB2.out hg3 OE.out (by omega) (Nat.le_trans (by omega) HZ2.out)); have HR3 := Lib.hid (R1.out.grown hg3 (fun e => by have := (World.ownsRow.lt OE.out _ e).1; omega)); have hsz3 := Nat.le_trans HZ2.out hg3.size; have HO3 := Lib.hid (show Own (w3.alloc (.cells #[.int .u8 i] 5)) (w.heap.size + 2) (.slice A3 x.length c3) x from World.ownsRow.alloc ho3 _); clear ho3 hg3)
    | (at_builtin; refine app_byt rfl (.tmp 9) (.tmp 12) rfl (w.heap.size + 2) _ _ _ _ x [UInt8.ofNat i] rfl rfl HO3.out (HBY.out _) (by rw [HX.out]; simp) (by simp; omega) ?_; intro v4 w4 ho4 hg4; obtain ⟨A4, c4, e4, hy4⟩ := ho4.byt; subst e4; have HY4 := Lib.hid hy4; have HB4 := Lib.hid (below_own (HB3.out.alloc (by omega) _) hg4 HO3.out (by omega) (by simp; omega)); have HR4 := Lib.hid ((show RowB (w3.alloc (.cells #[.int .u8 i] 5)) (w.heap.size + 1) 23 (flb 32 []) from (Below.heap_alloc _ _ _ (by omega)).trans HR3.out).grown hg4 (fun e => by have := (World.ownsRow.lt HO3.out _ e).1; omega)); clear ho4 hg4 hy4))
  have C := rtagged_all chainT (x ++ [UInt8.ofNat i]) A4 c4 w4 (by decide) (by rw [List.length_append, HX.out]; simp) (HY4.out.keep fun j hj => ⟨hj.2, rfl⟩)
  rw [show (x ++ [UInt8.ofNat i]).length = x.length + 1 by simp] at C
  refine C.mono ?_
  rintro e w5 ⟨rfl, hb5⟩
  have r5 := HR4.out.keep (hb5.block _ HR4.out.lt)
  have r6 := r5.setRow (fst5 x i)
  have HB5 := Lib.hid (HB4.out.trans (hb5.mono HB4.out.size))
  clear hb5
  go_wp2_with (refine store_B rfl (.tmp 4) (.tmp 14) rfl (w.heap.size + 1) (flb 32 []) (fst5 x i) rfl rfl 23 r5 (fst5_len _ _) (by simp [flb]) ?_)
  exact bodyPost_ret (res_B rfl _ _ _ _ _ rfl r6 (fst5_len _ _)) rfl ⟨rfl, below_setRow HB5.out (by omega) _⟩
end Go.Proofs.YtllkkafajchioaaDoor
