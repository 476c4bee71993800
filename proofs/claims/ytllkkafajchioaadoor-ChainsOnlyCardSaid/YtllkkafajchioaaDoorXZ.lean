/- Chains: ChainsSpec's walk. -/
import Derived.Test.YtllkkafajchioaaDoorXY
namespace Go.Proofs.YtllkkafajchioaaDoor
open Go.RowKit

theorem recover_any (m : List UInt8) (L : List (List UInt8)) (A : Option Addr) (cap : Nat) (hm : m.length = 32) (hL : L.length ≤ 40) : ∃ (R : List UInt8) (k : Int), R.length = 32 ∧
    (∀ ww, DL ww (· < ww.heap.size) L A cap → KR ww Kt → Calls Tryd.prog 16 #[.agg (U m).toArray, .slice A L.length cap] ww fun e w' => e = .returned (.tuple #[.agg (U R).toArray, .int .i64 k]) ∧ Below ww.heap.size ww w') ∧
    (∀ ww, DL ww (· < ww.heap.size) L A cap → Calls Tryd.prog 17 #[.agg (U m).toArray, .slice A L.length cap] ww fun e w' => e = .returned (.tuple #[.agg (U R).toArray, .int .i64 k]) ∧ Below ww.heap.size ww w') := by
  by_cases h : L.length = 19
  · refine ⟨recF m L, 0, recF_len _ _, fun ww hl hk => ?_, fun ww hl => ?_⟩
    · rw [h]; exact Recover_yes m L A cap ww hm h hl hk
    · rw [h]; exact rRecover_yes m L A cap ww hm h hl
  · exact ⟨z32, 50, rfl, fun ww _ _ => Recover_no m L.length cap A ww h (by omega), fun ww _ => rRecover_no m L.length cap A ww h (by omega)⟩
theorem verify_any (p m : List UInt8) (L : List (List UInt8)) (A : Option Addr) (cap : Nat) (hp : p.length = 32) (hm : m.length = 32) (hL : L.length ≤ 40) : ∃ b : Bool, (b = true → L.length = 19 ∧ recF m L = p) ∧
    (∀ ww, DL ww (· < ww.heap.size) L A cap → KR ww Kt → Calls Tryd.prog 23 #[.agg (U p).toArray, .agg (U m).toArray, .slice A L.length cap] ww fun e w' => e = .returned (.bool b) ∧ Below ww.heap.size ww w') ∧
    (∀ ww, DL ww (· < ww.heap.size) L A cap → Calls Tryd.prog 24 #[.agg (U p).toArray, .agg (U m).toArray, .slice A L.length cap] ww fun e w' => e = .returned (.bool b) ∧ Below ww.heap.size ww w') := by
  by_cases h : L.length = 19
  · refine ⟨decide (recF m L = p), fun hb => ⟨h, of_decide_eq_true hb⟩, fun ww hl hk => ?_, fun ww hl => ?_⟩
    · rw [h]; exact Verify_yes p m L A cap ww hp hm h hl hk
    · rw [h]; exact rVerify_yes p m L A cap ww hp hm h hl
  · exact ⟨false, (fun hb => by cases hb), fun ww _ _ => Verify_no p m L.length cap A ww hm h (by omega), fun ww _ => rVerify_no p m L.length cap A ww hm h (by omega)⟩
/-- a new box with a digest -/
theorem box_new (w3 : World) (R : List UInt8) (W4 : World) (h : (w3.alloc (.cells (U (flb 32 [])).toArray 23)).setRow w3.heap.size (U R).toArray = W4) : RowB W4 w3.heap.size 23 R ∧ Below w3.heap.size w3 W4 ∧ w3.heap.size < W4.heap.size := by
  subst h
  have n3 : RowB (w3.alloc (.cells (U (flb 32 [])).toArray 23)) w3.heap.size 23 (flb 32 []) := heap_alloc_new w3 _
  exact ⟨n3.setRow R, below_setRow ((Below.refl _ _).alloc (Nat.le_refl _) _) (Nat.le_refl _) _, by rw [setRow_size, World.size_alloc]; omega⟩

set_option maxRecDepth 100000 in
set_option maxHeartbeats 3200000 in
theorem spec_all (s m q : List UInt8) (L : List (List UInt8)) (A : Option Addr) (cap : Nat) (w : World) (hs : s.length = 32) (hm : m.length = 32) (hq : q.length = 32) (hl : DL w (· < w.heap.size) L A cap) (hk : KR w Kt) :
    Calls Tryd.prog 4 #[.agg (U s).toArray, .agg (U m).toArray, .agg (U q).toArray, .slice A L.length cap] w fun e w' => e = .returned (.bool true) ∧ Below w.heap.size w w' := by
  have HS := Lib.hid hs
  have HM := Lib.hid hm
  have HQ := Lib.hid hq
  have HK := Lib.hid hk
  have HLI := Lib.hid hl
  have hlt0 := hk.lt
  have hcap := hl.1
  have hcm : cap ≤ 9223372036854775807 := hl.2.1
  clear hs hm hq hk hl
  by_cases h40 : 40 < L.length
  · clear HLI
    generalize L.length = n at *
    go_enter Tryd.func4, Tryd.ntmps4
    go_wp2_with fail
    generalize hW1 : ((w.alloc _).alloc _).alloc _ = W1
    obtain ⟨_, _, _, hb1, hz1⟩ := box3 w (U s).toArray (U m).toArray (U q).toArray 23 23 23 W1 hW1
    clear hW1
    refine (sane_all W1 (HK.out.keep (hb1.block 0 hlt0))).mono ?_
    rintro e w1 ⟨rfl, hb⟩
    have HB := Lib.hid (hb1.trans (hb.mono (by omega)))
    clear hb hb1 hz1
    go_wp2_with fail
    go_ret
    exact ⟨rfl, HB.out⟩
  obtain ⟨R, k, hR, hC, hD⟩ := recover_any m L A cap HM.out (by omega)
  obtain ⟨vb, _, hE, hF⟩ := verify_any q m L A cap HQ.out HM.out (by omega)
  have HRL := Lib.hid hR
  have HC := Lib.hid hC
  have HD := Lib.hid hD
  have HE := Lib.hid hE
  have HF := Lib.hid hF
  clear hR hC hD hE hF
  generalize hn : L.length = n at *
  have HN := Lib.hid hn
  clear hn
  go_enter Tryd.func4, Tryd.ntmps4
  go_wp2_with fail
  generalize hW1 : ((w.alloc _).alloc _).alloc _ = W1
  obtain ⟨h0, h1, h2, hb1, hz1⟩ := box3 w (U s).toArray (U m).toArray (U q).toArray 23 23 23 W1 hW1
  clear hW1
  have KE := Lib.hid (show ∀ ww, Below W1.heap.size W1 ww → RowB ww w.heap.size 23 s ∧ RowB ww (w.heap.size + 1) 23 m ∧ RowB ww (w.heap.size + 2) 23 q ∧ KR ww Kt ∧ Below w.heap.size w ww ∧ DL ww (· < ww.heap.size) L A cap from fun ww h => by
    have hw : Below w.heap.size w ww := hb1.trans (h.mono (by omega))
    exact ⟨(h.block _ (by omega)).trans h0, (h.block _ (by omega)).trans h1, (h.block _ (by omega)).trans h2, HK.out.keep (hw.block 0 hlt0), hw, HLI.out.keep fun i hi => ⟨by have := hw.size; omega, hw.block i hi⟩⟩)
  have STEP := Lib.hid (show ∀ ww w', Below W1.heap.size W1 ww → Below ww.heap.size ww w' → Below W1.heap.size W1 w' from fun ww w' h1 h2 => h1.trans (h2.mono h1.size))
  rw [show w.heap.size + 1 + 1 = w.heap.size + 2 from rfl]
  refine (sane_all W1 (HK.out.keep (hb1.block 0 hlt0))).mono ?_
  rintro e w1 ⟨rfl, hb⟩
  have rm := (KE.out _ hb).2.1
  have HB1 := Lib.hid hb
  clear hb hb1 hz1 h0 h1 h2
  go_wp2_with (refine load_B rfl (.tmp 5) rfl (w.heap.size + 1) rfl 23 m rm HM.out ?_)
  refine (HC.out w1 (KE.out _ HB1.out).2.2.2.2.2 (KE.out _ HB1.out).2.2.2.1).mono ?_
  rintro e w2 ⟨rfl, hb⟩
  have hb2 := STEP.out _ _ HB1.out hb
  have n2 : RowB (w2.alloc (.cells (U (flb 32 [])).toArray 23)) w2.heap.size 23 (flb 32 []) := heap_alloc_new w2 _
  have HG := Lib.hid (fun W3 h => show _ ∧ _ ∧ _ from box_new w2 R W3 h)
  have HB2 := Lib.hid hb2
  clear hb hb2 rm HB1
  go_wp2_with (first | (refine store_B rfl (.tmp 9) (.tmp 22) rfl w2.heap.size (flb 32 []) R rfl rfl 23 n2 HRL.out (by simp [flb]) ?_; generalize hW3 : (w2.alloc _).setRow _ _ = W3; obtain ⟨r9, hb3, hz3⟩ := HG.out W3 hW3; clear hW3 n2 HG; have HB3 := Lib.hid (STEP.out _ _ HB2.out hb3); have R9 := Lib.hid r9; have rm3 := (KE.out _ HB3.out).2.1; clear r9 hb3) | (refine load_B rfl (.tmp 5) rfl (w.heap.size + 1) rfl 23 m rm3 HM.out ?_))
  refine (HD.out W3 (KE.out _ HB3.out).2.2.2.2.2).mono ?_
  rintro e w4 ⟨rfl, hb⟩
  have hb4 := STEP.out _ _ HB3.out hb
  have n4 : RowB (w4.alloc (.cells (U (flb 32 [])).toArray 23)) w4.heap.size 23 (flb 32 []) := heap_alloc_new w4 _
  have hsz4 := hb.size
  have R94 := Lib.hid (R9.out.keep (hb.block _ hz3))
  have HG := Lib.hid (fun W5 h => show _ ∧ _ ∧ _ from box_new w4 R W5 h)
  have HB4 := Lib.hid hb4
  clear hb hb4 rm3 HB3 R9 HB2
  go_wp2_with (refine store_B rfl (.tmp 11) (.tmp 28) rfl w4.heap.size (flb 32 []) R rfl rfl 23 n4 HRL.out (by simp [flb]) ?_)
  generalize hW5 : (w4.alloc _).setRow _ _ = W5
  obtain ⟨r11, hb5, hz5⟩ := HG.out W5 hW5
  clear hW5 n4 HG
  have HB5 := Lib.hid (STEP.out _ _ HB4.out hb5)
  have r9 := R94.out.keep (hb5.block _ (by omega))
  have hz95 : w2.heap.size < W5.heap.size := by omega
  have K5 := Lib.hid (show ∀ ww, Below W5.heap.size W5 ww → RowB ww w2.heap.size 23 R ∧ RowB ww w4.heap.size 23 R ∧ RowB ww w.heap.size 23 s ∧ RowB ww (w.heap.size + 1) 23 m ∧ RowB ww (w.heap.size + 2) 23 q ∧ KR ww Kt ∧ Below w.heap.size w ww ∧ DL ww (· < ww.heap.size) L A cap from fun ww h => by
    obtain ⟨k1, k2, k3, k4, k5, k6⟩ := KE.out ww (STEP.out _ _ HB5.out h)
    exact ⟨r9.keep (h.block _ hz95), r11.keep (h.block _ hz5), k1, k2, k3, k4, k5, k6⟩)
  have STEP5 := Lib.hid (show ∀ ww w', Below W5.heap.size W5 ww → Below ww.heap.size ww w' → Below W5.heap.size W5 w' from fun ww w' h1 h2 => h1.trans (h2.mono h1.size))
  clear r11 r9 hb5 HB4 HB5 R94
  have HP := Lib.hid (pubF_len s)
  have CP := Lib.hid (show ∀ ww, Below W5.heap.size W5 ww → Calls Tryd.prog 18 #[.agg (U s).toArray] ww fun e w' => e = .returned (.agg (U (pubF s)).toArray) ∧ Below ww.heap.size ww w' from fun ww h => Public_all s ww HS.out (K5.out ww h).2.2.2.2.2.1)
  have CQ := Lib.hid (show ∀ ww, Calls Tryd.prog 19 #[.agg (U s).toArray] ww fun e w' => e = .returned (.agg (U (pubF s)).toArray) ∧ Below ww.heap.size ww w' from fun ww => rPublic_all s ww HS.out)
  generalize pubF s = P at *
  have h0 : Below W5.heap.size W5 W5.drew := (Below.refl _ _).drew
  refine wp_region_noPanic ?_
  refine wp_region_held_drew (S := fun ww => Below W5.heap.size W5 ww) (by kernel_rfl) h0 (fun _ => ?_)
  generalize W5.drew = V0 at *
  refine tk_load 0 30 (.tmp 4) w.heap.size (0) s rfl (by kernel_rfl) (by kernel_rfl) (by kernel_rfl) (fun _ _ _ _ h => h) rfl rfl rfl rfl (fun ww h => (K5.out ww h).2.2.1.range) HS.out h0 ?_
  simp only [Act.put, List.setIfInBounds_toArray, List.set_cons_zero, List.set_cons_succ]
  refine tk_load 2 32 (.tmp 4) w.heap.size (0) s rfl (by kernel_rfl) (by kernel_rfl) (by kernel_rfl) (fun _ _ _ _ h => h) rfl rfl rfl rfl (fun ww h => (K5.out ww h).2.2.1.range) HS.out h0 ?_
  simp only [Act.put, List.setIfInBounds_toArray, List.set_cons_zero, List.set_cons_succ]
  refine lone 1 (by kernel_rfl) rfl (fun K hK => to_call 18 31 _ _ #[.agg (U s).toArray] _ rfl rfl rfl rfl enters_Public (CP.out _ h0) (fun e w5 hq => ?_))
  refine ⟨_, hq.1, ?_⟩
  have h5 := STEP5.out _ _ h0 hq.2
  refine hK _ _ h5 ?_
  simp only [Act.put, List.setIfInBounds_toArray, List.set_cons_zero, List.set_cons_succ]
  clear hK hq
  refine lone 3 (by kernel_rfl) rfl (fun K hK => to_call 19 33 _ _ #[.agg (U s).toArray] _ rfl rfl rfl rfl enters_rPublic (CQ.out _) (fun e w6 hq => ?_))
  refine ⟨_, hq.1, ?_⟩
  have h6 := STEP5.out _ _ h5 hq.2
  refine hK _ _ h6 ?_
  simp only [Act.put, List.setIfInBounds_toArray, List.set_cons_zero, List.set_cons_succ]
  clear hK hq
  refine tk_val 4 34 (.bool true) rfl (by kernel_rfl) (by kernel_rfl) (by kernel_rfl) (fun _ _ _ _ h => h) rfl rfl (fun w _ => ev_eqt_dig (.tmp 31) (.tmp 33) P HP.out rfl rfl rfl) h6 ?_
  simp only [Act.put, List.setIfInBounds_toArray, List.set_cons_zero, List.set_cons_succ]
  refine tk_move 5 35 (.tmp 34) (.bool true) rfl (by kernel_rfl) (by kernel_rfl) (by kernel_rfl) (fun _ _ _ _ h => h) rfl rfl rfl rfl h6 ?_
  simp only [Act.put, List.setIfInBounds_toArray, List.set_cons_zero, List.set_cons_succ]
  refine tkw_load 6 36 (.tmp 4) w.heap.size (0) s rfl (by kernel_rfl) (by kernel_rfl) (by kernel_rfl) (fun _ _ _ _ h => h) (by kernel_rfl) rfl rfl rfl (fun ww h => (K5.out ww h).2.2.1.range) HS.out h6 ?_
  simp only [Act.put, List.setIfInBounds_toArray, List.set_cons_zero, List.set_cons_succ]
  refine tkw_load 7 37 (.tmp 5) (w.heap.size + 1) (0) m rfl (by kernel_rfl) (by kernel_rfl) (by kernel_rfl) (fun _ _ _ _ h => h) (by kernel_rfl) rfl rfl rfl (fun ww h => (K5.out ww h).2.2.2.1.range) HM.out h6 ?_
  simp only [Act.put, List.setIfInBounds_toArray, List.set_cons_zero, List.set_cons_succ]
  refine tkw_load 9 39 (.tmp 4) w.heap.size (0) s rfl (by kernel_rfl) (by kernel_rfl) (by kernel_rfl) (fun _ _ _ _ h => h) (by kernel_rfl) rfl rfl rfl (fun ww h => (K5.out ww h).2.2.1.range) HS.out h6 ?_
  simp only [Act.put, List.setIfInBounds_toArray, List.set_cons_zero, List.set_cons_succ]
  refine tkw_load 10 40 (.tmp 5) (w.heap.size + 1) (0) m rfl (by kernel_rfl) (by kernel_rfl) (by kernel_rfl) (fun _ _ _ _ h => h) (by kernel_rfl) rfl rfl rfl (fun ww h => (K5.out ww h).2.2.2.1.range) HM.out h6 ?_
  simp only [Act.put, List.setIfInBounds_toArray, List.set_cons_zero, List.set_cons_succ]
  refine lone 8 (by kernel_rfl) rfl (fun K hK => ?_)
  rw [if_pos (show Region.wanted _ _ = true from rfl)]
  refine wp_call 21 38 _ _ #[.agg (U s).toArray, .agg (U m).toArray] _ rfl rfl rfl enters_Sign (sign_all s m w6 HS.out HM.out (K5.out _ h6).2.2.2.2.2.1) (fun e w7 hq => ?_)
  obtain ⟨v7, h71, h72, h73⟩ := hq
  obtain ⟨A7, c7, rfl⟩ := h72.slice
  rw [sgn_len] at h71 h72
  have HD7 := Lib.hid (h72.dlw (sgn_len s m))
  refine ⟨_, h71, ?_⟩
  have h7 := STEP5.out _ _ h6 h73
  refine hK _ _ h7 ?_
  simp only [Act.put, List.setIfInBounds_toArray, List.set_cons_zero, List.set_cons_succ]
  clear hK
  refine lone 11 (by kernel_rfl) rfl (fun K hK => ?_)
  rw [if_pos (show Region.wanted _ _ = true from rfl)]
  refine wp_call 22 41 _ _ #[.agg (U s).toArray, .agg (U m).toArray] _ rfl rfl rfl enters_rSign (rSign_all s m w7 HS.out HM.out) (fun e w8 hq => ?_)
  obtain ⟨A8, c8, h81, h82, h83⟩ := hq
  have HD8 := Lib.hid (h82.dlw (sgn_len s m))
  have HD78 := Lib.hid (HD7.out.keep (w' := w8) (S' := (· < w8.heap.size)) fun i hi => ⟨Nat.lt_of_lt_of_le hi h83.size, h83.block i hi⟩)
  refine ⟨_, h81, ?_⟩
  have h8 := STEP5.out _ _ h7 h83
  refine hK _ _ h8 ?_
  simp only [Act.put, List.setIfInBounds_toArray, List.set_cons_zero, List.set_cons_succ]
  clear hK
  have C := rSame_all (sgn s m) (sgn s m) A7 c7 A8 c8 w8 HD78.out HD8.out (by rw [sgn_len]; omega) (by rw [sgn_len]; omega)
  rw [sgn_len, decide_eq_true rfl] at C
  refine lone 12 (by kernel_rfl) rfl (fun K hK => ?_)
  rw [if_pos (show Region.wanted _ _ = true from rfl)]
  refine wp_call 20 42 _ _ #[.slice A7 19 c7, .slice A8 19 c8] _ rfl rfl rfl enters_Same (C) (fun e w9 hq => ?_)
  refine ⟨_, hq.1, ?_⟩
  have h9 := STEP5.out _ _ h8 hq.2
  refine hK _ _ h9 ?_
  simp only [Act.put, List.setIfInBounds_toArray, List.set_cons_zero, List.set_cons_succ]
  clear hK hq
  refine tk_val 13 43 (.bool true) rfl (by kernel_rfl) (by kernel_rfl) (by kernel_rfl) (fun _ _ _ _ h => h) rfl rfl (fun w _ => ev_pick_t (.tmp 35) (.tmp 42) (.const (.bool false)) _ rfl rfl rfl) h9 ?_
  simp only [Act.put, List.setIfInBounds_toArray, List.set_cons_zero, List.set_cons_succ]
  refine tk_move 14 44 (.tmp 43) (.bool true) rfl (by kernel_rfl) (by kernel_rfl) (by kernel_rfl) (fun _ _ _ _ h => h) rfl rfl rfl rfl h9 ?_
  simp only [Act.put, List.setIfInBounds_toArray, List.set_cons_zero, List.set_cons_succ]
  refine tkw_load 15 45 (.tmp 9) w2.heap.size (0) R rfl (by kernel_rfl) (by kernel_rfl) (by kernel_rfl) (fun _ _ _ _ h => h) (by kernel_rfl) rfl rfl rfl (fun ww h => (K5.out ww h).1.range) HRL.out h9 ?_
  simp only [Act.put, List.setIfInBounds_toArray, List.set_cons_zero, List.set_cons_succ]
  refine tkw_load 16 46 (.tmp 11) w4.heap.size (0) R rfl (by kernel_rfl) (by kernel_rfl) (by kernel_rfl) (fun _ _ _ _ h => h) (by kernel_rfl) rfl rfl rfl (fun ww h => (K5.out ww h).2.1.range) HRL.out h9 ?_
  simp only [Act.put, List.setIfInBounds_toArray, List.set_cons_zero, List.set_cons_succ]
  refine tkw_val 17 47 (.bool true) rfl (by kernel_rfl) (by kernel_rfl) (by kernel_rfl) (fun _ _ _ _ h => h) (by kernel_rfl) rfl (fun w _ => ev_eqt_dig (.tmp 45) (.tmp 46) R HRL.out rfl rfl rfl) h9 ?_
  simp only [Act.put, List.setIfInBounds_toArray, List.set_cons_zero, List.set_cons_succ]
  refine tk_val 18 48 (.bool true) rfl (by kernel_rfl) (by kernel_rfl) (by kernel_rfl) (fun _ _ _ _ h => h) rfl rfl (fun w _ => ev_pick_t (.tmp 44) (.tmp 47) (.const (.bool false)) _ rfl rfl rfl) h9 ?_
  simp only [Act.put, List.setIfInBounds_toArray, List.set_cons_zero, List.set_cons_succ]
  refine tk_move 19 49 (.tmp 48) (.bool true) rfl (by kernel_rfl) (by kernel_rfl) (by kernel_rfl) (fun _ _ _ _ h => h) rfl rfl rfl rfl h9 ?_
  simp only [Act.put, List.setIfInBounds_toArray, List.set_cons_zero, List.set_cons_succ]
  refine tkw_val 20 50 (.int .i64 k) rfl (by kernel_rfl) (by kernel_rfl) (by kernel_rfl) (fun _ _ _ _ h => h) (by kernel_rfl) rfl (fun w _ => ev_move (.tmp 10) (.int .i64 k) rfl rfl) h9 ?_
  simp only [Act.put, List.setIfInBounds_toArray, List.set_cons_zero, List.set_cons_succ]
  refine tkw_val 21 51 (.int .i64 k) rfl (by kernel_rfl) (by kernel_rfl) (by kernel_rfl) (fun _ _ _ _ h => h) (by kernel_rfl) rfl (fun w _ => ev_move (.tmp 12) (.int .i64 k) rfl rfl) h9 ?_
  simp only [Act.put, List.setIfInBounds_toArray, List.set_cons_zero, List.set_cons_succ]
  refine tkw_val 22 52 (.bool true) rfl (by kernel_rfl) (by kernel_rfl) (by kernel_rfl) (fun _ _ _ _ h => h) (by kernel_rfl) rfl (fun w _ => ev_eqt_int 32 (.tmp 50) (.tmp 51) k rfl Tryd.underlying32 rfl rfl) h9 ?_
  simp only [Act.put, List.setIfInBounds_toArray, List.set_cons_zero, List.set_cons_succ]
  refine tk_val 23 53 (.bool true) rfl (by kernel_rfl) (by kernel_rfl) (by kernel_rfl) (fun _ _ _ _ h => h) rfl rfl (fun w _ => ev_pick_t (.tmp 49) (.tmp 52) (.const (.bool false)) _ rfl rfl rfl) h9 ?_
  simp only [Act.put, List.setIfInBounds_toArray, List.set_cons_zero, List.set_cons_succ]
  refine tk_move 24 54 (.tmp 53) (.bool true) rfl (by kernel_rfl) (by kernel_rfl) (by kernel_rfl) (fun _ _ _ _ h => h) rfl rfl rfl rfl h9 ?_
  simp only [Act.put, List.setIfInBounds_toArray, List.set_cons_zero, List.set_cons_succ]
  refine tkw_load 25 55 (.tmp 6) (w.heap.size + 2) (0) q rfl (by kernel_rfl) (by kernel_rfl) (by kernel_rfl) (fun _ _ _ _ h => h) (by kernel_rfl) rfl rfl rfl (fun ww h => (K5.out ww h).2.2.2.2.1.range) HQ.out h9 ?_
  simp only [Act.put, List.setIfInBounds_toArray, List.set_cons_zero, List.set_cons_succ]
  refine tkw_load 26 56 (.tmp 5) (w.heap.size + 1) (0) m rfl (by kernel_rfl) (by kernel_rfl) (by kernel_rfl) (fun _ _ _ _ h => h) (by kernel_rfl) rfl rfl rfl (fun ww h => (K5.out ww h).2.2.2.1.range) HM.out h9 ?_
  simp only [Act.put, List.setIfInBounds_toArray, List.set_cons_zero, List.set_cons_succ]
  refine tkw_val 27 57 (.slice A n cap) rfl (by kernel_rfl) (by kernel_rfl) (by kernel_rfl) (fun _ _ _ _ h => h) (by kernel_rfl) rfl (fun w _ => ev_move (.tmp 3) (.slice A n cap) rfl rfl) h9 ?_
  simp only [Act.put, List.setIfInBounds_toArray, List.set_cons_zero, List.set_cons_succ]
  refine tkw_load 29 59 (.tmp 6) (w.heap.size + 2) (0) q rfl (by kernel_rfl) (by kernel_rfl) (by kernel_rfl) (fun _ _ _ _ h => h) (by kernel_rfl) rfl rfl rfl (fun ww h => (K5.out ww h).2.2.2.2.1.range) HQ.out h9 ?_
  simp only [Act.put, List.setIfInBounds_toArray, List.set_cons_zero, List.set_cons_succ]
  refine tkw_load 30 60 (.tmp 5) (w.heap.size + 1) (0) m rfl (by kernel_rfl) (by kernel_rfl) (by kernel_rfl) (fun _ _ _ _ h => h) (by kernel_rfl) rfl rfl rfl (fun ww h => (K5.out ww h).2.2.2.1.range) HM.out h9 ?_
  simp only [Act.put, List.setIfInBounds_toArray, List.set_cons_zero, List.set_cons_succ]
  refine tkw_val 31 61 (.slice A n cap) rfl (by kernel_rfl) (by kernel_rfl) (by kernel_rfl) (fun _ _ _ _ h => h) (by kernel_rfl) rfl (fun w _ => ev_move (.tmp 3) (.slice A n cap) rfl rfl) h9 ?_
  simp only [Act.put, List.setIfInBounds_toArray, List.set_cons_zero, List.set_cons_succ]
  refine lone 28 (by kernel_rfl) rfl (fun K hK => ?_)
  rw [if_pos (show Region.wanted _ _ = true from rfl)]
  refine wp_call 23 58 _ _ #[.agg (U q).toArray, .agg (U m).toArray, .slice A n cap] _ rfl rfl rfl enters_Verify (HE.out _ (K5.out _ h9).2.2.2.2.2.2.2 (K5.out _ h9).2.2.2.2.2.1) (fun e w10 hq => ?_)
  refine ⟨_, hq.1, ?_⟩
  have h10 := STEP5.out _ _ h9 hq.2
  refine hK _ _ h10 ?_
  simp only [Act.put, List.setIfInBounds_toArray, List.set_cons_zero, List.set_cons_succ]
  clear hK hq
  refine lone 32 (by kernel_rfl) rfl (fun K hK => ?_)
  rw [if_pos (show Region.wanted _ _ = true from rfl)]
  refine wp_call 24 62 _ _ #[.agg (U q).toArray, .agg (U m).toArray, .slice A n cap] _ rfl rfl rfl enters_rVerify (HF.out _ (K5.out _ h10).2.2.2.2.2.2.2) (fun e w11 hq => ?_)
  refine ⟨_, hq.1, ?_⟩
  have h11 := STEP5.out _ _ h10 hq.2
  refine hK _ _ h11 ?_
  simp only [Act.put, List.setIfInBounds_toArray, List.set_cons_zero, List.set_cons_succ]
  clear hK hq
  refine tkw_val 33 63 (.bool true) rfl (by kernel_rfl) (by kernel_rfl) (by kernel_rfl) (fun _ _ _ _ h => h) (by kernel_rfl) rfl (fun w _ => ev_eqt_bool (.tmp 58) (.tmp 62) vb rfl rfl rfl) h11 ?_
  simp only [Act.put, List.setIfInBounds_toArray, List.set_cons_zero, List.set_cons_succ]
  refine tk_val 34 64 (.bool true) rfl (by kernel_rfl) (by kernel_rfl) (by kernel_rfl) (fun _ _ _ _ h => h) rfl rfl (fun w _ => ev_pick_t (.tmp 54) (.tmp 63) (.const (.bool false)) _ rfl rfl rfl) h11 ?_
  simp only [Act.put, List.setIfInBounds_toArray, List.set_cons_zero, List.set_cons_succ]
  refine tk_assign 35 8 (.tmp 64) (.bool true) rfl (by kernel_rfl) (by kernel_rfl) (by kernel_rfl) (fun _ _ _ _ h => h) rfl rfl rfl rfl h11 ?_
  simp only [Act.put, List.setIfInBounds_toArray, List.set_cons_zero, List.set_cons_succ]
  refine wpAnyH_done (by kernel_rfl) (NoPanic.normal ?_) _
  have HX := Lib.hid h11
  clear h11 h10 h9 h8 h7 h6 h5 h0 h72 h73 h82 h83 C
  go_wp2_with fail
  go_ret
  exact ⟨rfl, (K5.out _ HX.out).2.2.2.2.2.2.1⟩
end Go.Proofs.YtllkkafajchioaaDoor
