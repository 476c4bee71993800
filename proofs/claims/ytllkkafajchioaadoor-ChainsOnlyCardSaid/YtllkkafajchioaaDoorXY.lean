/- Chains: ChainsSigned's walk. -/
import Derived.Test.YtllkkafajchioaaDoorXX
namespace Go.Proofs.YtllkkafajchioaaDoor
open Go.RowKit

set_option maxRecDepth 100000 in
set_option maxHeartbeats 3200000 in
theorem signed_all (s m q : List UInt8) (w : World) (hs : s.length = 32) (hm : m.length = 32) (hq : q.length = 32) (hk : KR w Kt) :
    Calls Tryd.prog 5 #[.agg (U s).toArray, .agg (U m).toArray, .agg (U q).toArray] w fun e w' => e = .returned (.bool true) ∧ Below w.heap.size w w' := by
  have HS := Lib.hid hs
  have HM := Lib.hid hm
  have HQ := Lib.hid hq
  have HK := Lib.hid hk
  have hlt0 := hk.lt
  clear hs hm hq hk
  go_enter Tryd.func5, Tryd.ntmps5
  go_wp2_with fail
  generalize hW1 : ((w.alloc _).alloc _).alloc _ = W1
  obtain ⟨h0, h1, h2, hb1, hz1⟩ := box3 w (U s).toArray (U m).toArray (U q).toArray 23 23 23 W1 hW1
  clear hW1
  have KE := Lib.hid (show ∀ ww, Below W1.heap.size W1 ww → RowB ww w.heap.size 23 s ∧ RowB ww (w.heap.size + 1) 23 m ∧ RowB ww (w.heap.size + 2) 23 q ∧ KR ww Kt ∧ Below w.heap.size w ww from fun ww h =>
    ⟨(h.block _ (by omega)).trans h0, (h.block _ (by omega)).trans h1, (h.block _ (by omega)).trans h2, HK.out.keep ((h.block 0 (by omega)).trans (hb1.block 0 hlt0)), hb1.trans (h.mono (by omega))⟩)
  have STEP := Lib.hid (show ∀ ww w', Below W1.heap.size W1 ww → Below ww.heap.size ww w' → Below W1.heap.size W1 w' from fun ww w' h1 h2 => h1.trans (h2.mono h1.size))
  rw [show w.heap.size + 1 + 1 = w.heap.size + 2 from rfl]
  refine (sane_all W1 (HK.out.keep (hb1.block 0 hlt0))).mono ?_
  rintro e w1 ⟨rfl, hb⟩
  have rs := (KE.out _ hb).1
  have rm := (KE.out _ hb).2.1
  have HB1 := Lib.hid hb
  clear hb hb1 hz1 h0 h1 h2
  go_wp2_with (first | (refine load_B rfl (.tmp 3) rfl w.heap.size rfl 23 s rs HS.out ?_) | (refine load_B rfl (.tmp 4) rfl (w.heap.size + 1) rfl 23 m rm HM.out ?_))
  refine (sign_all s m w1 HS.out HM.out (KE.out _ HB1.out).2.2.2.1).mono ?_
  rintro e w2 ⟨v2, rfl, ho2, hb⟩
  obtain ⟨A, c, rfl⟩ := ho2.slice
  rw [sgn_len] at ho2 ⊢
  have hb2 := STEP.out _ _ HB1.out hb
  have hl2 := ho2.dlw (sgn_len s m)
  have rm2 := (KE.out _ hb2).2.1
  have C := Recover_yes m (sgn s m) A c w2 HM.out (sgn_len s m) hl2 (KE.out _ hb2).2.2.2.1
  rw [recF_sgn] at C
  have CC := Lib.hid C
  have HB2 := Lib.hid hb2
  have HL2 := Lib.hid hl2
  clear hb hb2 rs rm HB1 ho2 hl2 C
  go_wp2_with (refine load_B rfl (.tmp 4) rfl (w.heap.size + 1) rfl 23 m rm2 HM.out ?_)
  refine CC.out.mono ?_
  rintro e w3 ⟨rfl, hb⟩
  have HP := Lib.hid (pubF_len s)
  have hb3 := STEP.out _ _ HB2.out hb
  have n3 : RowB (w3.alloc (.cells (U (flb 32 [])).toArray 23)) w3.heap.size 23 (flb 32 []) := heap_alloc_new w3 _
  have hbn : Below w3.heap.size w3 ((w3.alloc (.cells (U (flb 32 [])).toArray 23)).setRow w3.heap.size (U (pubF s)).toArray) := below_setRow ((Below.refl _ _).alloc (Nat.le_refl _) _) (Nat.le_refl _) _
  have HG := Lib.hid (show ∀ W4, (w3.alloc (.cells (U (flb 32 [])).toArray 23)).setRow w3.heap.size (U (pubF s)).toArray = W4 → RowB W4 w3.heap.size 23 (pubF s) ∧ Below W1.heap.size W1 W4 ∧ DL W4 (· < W4.heap.size) (sgn s m) A c ∧ w3.heap.size < W4.heap.size from fun W4 h => by
    subst h
    refine ⟨n3.setRow _, STEP.out _ _ hb3 hbn, HL2.out.keep fun i hi => ⟨?_, ?_⟩, ?_⟩
    · have := hb.size; have := hbn.size; omega
    · exact (hbn.block i (by have := hb.size; omega)).trans (hb.block i hi)
    · rw [setRow_size, World.size_alloc]; omega)
  clear hb hb3 rm2 HB2 CC hbn
  go_wp2_with (refine store_B rfl (.tmp 8) (.tmp 19) rfl w3.heap.size (flb 32 []) (pubF s) rfl rfl 23 n3 HP.out (by simp [flb]) ?_)
  generalize hW4 : (w3.alloc _).setRow _ _ = W4
  obtain ⟨rp4, hb4, hl4, hz4⟩ := HG.out W4 hW4
  clear hW4 n3 HG
  have K4 := Lib.hid (show ∀ ww, Below W4.heap.size W4 ww → RowB ww w3.heap.size 23 (pubF s) ∧ DL ww (· < ww.heap.size) (sgn s m) A c ∧ RowB ww w.heap.size 23 s ∧ RowB ww (w.heap.size + 1) 23 m ∧ RowB ww (w.heap.size + 2) 23 q ∧ KR ww Kt ∧ Below w.heap.size w ww from fun ww h => by
    obtain ⟨k1, k2, k3, k4, k5⟩ := KE.out ww (STEP.out _ _ hb4 h)
    exact ⟨rp4.keep (h.block _ hz4), hl4.keep fun i hi => ⟨by have := h.size; omega, h.block i hi⟩, k1, k2, k3, k4, k5⟩)
  have STEP4 := Lib.hid (show ∀ ww w', Below W4.heap.size W4 ww → Below ww.heap.size ww w' → Below W4.heap.size W4 w' from fun ww w' h1 h2 => h1.trans (h2.mono h1.size))
  have hvf := decide_eq_true (recF_sgn s m)
  have hve : decide (recF m (sgn s m) = q) = decide (q = pubF s) := by rw [recF_sgn]; simp only [eq_comm]
  have CV1 := Lib.hid (show ∀ ww, Below W4.heap.size W4 ww → Calls Tryd.prog 23 #[.agg (U (pubF s)).toArray, .agg (U m).toArray, .slice A 19 c] ww fun e w' => e = .returned (.bool true) ∧ Below ww.heap.size ww w' from fun ww h => by
    have := Verify_yes (pubF s) m (sgn s m) A c ww HP.out HM.out (sgn_len s m) (K4.out ww h).2.1 (K4.out ww h).2.2.2.2.2.1
    rwa [hvf] at this)
  have CV2 := Lib.hid (show ∀ ww, Below W4.heap.size W4 ww → Calls Tryd.prog 23 #[.agg (U q).toArray, .agg (U m).toArray, .slice A 19 c] ww fun e w' => e = .returned (.bool (decide (q = pubF s))) ∧ Below ww.heap.size ww w' from fun ww h => by
    have := Verify_yes q m (sgn s m) A c ww HQ.out HM.out (sgn_len s m) (K4.out ww h).2.1 (K4.out ww h).2.2.2.2.2.1
    rwa [hve] at this)
  have CP := Lib.hid (show ∀ ww, Below W4.heap.size W4 ww → Calls Tryd.prog 18 #[.agg (U s).toArray] ww fun e w' => e = .returned (.agg (U (pubF s)).toArray) ∧ Below ww.heap.size ww w' from fun ww h => Public_all s ww HS.out (K4.out ww h).2.2.2.2.2.1)
  clear hvf hve rp4 hb4 hl4 HL2
  generalize pubF s = P at *
  generalize hdq : decide (q = P) = bq at *
  have HDQ := Lib.hid hdq
  clear hdq
  have h0 : Below W4.heap.size W4 W4.drew := (Below.refl _ _).drew
  refine wp_region_noPanic ?_
  refine wp_region_held_drew (S := fun ww => Below W4.heap.size W4 ww) (by kernel_rfl) h0 (fun _ => ?_)
  generalize W4.drew = V0 at *
  refine tk_move 0 21 (.tmp 9) (.int .i64 0) rfl (by kernel_rfl) (by kernel_rfl) (by kernel_rfl) (fun _ _ _ _ h => h) rfl rfl rfl rfl h0 ?_
  simp only [Act.put, List.setIfInBounds_toArray, List.set_cons_zero, List.set_cons_succ]
  refine tk_val 1 22 (.bool true) rfl (by kernel_rfl) (by kernel_rfl) (by kernel_rfl) (fun _ _ _ _ h => h) rfl rfl (fun w _ => ev_eqt_int 32 (.tmp 21) (.const (.int .i64 0)) 0 rfl Tryd.underlying32 rfl rfl) h0 ?_
  simp only [Act.put, List.setIfInBounds_toArray, List.set_cons_zero, List.set_cons_succ]
  refine tk_move 2 23 (.tmp 22) (.bool true) rfl (by kernel_rfl) (by kernel_rfl) (by kernel_rfl) (fun _ _ _ _ h => h) rfl rfl rfl rfl h0 ?_
  simp only [Act.put, List.setIfInBounds_toArray, List.set_cons_zero, List.set_cons_succ]
  refine tkw_load 3 24 (.tmp 8) w3.heap.size (0) P rfl (by kernel_rfl) (by kernel_rfl) (by kernel_rfl) (fun _ _ _ _ h => h) (by kernel_rfl) rfl rfl rfl (fun ww h => (K4.out ww h).1.range) HP.out h0 ?_
  simp only [Act.put, List.setIfInBounds_toArray, List.set_cons_zero, List.set_cons_succ]
  refine tkw_load 4 25 (.tmp 3) w.heap.size (0) s rfl (by kernel_rfl) (by kernel_rfl) (by kernel_rfl) (fun _ _ _ _ h => h) (by kernel_rfl) rfl rfl rfl (fun ww h => (K4.out ww h).2.2.1.range) HS.out h0 ?_
  simp only [Act.put, List.setIfInBounds_toArray, List.set_cons_zero, List.set_cons_succ]
  refine lone 5 (by kernel_rfl) rfl (fun K hK => ?_)
  rw [if_pos (show Region.wanted _ _ = true from rfl)]
  refine wp_call 18 26 _ _ #[.agg (U s).toArray] _ rfl rfl rfl enters_Public (CP.out _ h0) (fun e w5 hq => ?_)
  refine ⟨_, hq.1, ?_⟩
  have h5 := STEP4.out _ _ h0 hq.2
  refine hK _ _ h5 ?_
  simp only [Act.put, List.setIfInBounds_toArray, List.set_cons_zero, List.set_cons_succ]
  clear hK hq
  refine tkw_val 6 27 (.bool true) rfl (by kernel_rfl) (by kernel_rfl) (by kernel_rfl) (fun _ _ _ _ h => h) (by kernel_rfl) rfl (fun w _ => ev_eqt_dig (.tmp 24) (.tmp 26) P HP.out rfl rfl rfl) h5 ?_
  simp only [Act.put, List.setIfInBounds_toArray, List.set_cons_zero, List.set_cons_succ]
  refine tk_val 7 28 (.bool true) rfl (by kernel_rfl) (by kernel_rfl) (by kernel_rfl) (fun _ _ _ _ h => h) rfl rfl (fun w _ => ev_pick_t (.tmp 23) (.tmp 27) (.const (.bool false)) _ rfl rfl rfl) h5 ?_
  simp only [Act.put, List.setIfInBounds_toArray, List.set_cons_zero, List.set_cons_succ]
  refine tk_move 8 29 (.tmp 28) (.bool true) rfl (by kernel_rfl) (by kernel_rfl) (by kernel_rfl) (fun _ _ _ _ h => h) rfl rfl rfl rfl h5 ?_
  simp only [Act.put, List.setIfInBounds_toArray, List.set_cons_zero, List.set_cons_succ]
  refine tkw_load 9 30 (.tmp 8) w3.heap.size (0) P rfl (by kernel_rfl) (by kernel_rfl) (by kernel_rfl) (fun _ _ _ _ h => h) (by kernel_rfl) rfl rfl rfl (fun ww h => (K4.out ww h).1.range) HP.out h5 ?_
  simp only [Act.put, List.setIfInBounds_toArray, List.set_cons_zero, List.set_cons_succ]
  refine tkw_load 10 31 (.tmp 4) (w.heap.size + 1) (0) m rfl (by kernel_rfl) (by kernel_rfl) (by kernel_rfl) (fun _ _ _ _ h => h) (by kernel_rfl) rfl rfl rfl (fun ww h => (K4.out ww h).2.2.2.1.range) HM.out h5 ?_
  simp only [Act.put, List.setIfInBounds_toArray, List.set_cons_zero, List.set_cons_succ]
  refine tkw_val 11 32 (.slice A 19 c) rfl (by kernel_rfl) (by kernel_rfl) (by kernel_rfl) (fun _ _ _ _ h => h) (by kernel_rfl) rfl (fun w _ => ev_move (.tmp 7) (.slice A 19 c) rfl rfl) h5 ?_
  simp only [Act.put, List.setIfInBounds_toArray, List.set_cons_zero, List.set_cons_succ]
  refine lone 12 (by kernel_rfl) rfl (fun K hK => ?_)
  rw [if_pos (show Region.wanted _ _ = true from rfl)]
  refine wp_call 23 33 _ _ #[.agg (U P).toArray, .agg (U m).toArray, .slice A 19 c] _ rfl rfl rfl enters_Verify (CV1.out _ h5) (fun e w6 hq => ?_)
  refine ⟨_, hq.1, ?_⟩
  have h6 := STEP4.out _ _ h5 hq.2
  refine hK _ _ h6 ?_
  simp only [Act.put, List.setIfInBounds_toArray, List.set_cons_zero, List.set_cons_succ]
  clear hK hq
  refine tk_val 13 34 (.bool true) rfl (by kernel_rfl) (by kernel_rfl) (by kernel_rfl) (fun _ _ _ _ h => h) rfl rfl (fun w _ => ev_pick_t (.tmp 29) (.tmp 33) (.const (.bool false)) _ rfl rfl rfl) h6 ?_
  simp only [Act.put, List.setIfInBounds_toArray, List.set_cons_zero, List.set_cons_succ]
  refine tk_move 14 35 (.tmp 34) (.bool true) rfl (by kernel_rfl) (by kernel_rfl) (by kernel_rfl) (fun _ _ _ _ h => h) rfl rfl rfl rfl h6 ?_
  simp only [Act.put, List.setIfInBounds_toArray, List.set_cons_zero, List.set_cons_succ]
  refine tkw_load 15 36 (.tmp 5) (w.heap.size + 2) (0) q rfl (by kernel_rfl) (by kernel_rfl) (by kernel_rfl) (fun _ _ _ _ h => h) (by kernel_rfl) rfl rfl rfl (fun ww h => (K4.out ww h).2.2.2.2.1.range) HQ.out h6 ?_
  simp only [Act.put, List.setIfInBounds_toArray, List.set_cons_zero, List.set_cons_succ]
  refine tkw_load 16 37 (.tmp 4) (w.heap.size + 1) (0) m rfl (by kernel_rfl) (by kernel_rfl) (by kernel_rfl) (fun _ _ _ _ h => h) (by kernel_rfl) rfl rfl rfl (fun ww h => (K4.out ww h).2.2.2.1.range) HM.out h6 ?_
  simp only [Act.put, List.setIfInBounds_toArray, List.set_cons_zero, List.set_cons_succ]
  refine tkw_val 17 38 (.slice A 19 c) rfl (by kernel_rfl) (by kernel_rfl) (by kernel_rfl) (fun _ _ _ _ h => h) (by kernel_rfl) rfl (fun w _ => ev_move (.tmp 7) (.slice A 19 c) rfl rfl) h6 ?_
  simp only [Act.put, List.setIfInBounds_toArray, List.set_cons_zero, List.set_cons_succ]
  refine tkw_load 19 40 (.tmp 5) (w.heap.size + 2) (0) q rfl (by kernel_rfl) (by kernel_rfl) (by kernel_rfl) (fun _ _ _ _ h => h) (by kernel_rfl) rfl rfl rfl (fun ww h => (K4.out ww h).2.2.2.2.1.range) HQ.out h6 ?_
  simp only [Act.put, List.setIfInBounds_toArray, List.set_cons_zero, List.set_cons_succ]
  refine tkw_load 20 41 (.tmp 8) w3.heap.size (0) P rfl (by kernel_rfl) (by kernel_rfl) (by kernel_rfl) (fun _ _ _ _ h => h) (by kernel_rfl) rfl rfl rfl (fun ww h => (K4.out ww h).1.range) HP.out h6 ?_
  simp only [Act.put, List.setIfInBounds_toArray, List.set_cons_zero, List.set_cons_succ]
  refine tkw_val 21 42 (.bool bq) rfl (by kernel_rfl) (by kernel_rfl) (by kernel_rfl) (fun _ _ _ _ h => h) (by kernel_rfl) rfl (fun w _ => by rw [← HDQ.out]; exact ev_eql_dig (.tmp 40) (.tmp 41) q P HQ.out HP.out rfl rfl rfl) h6 ?_
  simp only [Act.put, List.setIfInBounds_toArray, List.set_cons_zero, List.set_cons_succ]
  refine lone 18 (by kernel_rfl) rfl (fun K hK => ?_)
  rw [if_pos (show Region.wanted _ _ = true from rfl)]
  refine wp_call 23 39 _ _ #[.agg (U q).toArray, .agg (U m).toArray, .slice A 19 c] _ rfl rfl rfl enters_Verify (CV2.out _ h6) (fun e w7 hq => ?_)
  refine ⟨_, hq.1, ?_⟩
  have h7 := STEP4.out _ _ h6 hq.2
  refine hK _ _ h7 ?_
  simp only [Act.put, List.setIfInBounds_toArray, List.set_cons_zero, List.set_cons_succ]
  clear hK hq
  refine tkw_val 22 43 (.bool true) rfl (by kernel_rfl) (by kernel_rfl) (by kernel_rfl) (fun _ _ _ _ h => h) (by kernel_rfl) rfl (fun w _ => ev_eqt_bool (.tmp 39) (.tmp 42) bq rfl rfl rfl) h7 ?_
  simp only [Act.put, List.setIfInBounds_toArray, List.set_cons_zero, List.set_cons_succ]
  refine tk_val 23 44 (.bool true) rfl (by kernel_rfl) (by kernel_rfl) (by kernel_rfl) (fun _ _ _ _ h => h) rfl rfl (fun w _ => ev_pick_t (.tmp 35) (.tmp 43) (.const (.bool false)) _ rfl rfl rfl) h7 ?_
  simp only [Act.put, List.setIfInBounds_toArray, List.set_cons_zero, List.set_cons_succ]
  refine tk_assign 24 6 (.tmp 44) (.bool true) rfl (by kernel_rfl) (by kernel_rfl) (by kernel_rfl) (fun _ _ _ _ h => h) rfl rfl rfl rfl h7 ?_
  simp only [Act.put, List.setIfInBounds_toArray, List.set_cons_zero, List.set_cons_succ]
  refine wpAnyH_done (by kernel_rfl) (NoPanic.normal ?_) _
  have HX7 := Lib.hid h7
  clear h7 h6 h5 h0
  go_wp2_with fail
  go_ret
  exact ⟨rfl, (K4.out _ HX7.out).2.2.2.2.2.2⟩
end Go.Proofs.YtllkkafajchioaaDoor
