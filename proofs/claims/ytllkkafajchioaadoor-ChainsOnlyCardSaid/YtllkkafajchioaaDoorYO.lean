/- Chains: ChainsSteps' walk. -/
import Derived.Test.YtllkkafajchioaaDoorYN
import Derived.Test.YtllkkafajchioaaDoorYS
namespace Go.Proofs.YtllkkafajchioaaDoor
open Go.RowKit

theorem sgn_at (s m : List UInt8) (k d : Nat) (hk : k < 19) (hd : (dgl m)[k]? = some d) : (sgn s m)[k]? = some (sn d (fst5 s k)) := by
  unfold sgn rc
  rw [List.getElem?_map, List.getElem?_range hk]
  simp only [Option.map]
  rw [List.getD_eq_getElem?_getD, hd, List.getD_eq_getElem?_getD, fsts_at s k hk]
  rfl

set_option maxRecDepth 100000 in
set_option maxHeartbeats 6400000 in
theorem steps_all (s a b : List UInt8) (w : World) (hs : s.length = 32) (ha : a.length = 32) (hb : b.length = 32) (hk : KR w Kt) :
    Calls Tryd.prog 7 #[.agg (U s).toArray, .agg (U a).toArray, .agg (U b).toArray] w fun e w' => e = .returned (.bool true) ∧ Below w.heap.size w w' := by
  have HS := Lib.hid hs
  have HA := Lib.hid ha
  have HB := Lib.hid hb
  have HK := Lib.hid hk
  have hlt0 := hk.lt
  clear hs ha hb hk
  go_enter Tryd.func7, Tryd.ntmps7
  go_wp2_with fail
  generalize hW1 : ((w.alloc _).alloc _).alloc _ = W1
  obtain ⟨h0, h1, h2, hb1, hz1⟩ := box3 w (U s).toArray (U a).toArray (U b).toArray 23 23 23 W1 hW1
  clear hW1
  have KE := Lib.hid (show ∀ ww, Below W1.heap.size W1 ww → RowB ww w.heap.size 23 s ∧ RowB ww (w.heap.size + 1) 23 a ∧ RowB ww (w.heap.size + 2) 23 b ∧ KR ww Kt ∧ Below w.heap.size w ww from fun ww h =>
    ⟨(h.block _ (by omega)).trans h0, (h.block _ (by omega)).trans h1, (h.block _ (by omega)).trans h2, HK.out.keep ((h.block 0 (by omega)).trans (hb1.block 0 hlt0)), hb1.trans (h.mono (by omega))⟩)
  have STEP := Lib.hid (show ∀ ww w', Below W1.heap.size W1 ww → Below ww.heap.size ww w' → Below W1.heap.size W1 w' from fun ww w' h1 h2 => h1.trans (h2.mono h1.size))
  rw [show w.heap.size + 1 + 1 = w.heap.size + 2 from rfl]
  refine (sane_all W1 (HK.out.keep (hb1.block 0 hlt0))).mono ?_
  rintro e w1 ⟨rfl, hb⟩
  have HB1 := Lib.hid hb
  clear hb hb1 hz1 h0 h1 h2
  go_wp2_with fail
  have h0 : Below W1.heap.size W1 w1.drew := HB1.out.drew
  refine wp_region_noPanic ?_
  refine wp_region_held_drew (S := fun ww => Below W1.heap.size W1 ww) (by kernel_rfl) h0 (fun _ => ?_)
  refine tk_load 0 18 (.tmp 4) (w.heap.size + 1) (0) a rfl (by kernel_rfl) (by kernel_rfl) (by kernel_rfl) (fun _ _ _ _ h => h) rfl rfl rfl rfl (fun ww h => (KE.out ww h).2.1.range) HA.out h0 ?_
  simp only [Act.put, List.setIfInBounds_toArray, List.set_cons_zero, List.set_cons_succ]
  refine tk_load 2 20 (.tmp 5) (w.heap.size + 2) (0) b rfl (by kernel_rfl) (by kernel_rfl) (by kernel_rfl) (fun _ _ _ _ h => h) rfl rfl rfl rfl (fun ww h => (KE.out ww h).2.2.1.range) HB.out h0 ?_
  simp only [Act.put, List.setIfInBounds_toArray, List.set_cons_zero, List.set_cons_succ]
  generalize w1.drew = V0 at *
  refine lone 1 (by kernel_rfl) rfl (fun K hK => to_call 14 19 _ _ #[.agg (U a).toArray] _ rfl rfl rfl rfl enters_Digits (Digits_all a V0 HA.out) (fun e w2 hq => ?_))
  obtain ⟨g1, k1, k2, k3, k4⟩ := hq
  refine ⟨_, k1, ?_⟩
  have h2 := STEP.out _ _ h0 k4
  refine hK _ _ h2 ?_
  simp only [Act.put, List.setIfInBounds_toArray, List.set_cons_zero, List.set_cons_succ]
  clear hK
  refine lone 3 (by kernel_rfl) rfl (fun K hK => to_call 14 21 _ _ #[.agg (U b).toArray] _ rfl rfl rfl rfl enters_Digits (Digits_all b w2 HB.out) (fun e w3 hq => ?_))
  obtain ⟨g2, j1, j2, j3, j4⟩ := hq
  refine ⟨_, j1, ?_⟩
  have h3 := STEP.out _ _ h2 j4
  refine hK _ _ h3 ?_
  simp only [Act.put, List.setIfInBounds_toArray, List.set_cons_zero, List.set_cons_succ]
  clear hK
  refine tk_assign 4 7 (.tmp 19) (.slice (some ⟨g1, 0, none⟩) 19 19) rfl (by kernel_rfl) (by kernel_rfl) (by kernel_rfl) (fun _ _ _ _ h => h) rfl rfl rfl rfl h3 ?_
  simp only [Act.put, List.setIfInBounds_toArray, List.set_cons_zero, List.set_cons_succ]
  refine tk_assign 5 8 (.tmp 21) (.slice (some ⟨g2, 0, none⟩) 19 19) rfl (by kernel_rfl) (by kernel_rfl) (by kernel_rfl) (fun _ _ _ _ h => h) rfl rfl rfl rfl h3 ?_
  simp only [Act.put, List.setIfInBounds_toArray, List.set_cons_zero, List.set_cons_succ]
  refine wpAnyH_done (by kernel_rfl) (NoPanic.normal ?_) _
  have HX3 := Lib.hid (show RowN w3 g1 47 (dgl a) ∧ RowN w3 g2 47 (dgl b) ∧ Below W1.heap.size W1 w3 from ⟨k2.keep (j4.block _ k2.lt), j2, h3⟩)
  clear h3 h2 h0 k2 k3 k4 j2 j3 j4
  go_wp2_with fail
  have h0 : Below W1.heap.size W1 w3.drew := HX3.out.2.2.drew
  have hs3 : w3.drew.heap.size = w3.heap.size := rfl
  have hd3 : RowN w3.drew g1 47 (dgl a) ∧ RowN w3.drew g2 47 (dgl b) := ⟨HX3.out.1, HX3.out.2.1⟩
  have HD3 := Lib.hid hd3
  clear hd3 hs3 HX3
  refine wp_region_noPanic ?_
  refine wp_region_held_drew (S := fun ww => Below W1.heap.size W1 ww) (by kernel_rfl) h0 (fun _ => ?_)
  refine tk_load 0 22 (.tmp 3) w.heap.size (0) s rfl (by kernel_rfl) (by kernel_rfl) (by kernel_rfl) (fun _ _ _ _ h => h) rfl rfl rfl rfl (fun ww h => (KE.out ww h).1.range) HS.out h0 ?_
  simp only [Act.put, List.setIfInBounds_toArray, List.set_cons_zero, List.set_cons_succ]
  refine tk_load 1 23 (.tmp 4) (w.heap.size + 1) (0) a rfl (by kernel_rfl) (by kernel_rfl) (by kernel_rfl) (fun _ _ _ _ h => h) rfl rfl rfl rfl (fun ww h => (KE.out ww h).2.1.range) HA.out h0 ?_
  simp only [Act.put, List.setIfInBounds_toArray, List.set_cons_zero, List.set_cons_succ]
  refine tk_load 3 25 (.tmp 3) w.heap.size (0) s rfl (by kernel_rfl) (by kernel_rfl) (by kernel_rfl) (fun _ _ _ _ h => h) rfl rfl rfl rfl (fun ww h => (KE.out ww h).1.range) HS.out h0 ?_
  simp only [Act.put, List.setIfInBounds_toArray, List.set_cons_zero, List.set_cons_succ]
  refine tk_load 4 26 (.tmp 5) (w.heap.size + 2) (0) b rfl (by kernel_rfl) (by kernel_rfl) (by kernel_rfl) (fun _ _ _ _ h => h) rfl rfl rfl rfl (fun ww h => (KE.out ww h).2.2.1.range) HB.out h0 ?_
  simp only [Act.put, List.setIfInBounds_toArray, List.set_cons_zero, List.set_cons_succ]
  generalize w3.drew = V3 at *
  refine lone 2 (by kernel_rfl) rfl (fun K hK => to_call 21 24 _ _ #[.agg (U s).toArray, .agg (U a).toArray] _ rfl rfl rfl rfl enters_Sign (sign_all s a V3 HS.out HA.out (KE.out _ h0).2.2.2.1) (fun e w4 hq => ?_))
  obtain ⟨vw4, kw41, kw42, kw43⟩ := hq
  obtain ⟨A, c, rfl⟩ := kw42.slice
  rw [sgn_len] at kw41 kw42
  have HL4 := Lib.hid (kw42.dlw (sgn_len s a))
  refine ⟨_, kw41, ?_⟩
  have h4 := STEP.out _ _ h0 kw43
  refine hK _ _ h4 ?_
  simp only [Act.put, List.setIfInBounds_toArray, List.set_cons_zero, List.set_cons_succ]
  clear hK
  refine lone 5 (by kernel_rfl) rfl (fun K hK => to_call 21 27 _ _ #[.agg (U s).toArray, .agg (U b).toArray] _ rfl rfl rfl rfl enters_Sign (sign_all s b w4 HS.out HB.out (KE.out _ h4).2.2.2.1) (fun e w5 hq => ?_))
  obtain ⟨vw5, kw51, kw52, kw53⟩ := hq
  obtain ⟨B, d, rfl⟩ := kw52.slice
  rw [sgn_len] at kw51 kw52
  have HL5 := Lib.hid (kw52.dlw (sgn_len s b))
  refine ⟨_, kw51, ?_⟩
  have h5 := STEP.out _ _ h4 kw53
  refine hK _ _ h5 ?_
  simp only [Act.put, List.setIfInBounds_toArray, List.set_cons_zero, List.set_cons_succ]
  clear hK
  refine tk_assign 6 9 (.tmp 24) (.slice A 19 c) rfl (by kernel_rfl) (by kernel_rfl) (by kernel_rfl) (fun _ _ _ _ h => h) rfl rfl rfl rfl h5 ?_
  simp only [Act.put, List.setIfInBounds_toArray, List.set_cons_zero, List.set_cons_succ]
  refine tk_assign 7 10 (.tmp 27) (.slice B 19 d) rfl (by kernel_rfl) (by kernel_rfl) (by kernel_rfl) (fun _ _ _ _ h => h) rfl rfl rfl rfl h5 ?_
  simp only [Act.put, List.setIfInBounds_toArray, List.set_cons_zero, List.set_cons_succ]
  refine wpAnyH_done (by kernel_rfl) (NoPanic.normal ?_) _
  have K6 := Lib.hid (show ∀ ww, Below w5.heap.size w5 ww → RowN ww g1 47 (dgl a) ∧ RowN ww g2 47 (dgl b) ∧ DL ww (· < w5.heap.size) (sgn s a) A c ∧ DL ww (· < w5.heap.size) (sgn s b) B d ∧ KR ww Kt ∧ Below w.heap.size w ww from fun ww h => by
    have m1 := KE.out ww (STEP.out _ _ h5 h)
    have z4 := kw43.size
    have z5 := kw53.size
    have l1 := HD3.out.1.lt
    have l2 := HD3.out.2.lt
    exact ⟨((HD3.out.1.keep (kw43.block _ l1)).keep (kw53.block _ (by omega))).keep (h.block _ (by omega)), ((HD3.out.2.keep (kw43.block _ l2)).keep (kw53.block _ (by omega))).keep (h.block _ (by omega)),
      HL4.out.keep fun i hi => ⟨by omega, (h.block i (by omega)).trans (kw53.block i hi)⟩, HL5.out.keep fun i hi => ⟨hi, h.block i hi⟩, m1.2.2.2.1, m1.2.2.2.2⟩)
  have STEP6 := Lib.hid (show ∀ ww w', Below w5.heap.size w5 ww → Below ww.heap.size ww w' → Below w5.heap.size w5 w' from fun ww w' h1 h2 => h1.trans (h2.mono h1.size))
  have hcA := HL4.out.1
  have hcB := HL5.out.1
  have hmA : c ≤ 9223372036854775807 := HL4.out.2.1
  have hmB : d ≤ 9223372036854775807 := HL5.out.2.1
  rw [sgn_len] at hcA hcB
  have DA := Lib.hid (dgl_len a)
  have DB := Lib.hid (dgl_len b)
  have SA := Lib.hid (sgn_len s a)
  have SB := Lib.hid (sgn_len s b)
  have D3 := Lib.hid (dgl_le a)
  have D4 := Lib.hid (dgl_le b)
  obtain ⟨ba, oa, rfl, hSa, _⟩ := HL4.out.2.2.2.2 (by rw [SA.out]; omega)
  obtain ⟨bb, ob, rfl, hSb, _⟩ := HL5.out.2.2.2.2 (by rw [SB.out]; omega)
  clear h5 h4 h0 kw42 kw43 kw52 kw53 hSa hSb
  go_wp2_with fail
  go_loopw [48] (fun x wr => ∃ k : Nat, k ≤ 19 ∧ x = .int .i64 k ∧ Hid (Below w5.heap.size w5 wr)) (fun x _ => 19 - (intOf x).toNat)
  case atStart => exact ⟨0, by omega, rfl, Lib.hid (Below.refl _ _)⟩
  case round =>
    obtain ⟨k, hk, rfl, HW⟩ := hrel
    by_cases hlt : k < 19
    · obtain ⟨wo, hwo⟩ : ∃ wo : World, wo = wr := ⟨_, rfl⟩
      rw [← hwo] at HW ⊢
      clear hwo
      obtain ⟨xa, hxa⟩ : ∃ x, (dgl a)[k]? = some x := ⟨_, List.getElem?_eq_getElem (by rw [DA.out]; exact hlt)⟩
      obtain ⟨xb, hxb⟩ : ∃ x, (dgl b)[k]? = some x := ⟨_, List.getElem?_eq_getElem (by rw [DB.out]; exact hlt)⟩
      have hxa3 := D3.out xa (List.mem_of_getElem? hxa)
      have hxb3 := D4.out xb (List.mem_of_getElem? hxb)
      have CA := Lib.hid (show ∀ ww, Below w5.heap.size w5 ww → ww.cell? ⟨g1, k, none⟩ = some (.int .i64 (xa : Int)) from fun ww h => (K6.out ww h).1.cell hxa)
      have CB := Lib.hid (show ∀ ww, Below w5.heap.size w5 ww → ww.cell? ⟨g2, k, none⟩ = some (.int .i64 (xb : Int)) from fun ww h => (K6.out ww h).2.1.cell hxb)
      have RA := Lib.hid (show ∀ ww, Below w5.heap.size w5 ww → ww.rangeAt ba (oa + k * 32) (U (sn xa (fst5 s k))) from fun ww h => by
        obtain ⟨b', o', e, _, hc⟩ := (K6.out ww h).2.2.1.2.2.2.2 (by rw [SA.out]; omega)
        injection e with e
        injection e with e1 e2
        subst e1 e2
        exact hc k _ (sgn_at s a k xa hlt hxa))
      have RB := Lib.hid (show ∀ ww, Below w5.heap.size w5 ww → ww.rangeAt bb (ob + k * 32) (U (sn xb (fst5 s k))) from fun ww h => by
        obtain ⟨b', o', e, _, hc⟩ := (K6.out ww h).2.2.2.1.2.2.2.2 (by rw [SB.out]; omega)
        injection e with e
        injection e with e1 e2
        subst e1 e2
        exact hc k _ (sgn_at s b k xb hlt hxb))
      have SN := Lib.hid (show ∀ j, (sn j (fst5 s k)).length = 32 from fun j => sn_len j _ (fst5_len _ _))
      have bk : (k : Int) < 19 := by omega
      clear hxa hxb
      generalize hfk : fst5 s k = f at *
      clear hfk
      go_upto_region 10 with fail
      go_cut [12, 13] from 51 to 58 (fun x y wx => ∃ gp gq : Nat, x = .pointer (some ⟨gp, 0, none⟩) ∧ y = .pointer (some ⟨gq, 0, none⟩) ∧ St w5 (some (gp, sn xa f)) (some (gq, sn xb f)) wx)
      case first =>
        go_wp2_with fail
        refine wp_region_noPanic ?_
        have h0 : Below w5.heap.size w5 wo.drew := HW.out.drew
        refine wp_region_held_drew (S := fun ww => Below w5.heap.size w5 ww) (by kernel_rfl) h0 (fun _ => ?_)
        generalize wo.drew = V0 at *
        refine tk_move 0 51 (.tmp 9) (.slice (some ⟨ba, oa, none⟩) 19 c) rfl (by kernel_rfl) (by kernel_rfl) (by kernel_rfl) (fun _ _ _ _ h => h) rfl rfl rfl rfl h0 ?_
        simp only [Act.put, List.setIfInBounds_toArray, List.set_cons_zero, List.set_cons_succ]
        refine tk_move 1 52 (.tmp 11) (.int .i64 k) rfl (by kernel_rfl) (by kernel_rfl) (by kernel_rfl) (fun _ _ _ _ h => h) rfl rfl rfl rfl h0 ?_
        simp only [Act.put, List.setIfInBounds_toArray, List.set_cons_zero, List.set_cons_succ]
        refine tk_val 2 53 (.pointer (some ⟨ba, oa + k * 32, none⟩)) rfl (by kernel_rfl) (by kernel_rfl) (by kernel_rfl) (fun _ _ _ _ h => h) rfl rfl (fun _ _ => ev_index (.tmp 51) (.tmp 52) ba oa 19 c k rfl rfl rfl hlt) h0 ?_
        simp only [Act.put, List.setIfInBounds_toArray, List.set_cons_zero, List.set_cons_succ]
        refine tk_load 3 54 (.tmp 53) ba (oa + k * 32) (sn xa f) rfl (by kernel_rfl) (by kernel_rfl) (by kernel_rfl) (fun _ _ _ _ h => h) rfl rfl rfl rfl (fun ww h => RA.out ww h) (SN.out xa) h0 ?_
        simp only [Act.put, List.setIfInBounds_toArray, List.set_cons_zero, List.set_cons_succ]
        refine tk_move 4 55 (.tmp 10) (.slice (some ⟨bb, ob, none⟩) 19 d) rfl (by kernel_rfl) (by kernel_rfl) (by kernel_rfl) (fun _ _ _ _ h => h) rfl rfl rfl rfl h0 ?_
        simp only [Act.put, List.setIfInBounds_toArray, List.set_cons_zero, List.set_cons_succ]
        refine tk_move 5 56 (.tmp 11) (.int .i64 k) rfl (by kernel_rfl) (by kernel_rfl) (by kernel_rfl) (fun _ _ _ _ h => h) rfl rfl rfl rfl h0 ?_
        simp only [Act.put, List.setIfInBounds_toArray, List.set_cons_zero, List.set_cons_succ]
        refine tk_val 6 57 (.pointer (some ⟨bb, ob + k * 32, none⟩)) rfl (by kernel_rfl) (by kernel_rfl) (by kernel_rfl) (fun _ _ _ _ h => h) rfl rfl (fun _ _ => ev_index (.tmp 55) (.tmp 56) bb ob 19 d k rfl rfl rfl hlt) h0 ?_
        simp only [Act.put, List.setIfInBounds_toArray, List.set_cons_zero, List.set_cons_succ]
        refine tk_load 7 58 (.tmp 57) bb (ob + k * 32) (sn xb f) rfl (by kernel_rfl) (by kernel_rfl) (by kernel_rfl) (fun _ _ _ _ h => h) rfl rfl rfl rfl (fun ww h => RB.out ww h) (SN.out xb) h0 ?_
        simp only [Act.put, List.setIfInBounds_toArray, List.set_cons_zero, List.set_cons_succ]
        have hst : St w5 none none V0 := ⟨h0, (fun _ _ e => by cases e), (fun _ _ e => by cases e), (fun _ _ _ _ e _ => by cases e)⟩
        refine wpAnyH_ready (rs := [8, 9]) (by kernel_rfl) (by simp) ?_
        refine AllReadyH.cons (o := _) rfl (fun K hK => ?_) (AllReadyH.cons (o := _) rfl (fun K hK => ?_) AllReadyH.nil)
        · have h1 := hst.new1
          refine to_alloc 12 rfl rfl rfl (hK.out _ _ h1.below fun _ => ?_)
          simp only [Act.put, List.setIfInBounds_toArray, List.set_cons_zero, List.set_cons_succ]
          clear hK
          refine lone 9 (by kernel_rfl) rfl (fun K hK => ?_)
          have h2 := h1.new2
          refine to_alloc 13 rfl rfl rfl (hK _ _ h2.below ?_)
          simp only [Act.put, List.setIfInBounds_toArray, List.set_cons_zero, List.set_cons_succ]
          clear hK
          refine lone 10 (by kernel_rfl) rfl (fun K hK => ?_)
          have h3 := h2.set1 (sn xa f)
          refine to_store (.tmp 12) (.tmp 54) rfl rfl rfl _ _ (sn xa f) rfl rfl (h2.one _ _ rfl).1 (by simp [flb]) (SN.out xa) (hK _ _ h3.below ?_)
          clear hK
          refine lone 11 (by kernel_rfl) rfl (fun K hK => ?_)
          have h4 := h3.set2 (sn xb f)
          refine to_store (.tmp 13) (.tmp 58) rfl rfl rfl _ _ (sn xb f) rfl rfl (h3.two _ _ rfl).1 (by simp [flb]) (SN.out xb) (hK _ _ h4.below ?_)
          clear hK
          refine wpAnyH_done (by kernel_rfl) (NoPanic.normal ?_) _
          have H4 := Lib.hid h4
          clear h1 h2 h3 h4 hst h0
          go_wp2_with fail
          go_meet
          exact ⟨_, _, rfl, rfl, H4.out⟩
        · have h1 := hst.new2
          refine to_alloc 13 rfl rfl rfl (hK.out _ _ h1.below fun _ => ?_)
          simp only [Act.put, List.setIfInBounds_toArray, List.set_cons_zero, List.set_cons_succ]
          clear hK
          refine lone 8 (by kernel_rfl) rfl (fun K hK => ?_)
          have h2 := h1.new1
          refine to_alloc 12 rfl rfl rfl (hK _ _ h2.below ?_)
          simp only [Act.put, List.setIfInBounds_toArray, List.set_cons_zero, List.set_cons_succ]
          clear hK
          refine lone 10 (by kernel_rfl) rfl (fun K hK => ?_)
          have h3 := h2.set1 (sn xa f)
          refine to_store (.tmp 12) (.tmp 54) rfl rfl rfl _ _ (sn xa f) rfl rfl (h2.one _ _ rfl).1 (by simp [flb]) (SN.out xa) (hK _ _ h3.below ?_)
          clear hK
          refine lone 11 (by kernel_rfl) rfl (fun K hK => ?_)
          have h4 := h3.set2 (sn xb f)
          refine to_store (.tmp 13) (.tmp 58) rfl rfl rfl _ _ (sn xb f) rfl rfl (h3.two _ _ rfl).1 (by simp [flb]) (SN.out xb) (hK _ _ h4.below ?_)
          clear hK
          refine wpAnyH_done (by kernel_rfl) (NoPanic.normal ?_) _
          have H4 := Lib.hid h4
          clear h1 h2 h3 h4 hst h0
          go_wp2_with fail
          go_meet
          exact ⟨_, _, rfl, rfl, H4.out⟩
      case rest =>
        obtain ⟨gp, gq, rfl, rfl, hst⟩ := hcut
        have HST := Lib.hid hst
        have ca := CA.out _ hst.below
        clear hst
        obtain ⟨w7, hw7⟩ : ∃ w7 : World, w7 = wc := ⟨_, rfl⟩
        rw [← hw7] at HST ca ⊢
        clear hw7
        go_wp2_with fail
        clear ca
        go_loopw [14] (fun x wq => ∃ j : Nat, x = .int .i64 j ∧ xa ≤ j ∧ (j ≤ xb ∨ j = xa) ∧ Hid (St w5 (some (gp, sn j f)) (some (gq, sn xb f)) wq)) (fun x _ => 4 - (intOf x).toNat)
        case atStart => exact ⟨xa, rfl, Nat.le_refl _, .inr rfl, HST⟩
        case round =>
          obtain ⟨j, rfl, hj1, hj2, HQ⟩ := hrel
          have hj3 : j ≤ 3 := by omega
          have cb := CB.out _ HQ.out.below
          by_cases hjx : j < xb
          · have rp := (HQ.out.one _ _ rfl).1
            have hst := HQ.out
            go_wp2_with (refine load_B rfl (.tmp 12) rfl gp rfl 23 (sn j f) rp (SN.out j) ?_)
            refine (step_all (sn j f) wr (SN.out j) (K6.out _ hst.below).2.2.2.2.1).mono ?_
            rintro e w8 ⟨rfl, hb8⟩
            have hst8 := hst.step hb8
            have rp8 := (hst8.one _ _ rfl).1
            have H9 := Lib.hid (hst8.set1 (sn (j + 1) f))
            clear hst hst8 hb8 rp cb
            go_wp2_with (refine store_B rfl (.tmp 12) (.tmp 72) rfl gp (sn j f) (sn (j + 1) f) rfl rfl 23 rp8 (SN.out (j + 1)) (SN.out j) ?_)
            go_roundw
            case rel => exact ⟨j + 1, rfl, by omega, .inl (by omega), H9⟩
            case measure => simp [intOf]; omega
          · obtain ⟨mx, hmx, hm1, hm2, hm3⟩ : ∃ mx, j = mx ∧ xa ≤ mx ∧ xb ≤ mx ∧ mx ≤ 3 := ⟨j, rfl, hj1, by omega, hj3⟩
            have hm4 : mx = xa ∨ mx = xb := by omega
            rw [hmx] at HQ ⊢
            have hjm : ¬ mx < xb := by omega
            clear hmx hj1 hj2 hj3 hjx
            have ca := CA.out _ HQ.out.below
            obtain ⟨w8, hw8⟩ : ∃ w8 : World, w8 = wr := ⟨_, rfl⟩
            rw [← hw8] at HQ ca cb ⊢
            clear hw8
            go_wp2_with fail
            clear ca cb
            go_loopw [15] (fun x wq => ∃ j : Nat, x = .int .i64 j ∧ xb ≤ j ∧ (j ≤ xa ∨ j = xb) ∧ Hid (St w5 (some (gp, sn mx f)) (some (gq, sn j f)) wq)) (fun x _ => 4 - (intOf x).toNat)
            case atStart => exact ⟨xb, rfl, Nat.le_refl _, .inr rfl, HQ⟩
            case round =>
              obtain ⟨j, rfl, hj1, hj2, HQ⟩ := hrel
              have hj3 : j ≤ 3 := by omega
              have ca := CA.out _ HQ.out.below
              by_cases hjx : j < xa
              · have rq := (HQ.out.two _ _ rfl).1
                have hst := HQ.out
                go_wp2_with (refine load_B rfl (.tmp 13) rfl gq rfl 23 (sn j f) rq (SN.out j) ?_)
                refine (step_all (sn j f) wr (SN.out j) (K6.out _ hst.below).2.2.2.2.1).mono ?_
                rintro e w9 ⟨rfl, hb9⟩
                have hst9 := hst.step hb9
                have rq9 := (hst9.two _ _ rfl).1
                have H9 := Lib.hid (hst9.set2 (sn (j + 1) f))
                clear hst hst9 hb9 rq ca
                go_wp2_with (refine store_B rfl (.tmp 13) (.tmp 86) rfl gq (sn j f) (sn (j + 1) f) rfl rfl 23 rq9 (SN.out (j + 1)) (SN.out j) ?_)
                go_roundw
                case rel => exact ⟨j + 1, rfl, by omega, .inl (by omega), H9⟩
                case measure => simp [intOf]; omega
              · have hjm2 : j = mx := by omega
                rw [hjm2] at HQ ⊢
                have hjx2 : ¬ mx < xa := by omega
                clear hj1 hj2 hj3 hjx hjm2
                have rp := (HQ.out.one _ _ rfl).1
                have rq := (HQ.out.two _ _ rfl).1
                have q1 := eq_self (sn mx f) (SN.out mx)
                have HX := Lib.hid HQ.out.below
                go_wp2_with (first | (refine load_B rfl (.tmp 12) rfl gp rfl 23 (sn mx f) rp (SN.out mx) ?_) | (refine load_B rfl (.tmp 13) rfl gq rfl 23 (sn mx f) rq (SN.out mx) ?_))
                go_roundw
                case rel => exact ⟨k + 1, by omega, rfl, HX⟩
                case measure => simp [intOf]; omega
    · obtain rfl : k = 19 := by omega
      go_wp2_with fail
      go_ret
      exact ⟨rfl, (K6.out _ HW.out).2.2.2.2.2⟩
end Go.Proofs.YtllkkafajchioaaDoor
