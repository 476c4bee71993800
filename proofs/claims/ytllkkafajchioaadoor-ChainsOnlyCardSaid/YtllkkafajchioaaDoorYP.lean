/- Chains: ChainsForge's walk. -/
import Derived.Test.YtllkkafajchioaaDoorYO
namespace Go.Proofs.YtllkkafajchioaaDoor
open Go.RowKit

/-- a list of the call's own and a box beside it -/
structure Fg (w5 : World) (v : Value) (M : List (List UInt8)) (g : Nat) (l : List UInt8) (wx : World) : Prop where
  below : Below w5.heap.size w5 wx
  own : OwnD wx w5.heap.size v M
  box : RowB wx g 23 l
  base : w5.heap.size ≤ g
  apart : v.ownBlock ≠ some g
theorem Fg.step {w5 wx w' : World} {v : Value} {M : List (List UInt8)} {g : Nat} {l : List UInt8} (h : Fg w5 v M g l wx) (hb : Below wx.heap.size wx w') : Fg w5 v M g l w' :=
  ⟨h.below.trans (hb.mono h.below.size), h.own.step hb, h.box.keep (hb.block _ h.box.lt), h.base, h.apart⟩
theorem Fg.set {w5 wx : World} {v : Value} {M : List (List UInt8)} {g : Nat} {l : List UInt8} (h : Fg w5 v M g l wx) (l' : List UInt8) : Fg w5 v M g l' (wx.setRow g (U l').toArray) :=
  ⟨below_setRow h.below h.base _, h.own.kept fun k hk => setRow_other _ _ _ _ (fun e => h.apart (by rw [hk, e])), h.box.setRow l', h.base, h.apart⟩
theorem Fg.make {w5 w' : World} {v : Value} {M : List (List UInt8)} (hb : Below w5.heap.size w5 w') (ho : OwnD w' w5.heap.size v M) : Fg w5 v M w'.heap.size (flb 32 []) (w'.alloc (.cells (U (flb 32 [])).toArray 23)) :=
  ⟨hb.alloc hb.size _, ho.alloc _, heap_alloc_new w' _, hb.size, fun e => by have := (World.ownsRow.lt ho.1 _ e).2; omega⟩

set_option maxRecDepth 100000 in
set_option maxHeartbeats 6400000 in
theorem forge_all (s a b q : List UInt8) (w : World) (hs : s.length = 32) (ha : a.length = 32) (hb : b.length = 32) (hq : q.length = 32) (hk : KR w Kt) :
    Calls Tryd.prog 9 #[.agg (U s).toArray, .agg (U a).toArray, .agg (U b).toArray, .agg (U q).toArray] w fun e w' => e = .returned (.bool true) ∧ Below w.heap.size w w' := by
  have HS := Lib.hid hs
  have HA := Lib.hid ha
  have HB := Lib.hid hb
  have HQ := Lib.hid hq
  have HK := Lib.hid hk
  have hlt0 := hk.lt
  clear hs ha hb hq hk
  go_enter Tryd.func9, Tryd.ntmps9
  go_wp2_with fail
  generalize hW1 : (((w.alloc _).alloc _).alloc _).alloc _ = W1
  obtain ⟨h0, h1, h2, h3, hb1, hz1⟩ : W1.heap[w.heap.size]? = some (.cells (U s).toArray 23 (0, 0)) ∧ W1.heap[w.heap.size + 1]? = some (.cells (U a).toArray 23 (0, 0)) ∧ W1.heap[w.heap.size + 2]? = some (.cells (U b).toArray 23 (0, 0)) ∧ W1.heap[w.heap.size + 3]? = some (.cells (U q).toArray 23 (0, 0)) ∧ Below w.heap.size w W1 ∧ W1.heap.size = w.heap.size + 4 := by
    obtain ⟨k0, k1, k2, k3, k4⟩ := box3 w (U s).toArray (U a).toArray (U b).toArray 23 23 23 _ rfl
    obtain ⟨j1, j2, j3⟩ := box1 _ (U q).toArray 23 W1 hW1
    rw [k4] at j1 j2 j3
    exact ⟨(j2.block _ (by omega)).trans k0, (j2.block _ (by omega)).trans k1, (j2.block _ (by omega)).trans k2, j1, k3.trans (j2.mono (by omega)), j3⟩
  clear hW1
  have KE := Lib.hid (show ∀ ww, Below W1.heap.size W1 ww → RowB ww w.heap.size 23 s ∧ RowB ww (w.heap.size + 1) 23 a ∧ RowB ww (w.heap.size + 2) 23 b ∧ RowB ww (w.heap.size + 3) 23 q ∧ KR ww Kt ∧ Below w.heap.size w ww from fun ww h =>
    ⟨(h.block _ (by omega)).trans h0, (h.block _ (by omega)).trans h1, (h.block _ (by omega)).trans h2, (h.block _ (by omega)).trans h3, HK.out.keep ((h.block 0 (by omega)).trans (hb1.block 0 hlt0)), hb1.trans (h.mono (by omega))⟩)
  have STEP := Lib.hid (show ∀ ww w', Below W1.heap.size W1 ww → Below ww.heap.size ww w' → Below W1.heap.size W1 w' from fun ww w' h1 h2 => h1.trans (h2.mono h1.size))
  rw [show w.heap.size + 1 + 1 = w.heap.size + 2 from rfl, show w.heap.size + 2 + 1 = w.heap.size + 3 from rfl]
  refine (sane_all W1 (HK.out.keep (hb1.block 0 hlt0))).mono ?_
  rintro e w1 ⟨rfl, hb⟩
  have HB1 := Lib.hid hb
  clear hb hb1 hz1 h0 h1 h2 h3
  go_wp2_with fail
  have h0 : Below W1.heap.size W1 w1.drew := HB1.out.drew
  refine wp_region_noPanic ?_
  refine wp_region_held_drew (S := fun ww => Below W1.heap.size W1 ww) (by kernel_rfl) h0 (fun _ => ?_)
  refine tk_load 0 20 (.tmp 5) (w.heap.size + 1) (0) a rfl (by kernel_rfl) (by kernel_rfl) (by kernel_rfl) (fun _ _ _ _ h => h) rfl rfl rfl rfl (fun ww h => (KE.out ww h).2.1.range) HA.out h0 ?_
  simp only [Act.put, List.setIfInBounds_toArray, List.set_cons_zero, List.set_cons_succ]
  refine tk_load 2 22 (.tmp 6) (w.heap.size + 2) (0) b rfl (by kernel_rfl) (by kernel_rfl) (by kernel_rfl) (fun _ _ _ _ h => h) rfl rfl rfl rfl (fun ww h => (KE.out ww h).2.2.1.range) HB.out h0 ?_
  simp only [Act.put, List.setIfInBounds_toArray, List.set_cons_zero, List.set_cons_succ]
  refine tk_load 4 24 (.tmp 7) (w.heap.size + 3) (0) q rfl (by kernel_rfl) (by kernel_rfl) (by kernel_rfl) (fun _ _ _ _ h => h) rfl rfl rfl rfl (fun ww h => (KE.out ww h).2.2.2.1.range) HQ.out h0 ?_
  simp only [Act.put, List.setIfInBounds_toArray, List.set_cons_zero, List.set_cons_succ]
  generalize w1.drew = V0 at *
  refine lone 1 (by kernel_rfl) rfl (fun K hK => to_call 14 21 _ _ #[.agg (U a).toArray] _ rfl rfl rfl rfl enters_Digits (Digits_all a V0 HA.out) (fun e w2 hq => ?_))
  obtain ⟨g1, k1, k2, k3, k4⟩ := hq
  refine ⟨_, k1, ?_⟩
  have h2 := STEP.out _ _ h0 k4
  refine hK _ _ h2 ?_
  simp only [Act.put, List.setIfInBounds_toArray, List.set_cons_zero, List.set_cons_succ]
  clear hK
  refine lone 3 (by kernel_rfl) rfl (fun K hK => to_call 14 23 _ _ #[.agg (U b).toArray] _ rfl rfl rfl rfl enters_Digits (Digits_all b w2 HB.out) (fun e w3 hq => ?_))
  obtain ⟨g2, j1, j2, j3, j4⟩ := hq
  refine ⟨_, j1, ?_⟩
  have h3 := STEP.out _ _ h2 j4
  refine hK _ _ h3 ?_
  simp only [Act.put, List.setIfInBounds_toArray, List.set_cons_zero, List.set_cons_succ]
  clear hK
  refine lone 5 (by kernel_rfl) rfl (fun K hK => to_call 14 25 _ _ #[.agg (U q).toArray] _ rfl rfl rfl rfl enters_Digits (Digits_all q w3 HQ.out) (fun e w4 hq => ?_))
  obtain ⟨g3, i1, i2, i3, i4⟩ := hq
  refine ⟨_, i1, ?_⟩
  have h4 := STEP.out _ _ h3 i4
  refine hK _ _ h4 ?_
  simp only [Act.put, List.setIfInBounds_toArray, List.set_cons_zero, List.set_cons_succ]
  clear hK
  refine tk_assign 6 9 (.tmp 21) (.slice (some ⟨g1, 0, none⟩) 19 19) rfl (by kernel_rfl) (by kernel_rfl) (by kernel_rfl) (fun _ _ _ _ h => h) rfl rfl rfl rfl h4 ?_
  simp only [Act.put, List.setIfInBounds_toArray, List.set_cons_zero, List.set_cons_succ]
  refine tk_assign 7 10 (.tmp 23) (.slice (some ⟨g2, 0, none⟩) 19 19) rfl (by kernel_rfl) (by kernel_rfl) (by kernel_rfl) (fun _ _ _ _ h => h) rfl rfl rfl rfl h4 ?_
  simp only [Act.put, List.setIfInBounds_toArray, List.set_cons_zero, List.set_cons_succ]
  refine tk_assign 8 11 (.tmp 25) (.slice (some ⟨g3, 0, none⟩) 19 19) rfl (by kernel_rfl) (by kernel_rfl) (by kernel_rfl) (fun _ _ _ _ h => h) rfl rfl rfl rfl h4 ?_
  simp only [Act.put, List.setIfInBounds_toArray, List.set_cons_zero, List.set_cons_succ]
  refine wpAnyH_done (by kernel_rfl) (NoPanic.normal ?_) _
  have HX3 := Lib.hid (show RowN w4.drew g1 47 (dgl a) ∧ RowN w4.drew g2 47 (dgl b) ∧ RowN w4.drew g3 47 (dgl q) ∧ Below W1.heap.size W1 w4.drew from
    ⟨(k2.keep (j4.block _ k2.lt)).keep (i4.block _ (by have := j4.size; have := k2.lt; omega)), j2.keep (i4.block _ j2.lt), i2, h4.drew⟩)
  clear h4 h3 h2 h0 k2 k3 k4 j2 j3 j4 i2 i3 i4
  go_wp2_with fail
  have h0 := HX3.out.2.2.2
  refine wp_region_noPanic ?_
  refine wp_region_held_drew (S := fun ww => Below W1.heap.size W1 ww) (by kernel_rfl) h0 (fun _ => ?_)
  refine tk_load 0 26 (.tmp 4) w.heap.size (0) s rfl (by kernel_rfl) (by kernel_rfl) (by kernel_rfl) (fun _ _ _ _ h => h) rfl rfl rfl rfl (fun ww h => (KE.out ww h).1.range) HS.out h0 ?_
  simp only [Act.put, List.setIfInBounds_toArray, List.set_cons_zero, List.set_cons_succ]
  refine tk_load 1 27 (.tmp 5) (w.heap.size + 1) (0) a rfl (by kernel_rfl) (by kernel_rfl) (by kernel_rfl) (fun _ _ _ _ h => h) rfl rfl rfl rfl (fun ww h => (KE.out ww h).2.1.range) HA.out h0 ?_
  simp only [Act.put, List.setIfInBounds_toArray, List.set_cons_zero, List.set_cons_succ]
  refine tk_load 3 29 (.tmp 4) w.heap.size (0) s rfl (by kernel_rfl) (by kernel_rfl) (by kernel_rfl) (fun _ _ _ _ h => h) rfl rfl rfl rfl (fun ww h => (KE.out ww h).1.range) HS.out h0 ?_
  simp only [Act.put, List.setIfInBounds_toArray, List.set_cons_zero, List.set_cons_succ]
  refine tk_load 4 30 (.tmp 6) (w.heap.size + 2) (0) b rfl (by kernel_rfl) (by kernel_rfl) (by kernel_rfl) (fun _ _ _ _ h => h) rfl rfl rfl rfl (fun ww h => (KE.out ww h).2.2.1.range) HB.out h0 ?_
  simp only [Act.put, List.setIfInBounds_toArray, List.set_cons_zero, List.set_cons_succ]
  generalize w4.drew = V3 at *
  refine lone 2 (by kernel_rfl) rfl (fun K hK => to_call 21 28 _ _ #[.agg (U s).toArray, .agg (U a).toArray] _ rfl rfl rfl rfl enters_Sign (sign_all s a V3 HS.out HA.out (KE.out _ h0).2.2.2.2.1) (fun e wx hq => ?_))
  obtain ⟨vwx, kwx1, kwx2, kwx3⟩ := hq
  obtain ⟨A, c, rfl⟩ := kwx2.slice
  rw [sgn_len] at kwx1 kwx2
  have HL4 := Lib.hid (kwx2.dlw (sgn_len s a))
  refine ⟨_, kwx1, ?_⟩
  have h4 := STEP.out _ _ h0 kwx3
  refine hK _ _ h4 ?_
  simp only [Act.put, List.setIfInBounds_toArray, List.set_cons_zero, List.set_cons_succ]
  clear hK
  refine lone 5 (by kernel_rfl) rfl (fun K hK => to_call 21 31 _ _ #[.agg (U s).toArray, .agg (U b).toArray] _ rfl rfl rfl rfl enters_Sign (sign_all s b wx HS.out HB.out (KE.out _ h4).2.2.2.2.1) (fun e w5 hq => ?_))
  obtain ⟨vw5, kw51, kw52, kw53⟩ := hq
  obtain ⟨B, d, rfl⟩ := kw52.slice
  rw [sgn_len] at kw51 kw52
  have HL5 := Lib.hid (kw52.dlw (sgn_len s b))
  refine ⟨_, kw51, ?_⟩
  have h5 := STEP.out _ _ h4 kw53
  refine hK _ _ h5 ?_
  simp only [Act.put, List.setIfInBounds_toArray, List.set_cons_zero, List.set_cons_succ]
  clear hK
  refine tk_assign 6 12 (.tmp 28) (.slice A 19 c) rfl (by kernel_rfl) (by kernel_rfl) (by kernel_rfl) (fun _ _ _ _ h => h) rfl rfl rfl rfl h5 ?_
  simp only [Act.put, List.setIfInBounds_toArray, List.set_cons_zero, List.set_cons_succ]
  refine tk_assign 7 13 (.tmp 31) (.slice B 19 d) rfl (by kernel_rfl) (by kernel_rfl) (by kernel_rfl) (fun _ _ _ _ h => h) rfl rfl rfl rfl h5 ?_
  simp only [Act.put, List.setIfInBounds_toArray, List.set_cons_zero, List.set_cons_succ]
  refine wpAnyH_done (by kernel_rfl) (NoPanic.normal ?_) _
  have K6 := Lib.hid (show ∀ ww, Below w5.heap.size w5 ww → RowN ww g1 47 (dgl a) ∧ RowN ww g2 47 (dgl b) ∧ RowN ww g3 47 (dgl q) ∧ DL ww (· < w5.heap.size) (sgn s a) A c ∧ DL ww (· < w5.heap.size) (sgn s b) B d ∧ RowB ww w.heap.size 23 s ∧ RowB ww (w.heap.size + 3) 23 q ∧ KR ww Kt ∧ Below w.heap.size w ww from fun ww h => by
    have m1 := KE.out ww (STEP.out _ _ h5 h)
    have z4 := kwx3.size
    have z5 := kw53.size
    have l1 := HX3.out.1.lt
    have l2 := HX3.out.2.1.lt
    have l3 := HX3.out.2.2.1.lt
    exact ⟨((HX3.out.1.keep (kwx3.block _ l1)).keep (kw53.block _ (by omega))).keep (h.block _ (by omega)), ((HX3.out.2.1.keep (kwx3.block _ l2)).keep (kw53.block _ (by omega))).keep (h.block _ (by omega)), ((HX3.out.2.2.1.keep (kwx3.block _ l3)).keep (kw53.block _ (by omega))).keep (h.block _ (by omega)),
      HL4.out.keep fun i hi => ⟨by omega, (h.block i (by omega)).trans (kw53.block i hi)⟩, HL5.out.keep fun i hi => ⟨hi, h.block i hi⟩, m1.1, m1.2.2.2.1, m1.2.2.2.2.1, m1.2.2.2.2.2⟩)
  have hcA := HL4.out.1
  have hcB := HL5.out.1
  have hmA : c ≤ 9223372036854775807 := HL4.out.2.1
  have hmB : d ≤ 9223372036854775807 := HL5.out.2.1
  rw [sgn_len] at hcA hcB
  have DA := Lib.hid (dgl_len a)
  have DB := Lib.hid (dgl_len b)
  have DQ := Lib.hid (dgl_len q)
  have SA := Lib.hid (sgn_len s a)
  have SB := Lib.hid (sgn_len s b)
  have D3 := Lib.hid (dgl_le a)
  have D4 := Lib.hid (dgl_le b)
  have D5 := Lib.hid (dgl_le q)
  obtain ⟨ba, oa, rfl, hSa, _⟩ := HL4.out.2.2.2.2 (by rw [SA.out]; omega)
  obtain ⟨bb, ob, rfl, hSb, _⟩ := HL5.out.2.2.2.2 (by rw [SB.out]; omega)
  clear h5 h4 h0 kwx2 kwx3 kw52 kw53 hSa hSb
  go_wp2_with fail
  go_loopw [14, 57] (fun v x wr => ∃ (k : Nat) (A' : Option Addr) (c' : Nat), v = .slice A' k c' ∧ x = .int .i64 k ∧ k ≤ 19 ∧ Hid (Below w5.heap.size w5 wr) ∧ Hid (OwnD wr w5.heap.size (.slice A' k c') ((sgn s q).take k))) (fun _ x _ => 19 - (intOf x).toNat)
  case atStart => exact ⟨0, none, 0, rfl, rfl, by omega, Lib.hid (Below.refl _ _), Lib.hid (OwnD.nil _ _)⟩
  case round =>
    obtain ⟨k, A', c', rfl, rfl, hk, HW, HO⟩ := hrel
    by_cases hlt : k < 19
    · obtain ⟨wo, hwo⟩ : ∃ wo : World, wo = wr := ⟨_, rfl⟩
      rw [← hwo] at HW HO ⊢
      clear hwo
      obtain ⟨xa, hxa⟩ : ∃ x, (dgl a)[k]? = some x := ⟨_, List.getElem?_eq_getElem (by rw [DA.out]; exact hlt)⟩
      obtain ⟨xb, hxb⟩ : ∃ x, (dgl b)[k]? = some x := ⟨_, List.getElem?_eq_getElem (by rw [DB.out]; exact hlt)⟩
      obtain ⟨xq, hxq⟩ : ∃ x, (dgl q)[k]? = some x := ⟨_, List.getElem?_eq_getElem (by rw [DQ.out]; exact hlt)⟩
      have hxa3 := D3.out xa (List.mem_of_getElem? hxa)
      have hxb3 := D4.out xb (List.mem_of_getElem? hxb)
      have hxq3 := D5.out xq (List.mem_of_getElem? hxq)
      have CA := Lib.hid (show ∀ ww, Below w5.heap.size w5 ww → ww.cell? ⟨g1, k, none⟩ = some (.int .i64 (xa : Int)) from fun ww h => (K6.out ww h).1.cell hxa)
      have CB := Lib.hid (show ∀ ww, Below w5.heap.size w5 ww → ww.cell? ⟨g2, k, none⟩ = some (.int .i64 (xb : Int)) from fun ww h => (K6.out ww h).2.1.cell hxb)
      have CQ := Lib.hid (show ∀ ww, Below w5.heap.size w5 ww → ww.cell? ⟨g3, k, none⟩ = some (.int .i64 (xq : Int)) from fun ww h => (K6.out ww h).2.2.1.cell hxq)
      have RA := Lib.hid (show ∀ ww, Below w5.heap.size w5 ww → ww.rangeAt ba (oa + k * 32) (U (sn xa (fst5 s k))) from fun ww h => by
        obtain ⟨b', o', e, _, hc⟩ := (K6.out ww h).2.2.2.1.2.2.2.2 (by rw [SA.out]; omega)
        injection e with e
        injection e with e1 e2
        subst e1 e2
        exact hc k _ (sgn_at s a k xa hlt hxa))
      have RB := Lib.hid (show ∀ ww, Below w5.heap.size w5 ww → ww.rangeAt bb (ob + k * 32) (U (sn xb (fst5 s k))) from fun ww h => by
        obtain ⟨b', o', e, _, hc⟩ := (K6.out ww h).2.2.2.2.1.2.2.2.2 (by rw [SB.out]; omega)
        injection e with e
        injection e with e1 e2
        subst e1 e2
        exact hc k _ (sgn_at s b k xb hlt hxb))
      have SN := Lib.hid (show ∀ j, (sn j (fst5 s k)).length = 32 from fun j => sn_len j _ (fst5_len _ _))
      have HT := Lib.hid (take_one (sgn s q) k _ (sgn_at s q k xq hlt hxq))
      have HTL := Lib.hid (show ((sgn s q).take k).length = k by rw [List.length_take, sgn_len]; omega)
      have bk : (k : Int) < 19 := by omega
      clear hxa hxb hxq
      generalize hfk : fst5 s k = f at *
      clear hfk
      generalize hMk : (sgn s q).take k = M at *
      clear hMk
      go_upto_region 11 with fail
      go_cut [16, 17] from 60 to 67 (fun x y wx => x = .int .i64 xa ∧ ∃ g : Nat, y = .pointer (some ⟨g, 0, none⟩) ∧ Fg w5 (.slice A' k c') M g (sn xa f) wx)
      case first =>
        go_wp2_with fail
        refine wp_region_noPanic ?_
        have h0 : Below w5.heap.size w5 wo.drew := HW.out.drew
        have ho0 : OwnD wo.drew w5.heap.size (.slice A' k c') M := HO.out
        refine wp_region_held_drew (S := fun ww => Below w5.heap.size w5 ww) (by kernel_rfl) h0 (fun _ => ?_)
        generalize wo.drew = V0 at *
        refine tk_move 0 60 (.tmp 9) (.slice (some ⟨g1, 0, none⟩) 19 19) rfl (by kernel_rfl) (by kernel_rfl) (by kernel_rfl) (fun _ _ _ _ h => h) rfl rfl rfl rfl h0 ?_
        simp only [Act.put, List.setIfInBounds_toArray, List.set_cons_zero, List.set_cons_succ]
        refine tk_move 1 61 (.tmp 15) (.int .i64 k) rfl (by kernel_rfl) (by kernel_rfl) (by kernel_rfl) (fun _ _ _ _ h => h) rfl rfl rfl rfl h0 ?_
        simp only [Act.put, List.setIfInBounds_toArray, List.set_cons_zero, List.set_cons_succ]
        refine tk_val 2 62 (.pointer (some ⟨g1, 0 + k, none⟩)) rfl (by kernel_rfl) (by kernel_rfl) (by kernel_rfl) (fun _ _ _ _ h => h) rfl rfl (fun _ _ => ev_index_int (.tmp 60) (.tmp 61) g1 0 19 19 k rfl rfl rfl hlt) h0 ?_
        simp only [Act.put, List.setIfInBounds_toArray, List.set_cons_zero, List.set_cons_succ]
        refine tk_val 3 63 (.int .i64 (xa : Int)) rfl (by kernel_rfl) (by kernel_rfl) (by kernel_rfl) (fun _ _ _ _ h => h) rfl rfl (fun ww h => ev_load_int (.tmp 62) g1 (0 + k) _ rfl rfl (by rw [Nat.zero_add]; exact CA.out ww h)) h0 ?_
        simp only [Act.put, List.setIfInBounds_toArray, List.set_cons_zero, List.set_cons_succ]
        refine tk_move 4 64 (.tmp 12) (.slice (some ⟨ba, oa, none⟩) 19 c) rfl (by kernel_rfl) (by kernel_rfl) (by kernel_rfl) (fun _ _ _ _ h => h) rfl rfl rfl rfl h0 ?_
        simp only [Act.put, List.setIfInBounds_toArray, List.set_cons_zero, List.set_cons_succ]
        refine tk_move 5 65 (.tmp 15) (.int .i64 k) rfl (by kernel_rfl) (by kernel_rfl) (by kernel_rfl) (fun _ _ _ _ h => h) rfl rfl rfl rfl h0 ?_
        simp only [Act.put, List.setIfInBounds_toArray, List.set_cons_zero, List.set_cons_succ]
        refine tk_val 6 66 (.pointer (some ⟨ba, oa + k * 32, none⟩)) rfl (by kernel_rfl) (by kernel_rfl) (by kernel_rfl) (fun _ _ _ _ h => h) rfl rfl (fun _ _ => ev_index (.tmp 64) (.tmp 65) ba oa 19 c k rfl rfl rfl hlt) h0 ?_
        simp only [Act.put, List.setIfInBounds_toArray, List.set_cons_zero, List.set_cons_succ]
        refine tk_load 7 67 (.tmp 66) ba (oa + k * 32) (sn xa f) rfl (by kernel_rfl) (by kernel_rfl) (by kernel_rfl) (fun _ _ _ _ h => h) rfl rfl rfl rfl (fun ww h => RA.out ww h) (SN.out xa) h0 ?_
        simp only [Act.put, List.setIfInBounds_toArray, List.set_cons_zero, List.set_cons_succ]
        have hf0 := Fg.make h0 ho0
        refine lone 8 (by kernel_rfl) rfl (fun K hK => to_alloc 17 rfl rfl rfl (hK _ _ hf0.below ?_))
        simp only [Act.put, List.setIfInBounds_toArray, List.set_cons_zero, List.set_cons_succ]
        refine tk_assign 9 16 (.tmp 63) (.int .i64 (xa : Int)) rfl (by kernel_rfl) (by kernel_rfl) (by kernel_rfl) (fun _ _ _ _ h => h) rfl rfl rfl rfl hf0.below ?_
        simp only [Act.put, List.setIfInBounds_toArray, List.set_cons_zero, List.set_cons_succ]
        have hf1 := hf0.set (sn xa f)
        refine lone 10 (by kernel_rfl) rfl (fun K hK => to_store (.tmp 17) (.tmp 67) rfl rfl rfl _ _ (sn xa f) rfl rfl hf0.box (by simp [flb]) (SN.out xa) (hK _ _ hf1.below ?_))
        refine wpAnyH_done (by kernel_rfl) (NoPanic.normal ?_) _
        have H1 := Lib.hid hf1
        clear hf0 hf1 h0 ho0
        go_wp2_with fail
        go_meet
        exact ⟨rfl, _, rfl, H1.out⟩
      case rest =>
        obtain ⟨rfl, g, rfl, hfg⟩ := hcut
        have HF := Lib.hid hfg
        clear hfg
        obtain ⟨w7, hw7⟩ : ∃ w7 : World, w7 = wc := ⟨_, rfl⟩
        rw [← hw7] at HF ⊢
        clear hw7
        have cb := CB.out _ HF.out.below
        by_cases hba : xb < xa
        · go_wp2_with fail
          refine wp_region_noPanic ?_
          have h0 : Fg w5 (.slice A' k c') M g (sn xa f) w7.drew := ⟨HF.out.below.drew, HF.out.own, HF.out.box, HF.out.base, HF.out.apart⟩
          have hb0 := h0.below
          refine wp_region_held_drew (S := fun ww => Below w5.heap.size w5 ww) (by kernel_rfl) hb0 (fun _ => ?_)
          clear cb
          generalize w7.drew = V7 at *
          refine tk_move 0 74 (.tmp 10) (.slice (some ⟨g2, 0, none⟩) 19 19) rfl (by kernel_rfl) (by kernel_rfl) (by kernel_rfl) (fun _ _ _ _ h => h) rfl rfl rfl rfl hb0 ?_
          simp only [Act.put, List.setIfInBounds_toArray, List.set_cons_zero, List.set_cons_succ]
          refine tk_move 1 75 (.tmp 15) (.int .i64 k) rfl (by kernel_rfl) (by kernel_rfl) (by kernel_rfl) (fun _ _ _ _ h => h) rfl rfl rfl rfl hb0 ?_
          simp only [Act.put, List.setIfInBounds_toArray, List.set_cons_zero, List.set_cons_succ]
          refine tk_val 2 76 (.pointer (some ⟨g2, 0 + k, none⟩)) rfl (by kernel_rfl) (by kernel_rfl) (by kernel_rfl) (fun _ _ _ _ h => h) rfl rfl (fun _ _ => ev_index_int (.tmp 74) (.tmp 75) g2 0 19 19 k rfl rfl rfl hlt) hb0 ?_
          simp only [Act.put, List.setIfInBounds_toArray, List.set_cons_zero, List.set_cons_succ]
          refine tk_val 3 77 (.int .i64 (xb : Int)) rfl (by kernel_rfl) (by kernel_rfl) (by kernel_rfl) (fun _ _ _ _ h => h) rfl rfl (fun ww h => ev_load_int (.tmp 76) g2 (0 + k) _ rfl rfl (by rw [Nat.zero_add]; exact CB.out ww h)) hb0 ?_
          simp only [Act.put, List.setIfInBounds_toArray, List.set_cons_zero, List.set_cons_succ]
          refine tk_move 4 78 (.tmp 13) (.slice (some ⟨bb, ob, none⟩) 19 d) rfl (by kernel_rfl) (by kernel_rfl) (by kernel_rfl) (fun _ _ _ _ h => h) rfl rfl rfl rfl hb0 ?_
          simp only [Act.put, List.setIfInBounds_toArray, List.set_cons_zero, List.set_cons_succ]
          refine tk_move 5 79 (.tmp 15) (.int .i64 k) rfl (by kernel_rfl) (by kernel_rfl) (by kernel_rfl) (fun _ _ _ _ h => h) rfl rfl rfl rfl hb0 ?_
          simp only [Act.put, List.setIfInBounds_toArray, List.set_cons_zero, List.set_cons_succ]
          refine tk_val 6 80 (.pointer (some ⟨bb, ob + k * 32, none⟩)) rfl (by kernel_rfl) (by kernel_rfl) (by kernel_rfl) (fun _ _ _ _ h => h) rfl rfl (fun _ _ => ev_index (.tmp 78) (.tmp 79) bb ob 19 d k rfl rfl rfl hlt) hb0 ?_
          simp only [Act.put, List.setIfInBounds_toArray, List.set_cons_zero, List.set_cons_succ]
          refine tk_load 7 81 (.tmp 80) bb (ob + k * 32) (sn xb f) rfl (by kernel_rfl) (by kernel_rfl) (by kernel_rfl) (fun _ _ _ _ h => h) rfl rfl rfl rfl (fun ww h => RB.out ww h) (SN.out xb) hb0 ?_
          simp only [Act.put, List.setIfInBounds_toArray, List.set_cons_zero, List.set_cons_succ]
          refine tk_assign 8 16 (.tmp 77) (.int .i64 (xb : Int)) rfl (by kernel_rfl) (by kernel_rfl) (by kernel_rfl) (fun _ _ _ _ h => h) rfl rfl rfl rfl hb0 ?_
          simp only [Act.put, List.setIfInBounds_toArray, List.set_cons_zero, List.set_cons_succ]
          have h1 := h0.set (sn xb f)
          refine lone 9 (by kernel_rfl) rfl (fun K hK => to_store (.tmp 17) (.tmp 81) rfl rfl rfl _ _ (sn xb f) rfl rfl h0.box (SN.out xa) (SN.out xb) (hK _ _ h1.below ?_))
          refine wpAnyH_done (by kernel_rfl) (NoPanic.normal ?_) _
          have HF2 := Lib.hid h1
          clear h0 h1 hb0 HF
          simp only [Nat.zero_add]
          obtain ⟨W8, hW8⟩ : ∃ W8, W8 = V7.setRow g (U (sn xb f)).toArray := ⟨_, rfl⟩
          rw [← hW8] at HF2 ⊢
          clear hW8
          have cq := CQ.out _ HF2.out.below
          by_cases hqm : xq < xb
          · have HX := Lib.hid (K6.out _ HF2.out.below).2.2.2.2.2.2.2.2
            go_wp2_with fail
            go_ret
            exact ⟨rfl, HX.out⟩
          have hmq : xb ≤ xq := by omega
          obtain ⟨w8, hw8⟩ : ∃ w8 : World, w8 = W8 := ⟨_, rfl⟩
          rw [← hw8] at HF2 cq ⊢
          clear hw8
          go_wp2_with fail
          clear cq
          go_loopw [16] (fun x wq => ∃ j : Nat, x = .int .i64 j ∧ xb ≤ j ∧ j ≤ xq ∧ Hid (Fg w5 (.slice A' k c') M g (sn j f) wq)) (fun x _ => 4 - (intOf x).toNat)
          case atStart => exact ⟨xb, rfl, Nat.le_refl _, hmq, HF2⟩
          case round =>
            obtain ⟨j, rfl, hj1, hj2, HQQ⟩ := hrel
            have cq := CQ.out _ HQQ.out.below
            by_cases hjx : j < xq
            · have rp := HQQ.out.box
              have hst := HQQ.out
              go_wp2_with (refine load_B rfl (.tmp 17) rfl g rfl 23 (sn j f) rp (SN.out j) ?_)
              refine (step_all (sn j f) wr (SN.out j) (K6.out _ hst.below).2.2.2.2.2.2.2.1).mono ?_
              rintro e w9 ⟨rfl, hb9⟩
              have hst9 := hst.step hb9
              have rp9 := hst9.box
              have H9 := Lib.hid (hst9.set (sn (j + 1) f))
              clear hst hst9 hb9 rp cq
              go_wp2_with (refine store_B rfl (.tmp 17) (.tmp 97) rfl g (sn j f) (sn (j + 1) f) rfl rfl 23 rp9 (SN.out (j + 1)) (SN.out j) ?_)
              go_roundw
              case rel => exact ⟨j + 1, rfl, by omega, by omega, H9⟩
              case measure => simp [intOf]; omega
            · have hjq : j = xq := by omega
              rw [hjq] at HQQ ⊢
              clear hjq hjx hj1 hj2
              have rp := HQQ.out.box
              have hzb := HQQ.out.below.size
              have HOA := Lib.hid (HQQ.out.own.alloc (.cells (U (sn xq f)).toArray 23))
              have HSRC := Lib.hid (show RowB (wr.alloc (.cells (U (sn xq f)).toArray 23)) wr.heap.size 23 (sn xq f) from heap_alloc_new wr _)
              have HBW := Lib.hid HQQ.out.below
              go_wp2_with (first
                | (refine load_B rfl (.tmp 17) rfl g rfl 23 (sn xq f) rp (SN.out xq) ?_)
                | (refine bs_dig rfl (.tmp 99) rfl (sn xq f) rfl (SN.out xq) ?_)
                | (at_builtin; refine app_dig rfl (.tmp 98) (.tmp 100) rfl w5.heap.size wr.heap.size _ M (sn xq f) rfl rfl HOA.out HSRC.out (SN.out xq) (by rw [HTL.out]; omega) (by simp; omega) ?_; intro v10 w10 ho10 hg10; obtain ⟨A10, c10, e10⟩ := ho10.slice; rw [List.length_append, HTL.out] at e10; subst e10; have HO10 := Lib.hid ho10; have HB10 := Lib.hid (below_ownD (HBW.out.alloc hzb _) hg10 HOA.out (Nat.le_refl _) (by simp; omega)); clear ho10 hg10))
              go_roundw
              case rel => exact ⟨k + 1, A10, c10, rfl, rfl, by omega, HB10, Lib.hid (by rw [HT.out]; exact HO10.out)⟩
              case measure => simp [intOf]; omega
        · have cq := CQ.out _ HF.out.below
          by_cases hqm : xq < xa
          · have HX := Lib.hid (K6.out _ HF.out.below).2.2.2.2.2.2.2.2
            go_wp2_with fail
            go_ret
            exact ⟨rfl, HX.out⟩
          have hmq : xa ≤ xq := by omega
          obtain ⟨w8, hw8⟩ : ∃ w8 : World, w8 = w7 := ⟨_, rfl⟩
          rw [← hw8] at HF cq cb ⊢
          clear hw8
          go_wp2_with fail
          clear cq cb
          go_loopw [16] (fun x wq => ∃ j : Nat, x = .int .i64 j ∧ xa ≤ j ∧ j ≤ xq ∧ Hid (Fg w5 (.slice A' k c') M g (sn j f) wq)) (fun x _ => 4 - (intOf x).toNat)
          case atStart => exact ⟨xa, rfl, Nat.le_refl _, hmq, HF⟩
          case round =>
            obtain ⟨j, rfl, hj1, hj2, HQQ⟩ := hrel
            have cq := CQ.out _ HQQ.out.below
            by_cases hjx : j < xq
            · have rp := HQQ.out.box
              have hst := HQQ.out
              go_wp2_with (refine load_B rfl (.tmp 17) rfl g rfl 23 (sn j f) rp (SN.out j) ?_)
              refine (step_all (sn j f) wr (SN.out j) (K6.out _ hst.below).2.2.2.2.2.2.2.1).mono ?_
              rintro e w9 ⟨rfl, hb9⟩
              have hst9 := hst.step hb9
              have rp9 := hst9.box
              have H9 := Lib.hid (hst9.set (sn (j + 1) f))
              clear hst hst9 hb9 rp cq
              go_wp2_with (refine store_B rfl (.tmp 17) (.tmp 97) rfl g (sn j f) (sn (j + 1) f) rfl rfl 23 rp9 (SN.out (j + 1)) (SN.out j) ?_)
              go_roundw
              case rel => exact ⟨j + 1, rfl, by omega, by omega, H9⟩
              case measure => simp [intOf]; omega
            · have hjq : j = xq := by omega
              rw [hjq] at HQQ ⊢
              clear hjq hjx hj1 hj2
              have rp := HQQ.out.box
              have hzb := HQQ.out.below.size
              have HOA := Lib.hid (HQQ.out.own.alloc (.cells (U (sn xq f)).toArray 23))
              have HSRC := Lib.hid (show RowB (wr.alloc (.cells (U (sn xq f)).toArray 23)) wr.heap.size 23 (sn xq f) from heap_alloc_new wr _)
              have HBW := Lib.hid HQQ.out.below
              go_wp2_with (first
                | (refine load_B rfl (.tmp 17) rfl g rfl 23 (sn xq f) rp (SN.out xq) ?_)
                | (refine bs_dig rfl (.tmp 99) rfl (sn xq f) rfl (SN.out xq) ?_)
                | (at_builtin; refine app_dig rfl (.tmp 98) (.tmp 100) rfl w5.heap.size wr.heap.size _ M (sn xq f) rfl rfl HOA.out HSRC.out (SN.out xq) (by rw [HTL.out]; omega) (by simp; omega) ?_; intro v10 w10 ho10 hg10; obtain ⟨A10, c10, e10⟩ := ho10.slice; rw [List.length_append, HTL.out] at e10; subst e10; have HO10 := Lib.hid ho10; have HB10 := Lib.hid (below_ownD (HBW.out.alloc hzb _) hg10 HOA.out (Nat.le_refl _) (by simp; omega)); clear ho10 hg10))
              go_roundw
              case rel => exact ⟨k + 1, A10, c10, rfl, rfl, by omega, HB10, Lib.hid (by rw [HT.out]; exact HO10.out)⟩
              case measure => simp [intOf]; omega
    · obtain rfl : k = 19 := by omega
      have HT := Lib.hid (show (sgn s q).take 19 = sgn s q by rw [List.take_of_length_le (by rw [sgn_len]; omega)])
      rw [HT.out] at HO
      go_wp2_with fail
      have hb0 : Below w5.heap.size w5 wr.drew := HW.out.drew
      have HL := Lib.hid (show DL wr.drew (· < wr.drew.heap.size) (sgn s q) A' c' from HO.out.dlw (sgn_len s q))
      refine wp_region_noPanic ?_
      refine wp_region_held_drew (S := fun ww => Below w5.heap.size w5 ww) (by kernel_rfl) hb0 (fun _ => ?_)
      generalize wr.drew = V9 at *
      refine tk_load 0 103 (.tmp 4) w.heap.size (0) s rfl (by kernel_rfl) (by kernel_rfl) (by kernel_rfl) (fun _ _ _ _ h => h) rfl rfl rfl rfl (fun ww h => (K6.out ww h).2.2.2.2.2.1.range) HS.out hb0 ?_
      simp only [Act.put, List.setIfInBounds_toArray, List.set_cons_zero, List.set_cons_succ]
      refine tk_load 2 105 (.tmp 7) (w.heap.size + 3) (0) q rfl (by kernel_rfl) (by kernel_rfl) (by kernel_rfl) (fun _ _ _ _ h => h) rfl rfl rfl rfl (fun ww h => (K6.out ww h).2.2.2.2.2.2.1.range) HQ.out hb0 ?_
      simp only [Act.put, List.setIfInBounds_toArray, List.set_cons_zero, List.set_cons_succ]
      refine tk_move 3 106 (.tmp 14) (.slice A' 19 c') rfl (by kernel_rfl) (by kernel_rfl) (by kernel_rfl) (fun _ _ _ _ h => h) rfl rfl rfl rfl hb0 ?_
      simp only [Act.put, List.setIfInBounds_toArray, List.set_cons_zero, List.set_cons_succ]
      have STEP5 := Lib.hid (show ∀ ww w', Below w5.heap.size w5 ww → Below ww.heap.size ww w' → Below w5.heap.size w5 w' from fun ww w' h1 h2 => h1.trans (h2.mono h1.size))
      refine lone 1 (by kernel_rfl) rfl (fun K hK => to_call 18 104 _ _ #[.agg (U s).toArray] _ rfl rfl rfl rfl enters_Public (Public_all s V9 HS.out (K6.out _ hb0).2.2.2.2.2.2.2.1) (fun e w10 hq => ?_))
      refine ⟨_, hq.1, ?_⟩
      have h10 := STEP5.out _ _ hb0 hq.2
      have HL10 := Lib.hid (HL.out.keep (w' := w10) (S' := (· < w10.heap.size)) fun i hi => ⟨Nat.lt_of_lt_of_le hi hq.2.size, hq.2.block i hi⟩)
      refine hK _ _ h10 ?_
      simp only [Act.put, List.setIfInBounds_toArray, List.set_cons_zero, List.set_cons_succ]
      clear hK hq
      have C := Verify_yes (pubF s) q (sgn s q) A' c' w10 (pubF_len s) HQ.out (sgn_len s q) HL10.out (K6.out _ h10).2.2.2.2.2.2.2.1
      rw [decide_eq_true (recF_sgn s q)] at C
      refine lone 4 (by kernel_rfl) rfl (fun K hK => to_call 23 107 _ _ #[.agg (U (pubF s)).toArray, .agg (U q).toArray, .slice A' 19 c'] _ rfl rfl rfl rfl enters_Verify (C) (fun e w11 hq => ?_))
      refine ⟨_, hq.1, ?_⟩
      have h11 := STEP5.out _ _ h10 hq.2
      refine hK _ _ h11 ?_
      simp only [Act.put, List.setIfInBounds_toArray, List.set_cons_zero, List.set_cons_succ]
      clear hK hq
      refine tk_assign 5 8 (.tmp 107) (.bool true) rfl (by kernel_rfl) (by kernel_rfl) (by kernel_rfl) (fun _ _ _ _ h => h) rfl rfl rfl rfl h11 ?_
      simp only [Act.put, List.setIfInBounds_toArray, List.set_cons_zero, List.set_cons_succ]
      refine wpAnyH_done (by kernel_rfl) (NoPanic.normal ?_) _
      have HX := Lib.hid h11
      clear h11 h10 hb0 C
      go_wp2_with fail
      go_ret
      exact ⟨rfl, (K6.out _ HX.out).2.2.2.2.2.2.2.2⟩
end Go.Proofs.YtllkkafajchioaaDoor
