/- Chains: ChainsOnly's walk. -/
import Derived.Test.YtllkkafajchioaaDoorZB
namespace Go.Proofs.YtllkkafajchioaaDoor
open Go.RowKit

theorem ends_cut (L M : List (List UInt8)) (D : List Nat) (k d : Nat) (x y : List UInt8) (hk : k < 19) (hd : D[k]? = some d) (hx : L[k]? = some x) (hy : M[k]? = some y) (h : rc L D 19 = rc M D 19) : sn d x = sn d y := by
  have h1 := rc_get L D k 19 d x hk hd hx
  have h2 := rc_get M D k 19 d y hk hd hy
  rw [h, h2] at h1
  injection h1 with h1
  exact h1.symm

set_option maxRecDepth 100000 in
set_option maxHeartbeats 6400000 in
theorem only_main (p m : List UInt8) (L M : List (List UInt8)) (A B : Option Addr) (c d : Nat) (w : World) (hp : p.length = 32) (hm : m.length = 32) (hL : L.length = 19) (hM : M.length = 19) (hl : DL w (· < w.heap.size) L A c) (hn : DL w (· < w.heap.size) M B d)
    (hr1 : recF m L = p) (hr2 : recF m M = p) (hk : KR w Kt) :
    Calls Tryd.prog 8 #[.agg (U p).toArray, .agg (U m).toArray, .slice A 19 c, .slice B 19 d] w fun e w' => e = .returned (.bool true) ∧ Below w.heap.size w w' := by
  have HP := Lib.hid hp
  have HM := Lib.hid hm
  have LL := Lib.hid hL
  have LM := Lib.hid hM
  have HL := Lib.hid hl
  have HN := Lib.hid hn
  have HR1 := Lib.hid hr1
  have HR2 := Lib.hid hr2
  have HK := Lib.hid hk
  have hlt0 := hk.lt
  have hcA := hl.1
  have hmA : c ≤ 9223372036854775807 := hl.2.1
  have hcB := hn.1
  have hmB : d ≤ 9223372036854775807 := hn.2.1
  rw [hL] at hcA
  rw [hM] at hcB
  clear hp hm hL hM hl hn hr1 hr2 hk
  go_enter Tryd.func8, Tryd.ntmps8
  go_wp2_with fail
  generalize hW1 : (w.alloc _).alloc _ = W1
  obtain ⟨h0, h1, hb1, hz1⟩ := box2 w (U p).toArray (U m).toArray 23 23 W1 hW1
  clear hW1
  have KE := Lib.hid (show ∀ ww, Below W1.heap.size W1 ww → RowB ww w.heap.size 23 p ∧ RowB ww (w.heap.size + 1) 23 m ∧ DL ww (· < W1.heap.size) L A c ∧ DL ww (· < W1.heap.size) M B d ∧ KR ww Kt ∧ Below w.heap.size w ww from fun ww h => by
    have hw1 : Below w.heap.size w ww := hb1.trans (h.mono (by omega))
    exact ⟨(h.block _ (by omega)).trans h0, (h.block _ (by omega)).trans h1, HL.out.keep fun i hi => ⟨by omega, hw1.block i hi⟩, HN.out.keep fun i hi => ⟨by omega, hw1.block i hi⟩, HK.out.keep (hw1.block 0 hlt0), hw1⟩)
  have STEP := Lib.hid (show ∀ ww w', Below W1.heap.size W1 ww → Below ww.heap.size ww w' → Below W1.heap.size W1 w' from fun ww w' h1 h2 => h1.trans (h2.mono h1.size))
  have CV1 := Lib.hid (show ∀ ww, Below W1.heap.size W1 ww → Calls Tryd.prog 23 #[.agg (U p).toArray, .agg (U m).toArray, .slice A 19 c] ww fun e w' => e = .returned (.bool true) ∧ Below ww.heap.size ww w' from fun ww h => by
    have C := Verify_yes p m L A c ww HP.out HM.out LL.out ((KE.out ww h).2.2.1.low fun i hi => Nat.lt_of_lt_of_le hi h.size) (KE.out ww h).2.2.2.2.1
    rwa [decide_eq_true HR1.out] at C)
  have CV2 := Lib.hid (show ∀ ww, Below W1.heap.size W1 ww → Calls Tryd.prog 23 #[.agg (U p).toArray, .agg (U m).toArray, .slice B 19 d] ww fun e w' => e = .returned (.bool true) ∧ Below ww.heap.size ww w' from fun ww h => by
    have C := Verify_yes p m M B d ww HP.out HM.out LM.out ((KE.out ww h).2.2.2.1.low fun i hi => Nat.lt_of_lt_of_le hi h.size) (KE.out ww h).2.2.2.2.1
    rwa [decide_eq_true HR2.out] at C)
  refine (sane_all W1 (HK.out.keep (hb1.block 0 hlt0))).mono ?_
  rintro e w1 ⟨rfl, hb⟩
  have HB1 := Lib.hid hb
  clear hb hb1 hz1 h0 h1
  have rp := (KE.out _ HB1.out).1
  have rm := (KE.out _ HB1.out).2.1
  go_wp2_with (first | (refine load_Bw rfl (.tmp 4) rfl w.heap.size rfl 23 p rp HP.out ?_) | (refine load_Bw rfl (.tmp 5) rfl (w.heap.size + 1) rfl 23 m rm HM.out ?_))
  refine (CV1.out _ HB1.out).mono ?_
  rintro e w2 ⟨rfl, hb⟩
  have HB2 := Lib.hid (STEP.out _ _ HB1.out hb)
  clear hb rp rm HB1
  have rp := (KE.out _ HB2.out).1
  have rm := (KE.out _ HB2.out).2.1
  go_wp2_with (first | (refine load_Bw rfl (.tmp 4) rfl w.heap.size rfl 23 p rp HP.out ?_) | (refine load_Bw rfl (.tmp 5) rfl (w.heap.size + 1) rfl 23 m rm HM.out ?_))
  refine (CV2.out _ HB2.out).mono ?_
  rintro e w3 ⟨rfl, hb⟩
  have HB3 := Lib.hid (STEP.out _ _ HB2.out hb)
  clear hb rp rm HB2 CV1 CV2
  have rm := (KE.out _ HB3.out).2.1
  go_wp2_with (refine load_B rfl (.tmp 5) rfl (w.heap.size + 1) rfl 23 m rm HM.out ?_)
  refine (Digits_all m w3 HM.out).mono ?_
  rintro e w4 ⟨gd, rfl, k2, _, k4⟩
  have HB4 := Lib.hid (STEP.out _ _ HB3.out k4)
  have HD4 := Lib.hid k2
  clear k2 k4 rm HB3
  have C := rSame_all L M A c B d w4 ((KE.out _ HB4.out).2.2.1.low fun i hi => Nat.lt_of_lt_of_le hi HB4.out.size) ((KE.out _ HB4.out).2.2.2.1.low fun i hi => Nat.lt_of_lt_of_le hi HB4.out.size) (by rw [LL.out]; omega) (by rw [LM.out]; omega)
  rw [LL.out, LM.out] at C
  have CC := Lib.hid C
  clear C
  go_wp2_with fail
  refine CC.out.mono ?_
  rintro e w5 ⟨rfl, hb⟩
  have HB5 := Lib.hid (STEP.out _ _ HB4.out hb)
  have HD5 := Lib.hid (HD4.out.keep (hb.block _ HD4.out.lt))
  clear hb HB4 HD4 CC
  by_cases hne : L = M
  · rw [decide_eq_true hne]
    go_wp2_with fail
    go_ret
    exact ⟨rfl, (KE.out _ HB5.out).2.2.2.2.2⟩
  rw [decide_eq_false hne]
  have HNE := Lib.hid hne
  clear hne
  go_wp2_with fail
  have h0 : Below W1.heap.size W1 w5.drew := HB5.out.drew
  have HD6 := Lib.hid (show RowN w5.drew gd 47 (dgl m) from HD5.out)
  clear HD5
  refine wp_region_noPanic ?_
  refine wp_region_held_drew (S := fun ww => Below W1.heap.size W1 ww) (by kernel_rfl) h0 (fun _ => ?_)
  refine tk_load 0 64 (.tmp 5) (w.heap.size + 1) (0) m rfl (by kernel_rfl) (by kernel_rfl) (by kernel_rfl) (fun _ _ _ _ h => h) rfl rfl rfl rfl (fun ww h => (KE.out ww h).2.1.range) HM.out h0 ?_
  simp only [Act.put, List.setIfInBounds_toArray, List.set_cons_zero, List.set_cons_succ]
  refine tk_move 1 65 (.tmp 2) (.slice A 19 c) rfl (by kernel_rfl) (by kernel_rfl) (by kernel_rfl) (fun _ _ _ _ h => h) rfl rfl rfl rfl h0 ?_
  simp only [Act.put, List.setIfInBounds_toArray, List.set_cons_zero, List.set_cons_succ]
  refine tk_load 3 67 (.tmp 5) (w.heap.size + 1) (0) m rfl (by kernel_rfl) (by kernel_rfl) (by kernel_rfl) (fun _ _ _ _ h => h) rfl rfl rfl rfl (fun ww h => (KE.out ww h).2.1.range) HM.out h0 ?_
  simp only [Act.put, List.setIfInBounds_toArray, List.set_cons_zero, List.set_cons_succ]
  refine tk_move 4 68 (.tmp 3) (.slice B 19 d) rfl (by kernel_rfl) (by kernel_rfl) (by kernel_rfl) (fun _ _ _ _ h => h) rfl rfl rfl rfl h0 ?_
  simp only [Act.put, List.setIfInBounds_toArray, List.set_cons_zero, List.set_cons_succ]
  generalize w5.drew = V0 at *
  refine lone 2 (by kernel_rfl) rfl (fun K hK => to_call 26 66 _ _ #[.agg (U m).toArray, .slice A 19 c] _ rfl rfl rfl rfl enters_ends (ends_all m L A c V0 HM.out LL.out ((KE.out _ h0).2.2.1.low fun i hi => Nat.lt_of_lt_of_le hi h0.size) (KE.out _ h0).2.2.2.2.1) (fun e w6 hq => ?_))
  obtain ⟨vw6, kw61, kw62, kw63⟩ := hq
  obtain ⟨A1, c1, rfl⟩ := kw62.slice
  rw [rc_len] at kw61 kw62
  have HLw6 := Lib.hid (kw62.dlw (rc_len _ _ _))
  refine ⟨_, kw61, ?_⟩
  have h6 := STEP.out _ _ h0 kw63
  refine hK _ _ h6 ?_
  simp only [Act.put, List.setIfInBounds_toArray, List.set_cons_zero, List.set_cons_succ]
  clear hK
  refine lone 5 (by kernel_rfl) rfl (fun K hK => to_call 26 69 _ _ #[.agg (U m).toArray, .slice B 19 d] _ rfl rfl rfl rfl enters_ends (ends_all m M B d w6 HM.out LM.out ((KE.out _ h6).2.2.2.1.low fun i hi => Nat.lt_of_lt_of_le hi h6.size) (KE.out _ h6).2.2.2.2.1) (fun e w7 hq => ?_))
  obtain ⟨vw7, kw71, kw72, kw73⟩ := hq
  obtain ⟨B1, d1, rfl⟩ := kw72.slice
  rw [rc_len] at kw71 kw72
  have HLw7 := Lib.hid (kw72.dlw (rc_len _ _ _))
  refine ⟨_, kw71, ?_⟩
  have h7 := STEP.out _ _ h6 kw73
  refine hK _ _ h7 ?_
  simp only [Act.put, List.setIfInBounds_toArray, List.set_cons_zero, List.set_cons_succ]
  clear hK
  refine tk_assign 6 10 (.tmp 66) (.slice A1 19 c1) rfl (by kernel_rfl) (by kernel_rfl) (by kernel_rfl) (fun _ _ _ _ h => h) rfl rfl rfl rfl h7 ?_
  simp only [Act.put, List.setIfInBounds_toArray, List.set_cons_zero, List.set_cons_succ]
  refine tk_assign 7 11 (.tmp 69) (.slice B1 19 d1) rfl (by kernel_rfl) (by kernel_rfl) (by kernel_rfl) (fun _ _ _ _ h => h) rfl rfl rfl rfl h7 ?_
  simp only [Act.put, List.setIfInBounds_toArray, List.set_cons_zero, List.set_cons_succ]
  refine wpAnyH_done (by kernel_rfl) (NoPanic.normal ?_) _
  have K7 := Lib.hid (show ∀ ww, Below w7.heap.size w7 ww → RowN ww gd 47 (dgl m) ∧ DL ww (· < w7.heap.size) L A c ∧ DL ww (· < w7.heap.size) M B d ∧ DL ww (· < w7.heap.size) (rc L (lft (dgl m)) 19) A1 c1 ∧ DL ww (· < w7.heap.size) (rc M (lft (dgl m)) 19) B1 d1 ∧ KR ww Kt ∧ Below w.heap.size w ww from fun ww h => by
    have m1 := KE.out ww (STEP.out _ _ h7 h)
    have z6 := kw63.size
    have z7 := kw73.size
    have l1 := HD6.out.lt
    have z1 := h7.size
    exact ⟨((HD6.out.keep (kw63.block _ l1)).keep (kw73.block _ (by omega))).keep (h.block _ (by omega)), m1.2.2.1.low fun i hi => Nat.lt_of_lt_of_le hi z1, m1.2.2.2.1.low fun i hi => Nat.lt_of_lt_of_le hi z1,
      HLw6.out.keep fun i hi => ⟨by omega, (h.block i (by omega)).trans (kw73.block i hi)⟩, HLw7.out.keep fun i hi => ⟨hi, h.block i hi⟩, m1.2.2.2.2⟩)
  clear h7 h6 h0 kw62 kw63 kw72 kw73 HLw6 HLw7 HD6
  have hc1 := (K7.out _ (Below.refl _ _)).2.2.2.1.1
  have hm1 : c1 ≤ 9223372036854775807 := (K7.out _ (Below.refl _ _)).2.2.2.1.2.1
  have hd1 := (K7.out _ (Below.refl _ _)).2.2.2.2.1.1
  have hm2 : d1 ≤ 9223372036854775807 := (K7.out _ (Below.refl _ _)).2.2.2.2.1.2.1
  rw [rc_len] at hc1 hd1
  have C := rSame_all (rc L (lft (dgl m)) 19) (rc M (lft (dgl m)) 19) A1 c1 B1 d1 w7 (K7.out _ (Below.refl _ _)).2.2.2.1 (K7.out _ (Below.refl _ _)).2.2.2.2.1 (by rw [rc_len]; omega) (by rw [rc_len]; omega)
  rw [rc_len, rc_len] at C
  have CC := Lib.hid C
  clear C
  go_wp2_with fail
  refine CC.out.mono ?_
  rintro e w8 ⟨rfl, hb⟩
  have HB8 := Lib.hid hb
  clear hb CC
  by_cases hE : rc L (lft (dgl m)) 19 = rc M (lft (dgl m)) 19
  · rw [decide_eq_true hE]
    have HE := Lib.hid hE
    clear hE
    have DM := Lib.hid (dgl_len m)
    have D3 := Lib.hid (dgl_le m)
    obtain ⟨ba, oa, rfl, _, _⟩ := (K7.out _ (Below.refl _ _)).2.1.2.2.2.2 (by rw [LL.out]; omega)
    obtain ⟨bb, ob, rfl, _, _⟩ := (K7.out _ (Below.refl _ _)).2.2.1.2.2.2.2 (by rw [LM.out]; omega)
    go_wp2_with fail
    go_loopw [99] (fun x wr => ∃ k : Nat, k ≤ 19 ∧ x = .int .i64 k ∧ Hid (Below w7.heap.size w7 wr) ∧ Hid (L.take k = M.take k)) (fun x _ => 19 - (intOf x).toNat)
    case atStart => exact ⟨0, by omega, rfl, HB8, Lib.hid rfl⟩
    case round =>
      obtain ⟨k, hk, rfl, HW, HT⟩ := hrel
      by_cases hlt : k < 19
      · obtain ⟨wo, hwo⟩ : ∃ wo : World, wo = wr := ⟨_, rfl⟩
        rw [← hwo] at HW ⊢
        clear hwo
        obtain ⟨n, hn⟩ : ∃ x, (dgl m)[k]? = some x := ⟨_, List.getElem?_eq_getElem (by rw [DM.out]; exact hlt)⟩
        obtain ⟨x, hx⟩ : ∃ x, L[k]? = some x := ⟨_, List.getElem?_eq_getElem (by rw [LL.out]; exact hlt)⟩
        obtain ⟨y, hy⟩ : ∃ x, M[k]? = some x := ⟨_, List.getElem?_eq_getElem (by rw [LM.out]; exact hlt)⟩
        have hn3 := D3.out n (List.mem_of_getElem? hn)
        have CD := Lib.hid (show ∀ ww, Below w7.heap.size w7 ww → ww.cell? ⟨gd, k, none⟩ = some (.int .i64 (n : Int)) from fun ww h => (K7.out ww h).1.cell hn)
        have RA := Lib.hid (show ∀ ww, Below w7.heap.size w7 ww → ww.rangeAt ba (oa + k * 32) (U x) from fun ww h => by
          obtain ⟨b', o', e, _, hc⟩ := (K7.out ww h).2.1.2.2.2.2 (by rw [LL.out]; omega)
          injection e with e
          injection e with e1 e2
          subst e1 e2
          exact hc k _ hx)
        have RB := Lib.hid (show ∀ ww, Below w7.heap.size w7 ww → ww.rangeAt bb (ob + k * 32) (U y) from fun ww h => by
          obtain ⟨b', o', e, _, hc⟩ := (K7.out ww h).2.2.1.2.2.2.2 (by rw [LM.out]; omega)
          injection e with e
          injection e with e1 e2
          subst e1 e2
          exact hc k _ hy)
        have SX := Lib.hid (show ∀ j, (sn j x).length = 32 from fun j => sn_len j _ (HL.out.2.2.2.1 x (List.mem_of_getElem? hx)))
        have SY := Lib.hid (show ∀ j, (sn j y).length = 32 from fun j => sn_len j _ (HN.out.2.2.2.1 y (List.mem_of_getElem? hy)))
        have HCUT := Lib.hid (ends_cut L M (lft (dgl m)) k (3 - n) x y hlt (lft_at _ k n hn) hx hy HE.out)
        have HTS := Lib.hid (show x = y → L.take (k + 1) = M.take (k + 1) from fun e => take_eq_step L M k x HT.out hx (by rw [e]; exact hy))
        have bk : (k : Int) < 19 := by omega
        clear hx hy hn
        go_upto_region 22 with fail
        go_cut [16, 17] from 102 to 109 (fun a b wx => ∃ gp gq : Nat, a = .pointer (some ⟨gp, 0, none⟩) ∧ b = .pointer (some ⟨gq, 0, none⟩) ∧ St w7 (some (gp, x)) (some (gq, y)) wx)
        case first =>
          go_wp2_with fail
          refine wp_region_noPanic ?_
          have h0 : Below w7.heap.size w7 wo.drew := HW.out.drew
          refine wp_region_held_drew (S := fun ww => Below w7.heap.size w7 ww) (by kernel_rfl) h0 (fun _ => ?_)
          generalize wo.drew = V0 at *
          refine tk_move 0 102 (.tmp 2) (.slice (some ⟨ba, oa, none⟩) 19 c) rfl (by kernel_rfl) (by kernel_rfl) (by kernel_rfl) (fun _ _ _ _ h => h) rfl rfl rfl rfl h0 ?_
          simp only [Act.put, List.setIfInBounds_toArray, List.set_cons_zero, List.set_cons_succ]
          refine tk_move 1 103 (.tmp 15) (.int .i64 k) rfl (by kernel_rfl) (by kernel_rfl) (by kernel_rfl) (fun _ _ _ _ h => h) rfl rfl rfl rfl h0 ?_
          simp only [Act.put, List.setIfInBounds_toArray, List.set_cons_zero, List.set_cons_succ]
          refine tk_val 2 104 (.pointer (some ⟨ba, oa + k * 32, none⟩)) rfl (by kernel_rfl) (by kernel_rfl) (by kernel_rfl) (fun _ _ _ _ h => h) rfl rfl (fun _ _ => ev_index (.tmp 102) (.tmp 103) ba oa 19 c k rfl rfl rfl hlt) h0 ?_
          simp only [Act.put, List.setIfInBounds_toArray, List.set_cons_zero, List.set_cons_succ]
          refine tk_load 3 105 (.tmp 104) ba (oa + k * 32) x rfl (by kernel_rfl) (by kernel_rfl) (by kernel_rfl) (fun _ _ _ _ h => h) rfl rfl rfl rfl (fun ww h => RA.out ww h) (SX.out 0) h0 ?_
          simp only [Act.put, List.setIfInBounds_toArray, List.set_cons_zero, List.set_cons_succ]
          refine tk_move 4 106 (.tmp 3) (.slice (some ⟨bb, ob, none⟩) 19 d) rfl (by kernel_rfl) (by kernel_rfl) (by kernel_rfl) (fun _ _ _ _ h => h) rfl rfl rfl rfl h0 ?_
          simp only [Act.put, List.setIfInBounds_toArray, List.set_cons_zero, List.set_cons_succ]
          refine tk_move 5 107 (.tmp 15) (.int .i64 k) rfl (by kernel_rfl) (by kernel_rfl) (by kernel_rfl) (fun _ _ _ _ h => h) rfl rfl rfl rfl h0 ?_
          simp only [Act.put, List.setIfInBounds_toArray, List.set_cons_zero, List.set_cons_succ]
          refine tk_val 6 108 (.pointer (some ⟨bb, ob + k * 32, none⟩)) rfl (by kernel_rfl) (by kernel_rfl) (by kernel_rfl) (fun _ _ _ _ h => h) rfl rfl (fun _ _ => ev_index (.tmp 106) (.tmp 107) bb ob 19 d k rfl rfl rfl hlt) h0 ?_
          simp only [Act.put, List.setIfInBounds_toArray, List.set_cons_zero, List.set_cons_succ]
          refine tk_load 7 109 (.tmp 108) bb (ob + k * 32) y rfl (by kernel_rfl) (by kernel_rfl) (by kernel_rfl) (fun _ _ _ _ h => h) rfl rfl rfl rfl (fun ww h => RB.out ww h) (SY.out 0) h0 ?_
          simp only [Act.put, List.setIfInBounds_toArray, List.set_cons_zero, List.set_cons_succ]
          have hst : St w7 none none V0 := ⟨h0, (fun _ _ e => by cases e), (fun _ _ e => by cases e), (fun _ _ _ _ e _ => by cases e)⟩
          refine wpAnyH_ready (rs := [8, 9]) (by kernel_rfl) (by simp) ?_
          refine AllReadyH.cons (o := _) rfl (fun K hK => ?_) (AllReadyH.cons (o := _) rfl (fun K hK => ?_) AllReadyH.nil)
          · have h1 := hst.new1
            refine to_alloc 16 rfl rfl rfl (hK.out _ _ h1.below fun _ => ?_)
            simp only [Act.put, List.setIfInBounds_toArray, List.set_cons_zero, List.set_cons_succ]
            clear hK
            refine lone 9 (by kernel_rfl) rfl (fun K hK => ?_)
            have h2 := h1.new2
            refine to_alloc 17 rfl rfl rfl (hK _ _ h2.below ?_)
            simp only [Act.put, List.setIfInBounds_toArray, List.set_cons_zero, List.set_cons_succ]
            clear hK
            refine lone 10 (by kernel_rfl) rfl (fun K hK => ?_)
            have h3 := h2.set1 x
            refine to_store (.tmp 16) (.tmp 105) rfl rfl rfl _ _ x rfl rfl (h2.one _ _ rfl).1 (by simp [flb]) (SX.out 0) (hK _ _ h3.below ?_)
            clear hK
            refine lone 11 (by kernel_rfl) rfl (fun K hK => ?_)
            have h4 := h3.set2 y
            refine to_store (.tmp 17) (.tmp 109) rfl rfl rfl _ _ y rfl rfl (h3.two _ _ rfl).1 (by simp [flb]) (SY.out 0) (hK _ _ h4.below ?_)
            clear hK
            refine wpAnyH_done (by kernel_rfl) (NoPanic.normal ?_) _
            have H4 := Lib.hid h4
            clear h1 h2 h3 h4 hst h0
            go_wp2_with fail
            go_meet
            exact ⟨_, _, rfl, rfl, H4.out⟩
          · have h1 := hst.new2
            refine to_alloc 17 rfl rfl rfl (hK.out _ _ h1.below fun _ => ?_)
            simp only [Act.put, List.setIfInBounds_toArray, List.set_cons_zero, List.set_cons_succ]
            clear hK
            refine lone 8 (by kernel_rfl) rfl (fun K hK => ?_)
            have h2 := h1.new1
            refine to_alloc 16 rfl rfl rfl (hK _ _ h2.below ?_)
            simp only [Act.put, List.setIfInBounds_toArray, List.set_cons_zero, List.set_cons_succ]
            clear hK
            refine lone 10 (by kernel_rfl) rfl (fun K hK => ?_)
            have h3 := h2.set1 x
            refine to_store (.tmp 16) (.tmp 105) rfl rfl rfl _ _ x rfl rfl (h2.one _ _ rfl).1 (by simp [flb]) (SX.out 0) (hK _ _ h3.below ?_)
            clear hK
            refine lone 11 (by kernel_rfl) rfl (fun K hK => ?_)
            have h4 := h3.set2 y
            refine to_store (.tmp 17) (.tmp 109) rfl rfl rfl _ _ y rfl rfl (h3.two _ _ rfl).1 (by simp [flb]) (SY.out 0) (hK _ _ h4.below ?_)
            clear hK
            refine wpAnyH_done (by kernel_rfl) (NoPanic.normal ?_) _
            have H4 := Lib.hid h4
            clear h1 h2 h3 h4 hst h0
            go_wp2_with fail
            go_meet
            exact ⟨_, _, rfl, rfl, H4.out⟩
        case rest =>
          obtain ⟨gp, gq, rfl, rfl, hst⟩ := hcut
          have HST := Lib.hid hst
          have cd := CD.out _ hst.below
          clear hst
          obtain ⟨w9, hw9⟩ : ∃ w9 : World, w9 = wc := ⟨_, rfl⟩
          rw [← hw9] at HST cd ⊢
          clear hw9
          go_wp2_with fail
          clear cd
          go_loopw [18] (fun z wq => ∃ j : Nat, z = .int .i64 j ∧ n ≤ j ∧ j ≤ 3 ∧ Hid (St w7 (some (gp, sn (j - n) x)) (some (gq, sn (j - n) y)) wq) ∧ Hid (x ≠ y → sn (j - n) x ≠ sn (j - n) y)) (fun z _ => 4 - (intOf z).toNat)
          case atStart => exact ⟨n, rfl, Nat.le_refl _, hn3, by rw [Nat.sub_self]; exact HST, by rw [Nat.sub_self]; exact Lib.hid id⟩
          case round =>
            obtain ⟨j, rfl, hj1, hj2, HQ, HNQ⟩ := hrel
            by_cases hjx : j < 3
            · have HS1 := Lib.hid (show sn (j + 1 - n) x = sd (sn (j - n) x) by rw [show j + 1 - n = (j - n) + 1 by omega]; rfl)
              have HS2 := Lib.hid (show sn (j + 1 - n) y = sd (sn (j - n) y) by rw [show j + 1 - n = (j - n) + 1 by omega]; rfl)
              have hX := Lib.hid (SX.out (j - n))
              have hY := Lib.hid (SY.out (j - n))
              generalize sn (j - n) x = X at *
              generalize sn (j - n) y = Y at *
              obtain ⟨w10, hw10⟩ : ∃ w10 : World, w10 = wr := ⟨_, rfl⟩
              rw [← hw10] at HQ ⊢
              clear hw10
              go_wp2_with fail
              have h0 := HQ.out.drew
              refine wp_region_noPanic ?_
              refine wp_region_held_drew (S := fun ww => St w7 (some (gp, X)) (some (gq, Y)) ww) (by kernel_rfl) h0 (fun _ => ?_)
              generalize w10.drew = V0 at *
              have SST := Lib.hid (show ∀ ww w', St w7 (some (gp, X)) (some (gq, Y)) ww → Below ww.heap.size ww w' → St w7 (some (gp, X)) (some (gq, Y)) w' from fun _ _ h hb => h.step hb)
              refine tk_load 0 118 (.tmp 16) gp (0) X rfl (by kernel_rfl) (by kernel_rfl) (by kernel_rfl) (fun _ _ _ _ h => h) rfl rfl rfl rfl (fun ww h => (h.one _ _ rfl).1.range) hX.out h0 ?_
              simp only [Act.put, List.setIfInBounds_toArray, List.set_cons_zero, List.set_cons_succ]
              refine tk_load 1 119 (.tmp 17) gq (0) Y rfl (by kernel_rfl) (by kernel_rfl) (by kernel_rfl) (fun _ _ _ _ h => h) rfl rfl rfl rfl (fun ww h => (h.two _ _ rfl).1.range) hY.out h0 ?_
              simp only [Act.put, List.setIfInBounds_toArray, List.set_cons_zero, List.set_cons_succ]
              by_cases hxy : X = Y
              · have HNS := Lib.hid (show x ≠ y → sd X ≠ sd Y from fun h => absurd hxy (HNQ.out h))
                refine tk_val 2 120 (.bool false) rfl (by kernel_rfl) (by kernel_rfl) (by kernel_rfl) (fun _ _ _ _ h => h) rfl rfl (fun _ _ => ev_neq (.tmp 118) (.tmp 119) X hX.out rfl rfl (congrArg (fun z => Value.agg (U z).toArray) hxy.symm)) h0 ?_
                simp only [Act.put, List.setIfInBounds_toArray, List.set_cons_zero, List.set_cons_succ]
                refine tk_move 3 121 (.tmp 120) (.bool false) rfl (by kernel_rfl) (by kernel_rfl) (by kernel_rfl) (fun _ _ _ _ h => h) rfl rfl rfl rfl h0 ?_
                simp only [Act.put, List.setIfInBounds_toArray, List.set_cons_zero, List.set_cons_succ]
                refine tkw_skip 4 122 rfl (by kernel_rfl) (by kernel_rfl) (by kernel_rfl) (fun _ _ _ _ h => h) (by kernel_rfl) rfl h0 ?_
                simp only [Act.put, List.setIfInBounds_toArray, List.set_cons_zero, List.set_cons_succ]
                refine tkw_skip 5 123 rfl (by kernel_rfl) (by kernel_rfl) (by kernel_rfl) (fun _ _ _ _ h => h) (by kernel_rfl) rfl h0 ?_
                simp only [Act.put, List.setIfInBounds_toArray, List.set_cons_zero, List.set_cons_succ]
                refine tkw_skip 6 124 rfl (by kernel_rfl) (by kernel_rfl) (by kernel_rfl) (fun _ _ _ _ h => h) (by kernel_rfl) rfl h0 ?_
                simp only [Act.put, List.setIfInBounds_toArray, List.set_cons_zero, List.set_cons_succ]
                refine tkw_skip 7 125 rfl (by kernel_rfl) (by kernel_rfl) (by kernel_rfl) (fun _ _ _ _ h => h) (by kernel_rfl) rfl h0 ?_
                simp only [Act.put, List.setIfInBounds_toArray, List.set_cons_zero, List.set_cons_succ]
                refine tkw_skip 8 126 rfl (by kernel_rfl) (by kernel_rfl) (by kernel_rfl) (fun _ _ _ _ h => h) (by kernel_rfl) rfl h0 ?_
                simp only [Act.put, List.setIfInBounds_toArray, List.set_cons_zero, List.set_cons_succ]
                refine tk_val 9 127 (.bool false) rfl (by kernel_rfl) (by kernel_rfl) (by kernel_rfl) (fun _ _ _ _ h => h) rfl rfl (fun _ _ => ev_pick_f (.tmp 121) (.tmp 126) (.const (.bool false)) _ rfl rfl rfl) h0 ?_
                simp only [Act.put, List.setIfInBounds_toArray, List.set_cons_zero, List.set_cons_succ]
                refine wpAnyH_done (by kernel_rfl) (NoPanic.normal ?_) _
                clear hxy
                go_wp2_with fail
                refine wp_region_noPanic ?_
                have h0' := h0.drew
                refine wp_region_held_drew (S := fun ww => Below w7.heap.size w7 ww) (by kernel_rfl) h0'.below (fun _ => ?_)
                clear h0
                have h0 := h0'
                clear h0'
                generalize V0.drew = V8 at *
                refine wpAnyH_ready (rs := [0, 2]) (by kernel_rfl) (by simp) ?_
                refine AllReadyH.cons (o := _) rfl (fun K hK => ?_) (AllReadyH.cons (o := _) rfl (fun K hK => ?_) AllReadyH.nil)
                · refine to_load 128 (.tmp 16) gp 23 X rfl rfl rfl rfl (h0.one _ _ rfl).1 hX.out (hK.out _ _ h0.below fun _ => ?_)
                  simp only [Act.put, List.setIfInBounds_toArray, List.set_cons_zero, List.set_cons_succ]
                  clear hK
                  refine wpAnyH_ready (rs := [1, 2]) (by kernel_rfl) (by simp) ?_
                  refine AllReadyH.cons (o := _) rfl (fun K hK => ?_) (AllReadyH.cons (o := _) rfl (fun K hK => ?_) AllReadyH.nil)
                  · refine to_call 25 129 _ _ #[.agg (U X).toArray] _ rfl rfl rfl rfl enters_lawstep (step_all X V8 hX.out (K7.out _ h0.below).2.2.2.2.2.1) (fun e w11 hq => ?_)
                    refine ⟨_, hq.1, ?_⟩
                    have h1 := h0.step hq.2
                    refine hK.out _ _ h1.below fun _ => ?_
                    simp only [Act.put, List.setIfInBounds_toArray, List.set_cons_zero, List.set_cons_succ]
                    clear hK hq
                    refine lone 2 (by kernel_rfl) rfl (fun K hK => ?_)
                    refine to_load 130 (.tmp 17) gq 23 Y rfl rfl rfl rfl (h1.two _ _ rfl).1 hY.out (hK _ _ h1.below ?_)
                    simp only [Act.put, List.setIfInBounds_toArray, List.set_cons_zero, List.set_cons_succ]
                    clear hK
                    refine lone 3 (by kernel_rfl) rfl (fun K hK => ?_)
                    refine to_call 25 131 _ _ #[.agg (U Y).toArray] _ rfl rfl rfl rfl enters_lawstep (step_all Y w11 hY.out (K7.out _ h1.below).2.2.2.2.2.1) (fun e w12 hq => ?_)
                    refine ⟨_, hq.1, ?_⟩
                    have h2 := h1.step hq.2
                    refine hK _ _ h2.below ?_
                    simp only [Act.put, List.setIfInBounds_toArray, List.set_cons_zero, List.set_cons_succ]
                    clear hK hq
                    have g1 := h2.set1 (sd X)
                    refine lone 4 (by kernel_rfl) rfl (fun K hK => ?_)
                    refine to_store (.tmp 16) (.tmp 129) rfl rfl rfl _ _ (sd X) rfl rfl (h2.one _ _ rfl).1 hX.out (sd_len _) (hK _ _ g1.below ?_)
                    clear hK
                    have g2 := g1.set2 (sd Y)
                    refine lone 5 (by kernel_rfl) rfl (fun K hK => ?_)
                    refine to_store (.tmp 17) (.tmp 131) rfl rfl rfl _ _ (sd Y) rfl rfl (g1.two _ _ rfl).1 hY.out (sd_len _) (hK _ _ g2.below ?_)
                    clear hK
                    refine wpAnyH_done (by kernel_rfl) (NoPanic.normal ?_) _
                    have H9 := Lib.hid g2
                    clear g1 g2 h2
                    go_wp2_with fail
                    go_roundw
                    case rel => exact ⟨j + 1, rfl, by omega, by omega, Lib.hid (by rw [HS1.out, HS2.out]; exact H9.out), Lib.hid (by rw [HS1.out, HS2.out]; exact HNS.out)⟩
                    case measure => simp [intOf]; omega
                  · refine to_load 130 (.tmp 17) gq 23 Y rfl rfl rfl rfl (h0.two _ _ rfl).1 hY.out (hK.out _ _ h0.below fun _ => ?_)
                    simp only [Act.put, List.setIfInBounds_toArray, List.set_cons_zero, List.set_cons_succ]
                    clear hK
                    refine lone 1 (by kernel_rfl) rfl (fun K hK => ?_)
                    refine to_call 25 129 _ _ #[.agg (U X).toArray] _ rfl rfl rfl rfl enters_lawstep (step_all X V8 hX.out (K7.out _ h0.below).2.2.2.2.2.1) (fun e w11 hq => ?_)
                    refine ⟨_, hq.1, ?_⟩
                    have h1 := h0.step hq.2
                    refine hK _ _ h1.below ?_
                    simp only [Act.put, List.setIfInBounds_toArray, List.set_cons_zero, List.set_cons_succ]
                    clear hK hq
                    refine lone 3 (by kernel_rfl) rfl (fun K hK => ?_)
                    refine to_call 25 131 _ _ #[.agg (U Y).toArray] _ rfl rfl rfl rfl enters_lawstep (step_all Y w11 hY.out (K7.out _ h1.below).2.2.2.2.2.1) (fun e w12 hq => ?_)
                    refine ⟨_, hq.1, ?_⟩
                    have h2 := h1.step hq.2
                    refine hK _ _ h2.below ?_
                    simp only [Act.put, List.setIfInBounds_toArray, List.set_cons_zero, List.set_cons_succ]
                    clear hK hq
                    have g1 := h2.set1 (sd X)
                    refine lone 4 (by kernel_rfl) rfl (fun K hK => ?_)
                    refine to_store (.tmp 16) (.tmp 129) rfl rfl rfl _ _ (sd X) rfl rfl (h2.one _ _ rfl).1 hX.out (sd_len _) (hK _ _ g1.below ?_)
                    clear hK
                    have g2 := g1.set2 (sd Y)
                    refine lone 5 (by kernel_rfl) rfl (fun K hK => ?_)
                    refine to_store (.tmp 17) (.tmp 131) rfl rfl rfl _ _ (sd Y) rfl rfl (g1.two _ _ rfl).1 hY.out (sd_len _) (hK _ _ g2.below ?_)
                    clear hK
                    refine wpAnyH_done (by kernel_rfl) (NoPanic.normal ?_) _
                    have H9 := Lib.hid g2
                    clear g1 g2 h2
                    go_wp2_with fail
                    go_roundw
                    case rel => exact ⟨j + 1, rfl, by omega, by omega, Lib.hid (by rw [HS1.out, HS2.out]; exact H9.out), Lib.hid (by rw [HS1.out, HS2.out]; exact HNS.out)⟩
                    case measure => simp [intOf]; omega
                · refine to_load 130 (.tmp 17) gq 23 Y rfl rfl rfl rfl (h0.two _ _ rfl).1 hY.out (hK.out _ _ h0.below fun _ => ?_)
                  simp only [Act.put, List.setIfInBounds_toArray, List.set_cons_zero, List.set_cons_succ]
                  clear hK
                  refine lone 0 (by kernel_rfl) rfl (fun K hK => ?_)
                  refine to_load 128 (.tmp 16) gp 23 X rfl rfl rfl rfl (h0.one _ _ rfl).1 hX.out (hK _ _ h0.below ?_)
                  simp only [Act.put, List.setIfInBounds_toArray, List.set_cons_zero, List.set_cons_succ]
                  clear hK
                  refine lone 1 (by kernel_rfl) rfl (fun K hK => ?_)
                  refine to_call 25 129 _ _ #[.agg (U X).toArray] _ rfl rfl rfl rfl enters_lawstep (step_all X V8 hX.out (K7.out _ h0.below).2.2.2.2.2.1) (fun e w11 hq => ?_)
                  refine ⟨_, hq.1, ?_⟩
                  have h1 := h0.step hq.2
                  refine hK _ _ h1.below ?_
                  simp only [Act.put, List.setIfInBounds_toArray, List.set_cons_zero, List.set_cons_succ]
                  clear hK hq
                  refine lone 3 (by kernel_rfl) rfl (fun K hK => ?_)
                  refine to_call 25 131 _ _ #[.agg (U Y).toArray] _ rfl rfl rfl rfl enters_lawstep (step_all Y w11 hY.out (K7.out _ h1.below).2.2.2.2.2.1) (fun e w12 hq => ?_)
                  refine ⟨_, hq.1, ?_⟩
                  have h2 := h1.step hq.2
                  refine hK _ _ h2.below ?_
                  simp only [Act.put, List.setIfInBounds_toArray, List.set_cons_zero, List.set_cons_succ]
                  clear hK hq
                  have g1 := h2.set1 (sd X)
                  refine lone 4 (by kernel_rfl) rfl (fun K hK => ?_)
                  refine to_store (.tmp 16) (.tmp 129) rfl rfl rfl _ _ (sd X) rfl rfl (h2.one _ _ rfl).1 hX.out (sd_len _) (hK _ _ g1.below ?_)
                  clear hK
                  have g2 := g1.set2 (sd Y)
                  refine lone 5 (by kernel_rfl) rfl (fun K hK => ?_)
                  refine to_store (.tmp 17) (.tmp 131) rfl rfl rfl _ _ (sd Y) rfl rfl (g1.two _ _ rfl).1 hY.out (sd_len _) (hK _ _ g2.below ?_)
                  clear hK
                  refine wpAnyH_done (by kernel_rfl) (NoPanic.normal ?_) _
                  have H9 := Lib.hid g2
                  clear g1 g2 h2
                  go_wp2_with fail
                  go_roundw
                  case rel => exact ⟨j + 1, rfl, by omega, by omega, Lib.hid (by rw [HS1.out, HS2.out]; exact H9.out), Lib.hid (by rw [HS1.out, HS2.out]; exact HNS.out)⟩
                  case measure => simp [intOf]; omega
              · refine tk_val 2 120 (.bool true) rfl (by kernel_rfl) (by kernel_rfl) (by kernel_rfl) (fun _ _ _ _ h => h) rfl rfl (fun _ _ => ev_neq_no (.tmp 118) (.tmp 119) X Y hX.out hY.out hxy rfl rfl rfl) h0 ?_
                simp only [Act.put, List.setIfInBounds_toArray, List.set_cons_zero, List.set_cons_succ]
                refine tk_move 3 121 (.tmp 120) (.bool true) rfl (by kernel_rfl) (by kernel_rfl) (by kernel_rfl) (fun _ _ _ _ h => h) rfl rfl rfl rfl h0 ?_
                simp only [Act.put, List.setIfInBounds_toArray, List.set_cons_zero, List.set_cons_succ]
                refine tkw_load 4 122 (.tmp 16) gp (0) X rfl (by kernel_rfl) (by kernel_rfl) (by kernel_rfl) (fun _ _ _ _ h => h) (by kernel_rfl) rfl rfl rfl (fun ww h => (h.one _ _ rfl).1.range) hX.out h0 ?_
                simp only [Act.put, List.setIfInBounds_toArray, List.set_cons_zero, List.set_cons_succ]
                refine tkw_load 6 124 (.tmp 17) gq (0) Y rfl (by kernel_rfl) (by kernel_rfl) (by kernel_rfl) (fun _ _ _ _ h => h) (by kernel_rfl) rfl rfl rfl (fun ww h => (h.two _ _ rfl).1.range) hY.out h0 ?_
                simp only [Act.put, List.setIfInBounds_toArray, List.set_cons_zero, List.set_cons_succ]
                refine lone 5 (by kernel_rfl) rfl (fun K hK => ?_)
                rw [if_pos (show Region.wanted _ _ = true from rfl)]
                refine wp_call 25 123 _ _ #[.agg (U X).toArray] _ rfl rfl rfl enters_lawstep (step_all X V0 hX.out (K7.out _ h0.below).2.2.2.2.2.1) (fun e w11 hq => ?_)
                refine ⟨_, hq.1, ?_⟩
                have h1 := SST.out _ _ h0 hq.2
                refine hK _ _ h1 ?_
                simp only [Act.put, List.setIfInBounds_toArray, List.set_cons_zero, List.set_cons_succ]
                clear hK hq
                refine lone 7 (by kernel_rfl) rfl (fun K hK => ?_)
                rw [if_pos (show Region.wanted _ _ = true from rfl)]
                refine wp_call 25 125 _ _ #[.agg (U Y).toArray] _ rfl rfl rfl enters_lawstep (step_all Y w11 hY.out (K7.out _ h1.below).2.2.2.2.2.1) (fun e w12 hq => ?_)
                refine ⟨_, hq.1, ?_⟩
                have h2 := SST.out _ _ h1 hq.2
                refine hK _ _ h2 ?_
                simp only [Act.put, List.setIfInBounds_toArray, List.set_cons_zero, List.set_cons_succ]
                clear hK hq
                by_cases hc : sd X = sd Y
                · refine tkw_val 8 126 (.bool true) rfl (by kernel_rfl) (by kernel_rfl) (by kernel_rfl) (fun _ _ _ _ h => h) (by kernel_rfl) rfl (fun _ _ => (ev_eql_dig (.tmp 123) (.tmp 125) (sd X) (sd Y) (sd_len _) (sd_len _) rfl rfl rfl).trans (by rw [decide_eq_true hc])) h2 ?_
                  simp only [Act.put, List.setIfInBounds_toArray, List.set_cons_zero, List.set_cons_succ]
                  refine tk_val 9 127 (.bool true) rfl (by kernel_rfl) (by kernel_rfl) (by kernel_rfl) (fun _ _ _ _ h => h) rfl rfl (fun _ _ => ev_pick_t (.tmp 121) (.tmp 126) (.const (.bool false)) _ rfl rfl rfl) h2 ?_
                  simp only [Act.put, List.setIfInBounds_toArray, List.set_cons_zero, List.set_cons_succ]
                  refine wpAnyH_done (by kernel_rfl) (NoPanic.normal ?_) _
                  have HX := Lib.hid (K7.out _ h2.below).2.2.2.2.2.2
                  go_wp2_with fail
                  go_ret
                  exact ⟨rfl, HX.out⟩
                · have HNS := Lib.hid (show x ≠ y → sd X ≠ sd Y from fun _ => hc)
                  refine tkw_val 8 126 (.bool false) rfl (by kernel_rfl) (by kernel_rfl) (by kernel_rfl) (fun _ _ _ _ h => h) (by kernel_rfl) rfl (fun _ _ => (ev_eql_dig (.tmp 123) (.tmp 125) (sd X) (sd Y) (sd_len _) (sd_len _) rfl rfl rfl).trans (by rw [decide_eq_false hc])) h2 ?_
                  simp only [Act.put, List.setIfInBounds_toArray, List.set_cons_zero, List.set_cons_succ]
                  refine tk_val 9 127 (.bool false) rfl (by kernel_rfl) (by kernel_rfl) (by kernel_rfl) (fun _ _ _ _ h => h) rfl rfl (fun _ _ => ev_pick_t (.tmp 121) (.tmp 126) (.const (.bool false)) _ rfl rfl rfl) h2 ?_
                  simp only [Act.put, List.setIfInBounds_toArray, List.set_cons_zero, List.set_cons_succ]
                  refine wpAnyH_done (by kernel_rfl) (NoPanic.normal ?_) _
                  have hc9 := h2
                  clear h2 h1 h0 hc hxy
                  go_wp2_with fail
                  refine wp_region_noPanic ?_
                  have h0 := hc9.drew
                  refine wp_region_held_drew (S := fun ww => Below w7.heap.size w7 ww) (by kernel_rfl) h0.below (fun _ => ?_)
                  clear hc9
                  generalize w12.drew = V8 at *
                  refine wpAnyH_ready (rs := [0, 2]) (by kernel_rfl) (by simp) ?_
                  refine AllReadyH.cons (o := _) rfl (fun K hK => ?_) (AllReadyH.cons (o := _) rfl (fun K hK => ?_) AllReadyH.nil)
                  · refine to_load 128 (.tmp 16) gp 23 X rfl rfl rfl rfl (h0.one _ _ rfl).1 hX.out (hK.out _ _ h0.below fun _ => ?_)
                    simp only [Act.put, List.setIfInBounds_toArray, List.set_cons_zero, List.set_cons_succ]
                    clear hK
                    refine wpAnyH_ready (rs := [1, 2]) (by kernel_rfl) (by simp) ?_
                    refine AllReadyH.cons (o := _) rfl (fun K hK => ?_) (AllReadyH.cons (o := _) rfl (fun K hK => ?_) AllReadyH.nil)
                    · refine to_call 25 129 _ _ #[.agg (U X).toArray] _ rfl rfl rfl rfl enters_lawstep (step_all X V8 hX.out (K7.out _ h0.below).2.2.2.2.2.1) (fun e w13 hq => ?_)
                      refine ⟨_, hq.1, ?_⟩
                      have h1 := h0.step hq.2
                      refine hK.out _ _ h1.below fun _ => ?_
                      simp only [Act.put, List.setIfInBounds_toArray, List.set_cons_zero, List.set_cons_succ]
                      clear hK hq
                      refine lone 2 (by kernel_rfl) rfl (fun K hK => ?_)
                      refine to_load 130 (.tmp 17) gq 23 Y rfl rfl rfl rfl (h1.two _ _ rfl).1 hY.out (hK _ _ h1.below ?_)
                      simp only [Act.put, List.setIfInBounds_toArray, List.set_cons_zero, List.set_cons_succ]
                      clear hK
                      refine lone 3 (by kernel_rfl) rfl (fun K hK => ?_)
                      refine to_call 25 131 _ _ #[.agg (U Y).toArray] _ rfl rfl rfl rfl enters_lawstep (step_all Y w13 hY.out (K7.out _ h1.below).2.2.2.2.2.1) (fun e w14 hq => ?_)
                      refine ⟨_, hq.1, ?_⟩
                      have h2 := h1.step hq.2
                      refine hK _ _ h2.below ?_
                      simp only [Act.put, List.setIfInBounds_toArray, List.set_cons_zero, List.set_cons_succ]
                      clear hK hq
                      have g1 := h2.set1 (sd X)
                      refine lone 4 (by kernel_rfl) rfl (fun K hK => ?_)
                      refine to_store (.tmp 16) (.tmp 129) rfl rfl rfl _ _ (sd X) rfl rfl (h2.one _ _ rfl).1 hX.out (sd_len _) (hK _ _ g1.below ?_)
                      clear hK
                      have g2 := g1.set2 (sd Y)
                      refine lone 5 (by kernel_rfl) rfl (fun K hK => ?_)
                      refine to_store (.tmp 17) (.tmp 131) rfl rfl rfl _ _ (sd Y) rfl rfl (g1.two _ _ rfl).1 hY.out (sd_len _) (hK _ _ g2.below ?_)
                      clear hK
                      refine wpAnyH_done (by kernel_rfl) (NoPanic.normal ?_) _
                      have H9 := Lib.hid g2
                      clear g1 g2 h2
                      go_wp2_with fail
                      go_roundw
                      case rel => exact ⟨j + 1, rfl, by omega, by omega, Lib.hid (by rw [HS1.out, HS2.out]; exact H9.out), Lib.hid (by rw [HS1.out, HS2.out]; exact HNS.out)⟩
                      case measure => simp [intOf]; omega
                    · refine to_load 130 (.tmp 17) gq 23 Y rfl rfl rfl rfl (h0.two _ _ rfl).1 hY.out (hK.out _ _ h0.below fun _ => ?_)
                      simp only [Act.put, List.setIfInBounds_toArray, List.set_cons_zero, List.set_cons_succ]
                      clear hK
                      refine lone 1 (by kernel_rfl) rfl (fun K hK => ?_)
                      refine to_call 25 129 _ _ #[.agg (U X).toArray] _ rfl rfl rfl rfl enters_lawstep (step_all X V8 hX.out (K7.out _ h0.below).2.2.2.2.2.1) (fun e w13 hq => ?_)
                      refine ⟨_, hq.1, ?_⟩
                      have h1 := h0.step hq.2
                      refine hK _ _ h1.below ?_
                      simp only [Act.put, List.setIfInBounds_toArray, List.set_cons_zero, List.set_cons_succ]
                      clear hK hq
                      refine lone 3 (by kernel_rfl) rfl (fun K hK => ?_)
                      refine to_call 25 131 _ _ #[.agg (U Y).toArray] _ rfl rfl rfl rfl enters_lawstep (step_all Y w13 hY.out (K7.out _ h1.below).2.2.2.2.2.1) (fun e w14 hq => ?_)
                      refine ⟨_, hq.1, ?_⟩
                      have h2 := h1.step hq.2
                      refine hK _ _ h2.below ?_
                      simp only [Act.put, List.setIfInBounds_toArray, List.set_cons_zero, List.set_cons_succ]
                      clear hK hq
                      have g1 := h2.set1 (sd X)
                      refine lone 4 (by kernel_rfl) rfl (fun K hK => ?_)
                      refine to_store (.tmp 16) (.tmp 129) rfl rfl rfl _ _ (sd X) rfl rfl (h2.one _ _ rfl).1 hX.out (sd_len _) (hK _ _ g1.below ?_)
                      clear hK
                      have g2 := g1.set2 (sd Y)
                      refine lone 5 (by kernel_rfl) rfl (fun K hK => ?_)
                      refine to_store (.tmp 17) (.tmp 131) rfl rfl rfl _ _ (sd Y) rfl rfl (g1.two _ _ rfl).1 hY.out (sd_len _) (hK _ _ g2.below ?_)
                      clear hK
                      refine wpAnyH_done (by kernel_rfl) (NoPanic.normal ?_) _
                      have H9 := Lib.hid g2
                      clear g1 g2 h2
                      go_wp2_with fail
                      go_roundw
                      case rel => exact ⟨j + 1, rfl, by omega, by omega, Lib.hid (by rw [HS1.out, HS2.out]; exact H9.out), Lib.hid (by rw [HS1.out, HS2.out]; exact HNS.out)⟩
                      case measure => simp [intOf]; omega
                  · refine to_load 130 (.tmp 17) gq 23 Y rfl rfl rfl rfl (h0.two _ _ rfl).1 hY.out (hK.out _ _ h0.below fun _ => ?_)
                    simp only [Act.put, List.setIfInBounds_toArray, List.set_cons_zero, List.set_cons_succ]
                    clear hK
                    refine lone 0 (by kernel_rfl) rfl (fun K hK => ?_)
                    refine to_load 128 (.tmp 16) gp 23 X rfl rfl rfl rfl (h0.one _ _ rfl).1 hX.out (hK _ _ h0.below ?_)
                    simp only [Act.put, List.setIfInBounds_toArray, List.set_cons_zero, List.set_cons_succ]
                    clear hK
                    refine lone 1 (by kernel_rfl) rfl (fun K hK => ?_)
                    refine to_call 25 129 _ _ #[.agg (U X).toArray] _ rfl rfl rfl rfl enters_lawstep (step_all X V8 hX.out (K7.out _ h0.below).2.2.2.2.2.1) (fun e w13 hq => ?_)
                    refine ⟨_, hq.1, ?_⟩
                    have h1 := h0.step hq.2
                    refine hK _ _ h1.below ?_
                    simp only [Act.put, List.setIfInBounds_toArray, List.set_cons_zero, List.set_cons_succ]
                    clear hK hq
                    refine lone 3 (by kernel_rfl) rfl (fun K hK => ?_)
                    refine to_call 25 131 _ _ #[.agg (U Y).toArray] _ rfl rfl rfl rfl enters_lawstep (step_all Y w13 hY.out (K7.out _ h1.below).2.2.2.2.2.1) (fun e w14 hq => ?_)
                    refine ⟨_, hq.1, ?_⟩
                    have h2 := h1.step hq.2
                    refine hK _ _ h2.below ?_
                    simp only [Act.put, List.setIfInBounds_toArray, List.set_cons_zero, List.set_cons_succ]
                    clear hK hq
                    have g1 := h2.set1 (sd X)
                    refine lone 4 (by kernel_rfl) rfl (fun K hK => ?_)
                    refine to_store (.tmp 16) (.tmp 129) rfl rfl rfl _ _ (sd X) rfl rfl (h2.one _ _ rfl).1 hX.out (sd_len _) (hK _ _ g1.below ?_)
                    clear hK
                    have g2 := g1.set2 (sd Y)
                    refine lone 5 (by kernel_rfl) rfl (fun K hK => ?_)
                    refine to_store (.tmp 17) (.tmp 131) rfl rfl rfl _ _ (sd Y) rfl rfl (g1.two _ _ rfl).1 hY.out (sd_len _) (hK _ _ g2.below ?_)
                    clear hK
                    refine wpAnyH_done (by kernel_rfl) (NoPanic.normal ?_) _
                    have H9 := Lib.hid g2
                    clear g1 g2 h2
                    go_wp2_with fail
                    go_roundw
                    case rel => exact ⟨j + 1, rfl, by omega, by omega, Lib.hid (by rw [HS1.out, HS2.out]; exact H9.out), Lib.hid (by rw [HS1.out, HS2.out]; exact HNS.out)⟩
                    case measure => simp [intOf]; omega
            · obtain rfl : j = 3 := by omega
              have HEQ := Lib.hid (show x = y from Classical.byContradiction fun h => HNQ.out h HCUT.out)
              have HBB := Lib.hid HQ.out.below
              go_wp2_with fail
              go_roundw
              case rel => exact ⟨k + 1, by omega, rfl, HBB, Lib.hid (HTS.out HEQ.out)⟩
              case measure => simp [intOf]; omega
      · obtain rfl : k = 19 := by omega
        have hLM := HT.out
        rw [List.take_of_length_le (by rw [LL.out]; omega), List.take_of_length_le (by rw [LM.out]; omega)] at hLM
        exact absurd hLM HNE.out
  · rw [decide_eq_false hE]
    clear hE
    have HQ1 := Lib.hid (show pubk (rc L (lft (dgl m)) 19) = p from HR1.out)
    have HQ2 := Lib.hid (show pubk (rc M (lft (dgl m)) 19) = p from HR2.out)
    have E1L := Lib.hid (rc_len L (lft (dgl m)) 19)
    have E2L := Lib.hid (rc_len M (lft (dgl m)) 19)
    generalize rc L (lft (dgl m)) 19 = E1 at *
    generalize rc M (lft (dgl m)) 19 = E2 at *
    obtain ⟨ba, oa, rfl, _, _⟩ := (K7.out _ (Below.refl _ _)).2.2.2.1.2.2.2.2 (by rw [E1L.out]; omega)
    obtain ⟨bb, ob, rfl, _, _⟩ := (K7.out _ (Below.refl _ _)).2.2.2.2.1.2.2.2.2 (by rw [E2L.out]; omega)
    go_wp2_with fail
    go_loopw [12, 13, 76] (fun v1 v2 x wr => ∃ (k n : Nat) (A' : Option Addr) (c' : Nat) (B' : Option Addr) (d' : Nat), v1 = .slice A' n c' ∧ v2 = .slice B' n d' ∧ x = .int .i64 k ∧ k ≤ 19 ∧ n = 32 * k ∧ Hid (Two w7 (.slice A' n c') (.slice B' n d') ((E1.take k).flatten) ((E2.take k).flatten) wr)) (fun _ _ x _ => 19 - (intOf x).toNat)
    case atStart => exact ⟨0, 0, none, 0, none, 0, rfl, rfl, rfl, by omega, rfl, Lib.hid ⟨HB8.out, Own.nil _ _, Own.nil _ _, fun g e => by cases e⟩⟩
    case round =>
      obtain ⟨k, n, A', c', B', d', rfl, rfl, rfl, hk, hn, HT⟩ := hrel
      by_cases hlt : k < 19
      · obtain ⟨wo, hwo⟩ : ∃ wo : World, wo = wr := ⟨_, rfl⟩
        rw [← hwo] at HT ⊢
        clear hwo
        obtain ⟨x, hx⟩ : ∃ x, E1[k]? = some x := ⟨_, List.getElem?_eq_getElem (by rw [E1L.out]; exact hlt)⟩
        obtain ⟨y, hy⟩ : ∃ x, E2[k]? = some x := ⟨_, List.getElem?_eq_getElem (by rw [E2L.out]; exact hlt)⟩
        have RA := Lib.hid (show ∀ ww, Below w7.heap.size w7 ww → ww.rangeAt ba (oa + k * 32) (U x) from fun ww h => by
          obtain ⟨b', o', e, _, hc⟩ := (K7.out ww h).2.2.2.1.2.2.2.2 (by rw [E1L.out]; omega)
          injection e with e
          injection e with e1 e2
          subst e1 e2
          exact hc k _ hx)
        have RB := Lib.hid (show ∀ ww, Below w7.heap.size w7 ww → ww.rangeAt bb (ob + k * 32) (U y) from fun ww h => by
          obtain ⟨b', o', e, _, hc⟩ := (K7.out ww h).2.2.2.2.1.2.2.2.2 (by rw [E2L.out]; omega)
          injection e with e
          injection e with e1 e2
          subst e1 e2
          exact hc k _ hy)
        have hxl : x.length = 32 := (K7.out _ (Below.refl _ _)).2.2.2.1.2.2.2.1 x (List.mem_of_getElem? hx)
        have hyl : y.length = 32 := (K7.out _ (Below.refl _ _)).2.2.2.2.1.2.2.2.1 y (List.mem_of_getElem? hy)
        have HF1 := Lib.hid (show (E1.take (k + 1)).flatten = (E1.take k).flatten ++ x by rw [take_one _ _ _ hx, List.flatten_append]; simp)
        have HF2 := Lib.hid (show (E2.take (k + 1)).flatten = (E2.take k).flatten ++ y by rw [take_one _ _ _ hy, List.flatten_append]; simp)
        have hl1 : (E1.take k).flatten.length = n := by
          obtain ⟨_, _, e⟩ := HT.out.one.slice
          injection e with _ e _
          exact e.symm
        have hl2 : (E2.take k).flatten.length = n := by
          obtain ⟨_, _, e⟩ := HT.out.two.slice
          injection e with _ e _
          exact e.symm
        have bk : (k : Int) < 19 := by omega
        clear hx hy
        generalize (E1.take k).flatten = l1 at *
        generalize (E2.take k).flatten = l2 at *
        go_wp2_with fail
        refine wp_region_noPanic ?_
        have ht0 : Two w7 (.slice A' n c') (.slice B' n d') l1 l2 wo.drew := ⟨HT.out.below.drew, HT.out.one, HT.out.two, HT.out.apart⟩
        have h0 := ht0.below
        refine wp_region_held_drew (S := fun ww => Below w7.heap.size w7 ww) (by kernel_rfl) h0 (fun _ => ?_)
        generalize wo.drew = V0 at *
        refine tk_move 0 79 (.tmp 12) (.slice A' n c') rfl (by kernel_rfl) (by kernel_rfl) (by kernel_rfl) (fun _ _ _ _ h => h) rfl rfl rfl rfl h0 ?_
        simp only [Act.put, List.setIfInBounds_toArray, List.set_cons_zero, List.set_cons_succ]
        refine tk_move 1 80 (.tmp 10) (.slice (some ⟨ba, oa, none⟩) 19 c1) rfl (by kernel_rfl) (by kernel_rfl) (by kernel_rfl) (fun _ _ _ _ h => h) rfl rfl rfl rfl h0 ?_
        simp only [Act.put, List.setIfInBounds_toArray, List.set_cons_zero, List.set_cons_succ]
        refine tk_move 2 81 (.tmp 14) (.int .i64 k) rfl (by kernel_rfl) (by kernel_rfl) (by kernel_rfl) (fun _ _ _ _ h => h) rfl rfl rfl rfl h0 ?_
        simp only [Act.put, List.setIfInBounds_toArray, List.set_cons_zero, List.set_cons_succ]
        refine tk_val 3 82 (.pointer (some ⟨ba, oa + k * 32, none⟩)) rfl (by kernel_rfl) (by kernel_rfl) (by kernel_rfl) (fun _ _ _ _ h => h) rfl rfl (fun _ _ => ev_index (.tmp 80) (.tmp 81) ba oa 19 c1 k rfl rfl rfl hlt) h0 ?_
        simp only [Act.put, List.setIfInBounds_toArray, List.set_cons_zero, List.set_cons_succ]
        refine tk_val 4 83 (.slice (some ⟨ba, oa + k * 32, none⟩) 32 32) rfl (by kernel_rfl) (by kernel_rfl) (by kernel_rfl) (fun _ _ _ _ h => h) rfl rfl (fun _ _ => ev_arr_at (.tmp 82) ba (oa + k * 32) rfl rfl) h0 ?_
        simp only [Act.put, List.setIfInBounds_toArray, List.set_cons_zero, List.set_cons_succ]
        refine tk_move 6 85 (.tmp 13) (.slice B' n d') rfl (by kernel_rfl) (by kernel_rfl) (by kernel_rfl) (fun _ _ _ _ h => h) rfl rfl rfl rfl h0 ?_
        simp only [Act.put, List.setIfInBounds_toArray, List.set_cons_zero, List.set_cons_succ]
        refine tk_move 7 86 (.tmp 11) (.slice (some ⟨bb, ob, none⟩) 19 d1) rfl (by kernel_rfl) (by kernel_rfl) (by kernel_rfl) (fun _ _ _ _ h => h) rfl rfl rfl rfl h0 ?_
        simp only [Act.put, List.setIfInBounds_toArray, List.set_cons_zero, List.set_cons_succ]
        refine tk_move 8 87 (.tmp 14) (.int .i64 k) rfl (by kernel_rfl) (by kernel_rfl) (by kernel_rfl) (fun _ _ _ _ h => h) rfl rfl rfl rfl h0 ?_
        simp only [Act.put, List.setIfInBounds_toArray, List.set_cons_zero, List.set_cons_succ]
        refine tk_val 9 88 (.pointer (some ⟨bb, ob + k * 32, none⟩)) rfl (by kernel_rfl) (by kernel_rfl) (by kernel_rfl) (fun _ _ _ _ h => h) rfl rfl (fun _ _ => ev_index (.tmp 86) (.tmp 87) bb ob 19 d1 k rfl rfl rfl hlt) h0 ?_
        simp only [Act.put, List.setIfInBounds_toArray, List.set_cons_zero, List.set_cons_succ]
        refine tk_val 10 89 (.slice (some ⟨bb, ob + k * 32, none⟩) 32 32) rfl (by kernel_rfl) (by kernel_rfl) (by kernel_rfl) (fun _ _ _ _ h => h) rfl rfl (fun _ _ => ev_arr_at (.tmp 88) bb (ob + k * 32) rfl rfl) h0 ?_
        simp only [Act.put, List.setIfInBounds_toArray, List.set_cons_zero, List.set_cons_succ]
        refine lone 5 (by kernel_rfl) rfl (fun K hK => to_appb 84 (.tmp 79) (.tmp 83) rfl rfl rfl w7.heap.size (.slice A' n c') l1 x ba (oa + k * 32) 32 rfl rfl ht0.one (RA.out _ h0) hxl (by rw [hl1]; omega) h0.size (fun v1 w9 ho hg hp => ?_))
        obtain ⟨A2, c2, e2⟩ := ho.slice
        rw [List.length_append, hl1, hxl] at e2
        subst e2
        have ht1 := ht0.app1 ho hg hp
        have h1 := ht1.below
        refine hK _ _ h1 ?_
        simp only [Act.put, List.setIfInBounds_toArray, List.set_cons_zero, List.set_cons_succ]
        clear hK ho hg hp
        refine lone 11 (by kernel_rfl) rfl (fun K hK => to_appb 90 (.tmp 85) (.tmp 89) rfl rfl rfl w7.heap.size (.slice B' n d') l2 y bb (ob + k * 32) 32 rfl rfl ht1.two (RB.out _ h1) hyl (by rw [hl2]; omega) h1.size (fun v2 w10 ho hg hp => ?_))
        obtain ⟨B2, d2, e2⟩ := ho.slice
        rw [List.length_append, hl2, hyl] at e2
        subst e2
        have ht2 := ht1.app2 ho hg hp
        have h2 := ht2.below
        refine hK _ _ h2 ?_
        simp only [Act.put, List.setIfInBounds_toArray, List.set_cons_zero, List.set_cons_succ]
        clear hK ho hg hp
        refine tk_assign 12 12 (.tmp 84) (.slice A2 (n + 32) c2) rfl (by kernel_rfl) (by kernel_rfl) (by kernel_rfl) (fun _ _ _ _ h => h) rfl rfl rfl rfl h2 ?_
        simp only [Act.put, List.setIfInBounds_toArray, List.set_cons_zero, List.set_cons_succ]
        refine tk_assign 13 13 (.tmp 90) (.slice B2 (n + 32) d2) rfl (by kernel_rfl) (by kernel_rfl) (by kernel_rfl) (fun _ _ _ _ h => h) rfl rfl rfl rfl h2 ?_
        simp only [Act.put, List.setIfInBounds_toArray, List.set_cons_zero, List.set_cons_succ]
        refine wpAnyH_done (by kernel_rfl) (NoPanic.normal ?_) _
        have H2 := Lib.hid ht2
        clear ht0 ht1 ht2 h0 h1 h2
        go_wp2_with fail
        go_roundw
        case rel => exact ⟨k + 1, n + 32, A2, c2, B2, d2, rfl, rfl, rfl, by omega, by omega, Lib.hid (by rw [HF1.out, HF2.out]; exact H2.out)⟩
        case measure => simp [intOf]; omega
      · obtain rfl : k = 19 := by omega
        have hn2 : n = 608 := by omega
        clear hn
        subst hn2
        have hT := HT.out
        rw [List.take_of_length_le (by rw [E1L.out]; omega), List.take_of_length_le (by rw [E2L.out]; omega)] at hT
        clear HT
        obtain ⟨wo, hwo⟩ : ∃ wo : World, wo = wr := ⟨_, rfl⟩
        rw [← hwo] at hT ⊢
        clear hwo
        obtain ⟨A2, c2, e2, hb2⟩ := hT.one.byt
        injection e2 with e2 e3 e4
        subst e2 e4
        have C1 := tagged_all publicT E1.flatten A' c' wo (by decide) (by rw [← e3]; omega) (hb2.keep fun i hi => ⟨hi.2, rfl⟩) (K7.out _ hT.below).2.2.2.2.2.1
        rw [show tagd publicT.data.toList E1.flatten = p from HQ1.out, ← e3] at C1
        have CC := Lib.hid C1
        have HT := Lib.hid hT
        clear hT C1 hb2 e3
        go_wp2_with fail
        refine CC.out.mono ?_
        rintro e w9 ⟨rfl, hb⟩
        have ho9 := HT.out.two.below hb (Nat.le_refl _)
        have hb9 : Below w7.heap.size w7 w9 := HT.out.below.trans (hb.mono HT.out.below.size)
        obtain ⟨A2, c2, e2, hb2⟩ := ho9.byt
        injection e2 with e2 e3 e4
        subst e2 e4
        have C1 := tagged_all publicT E2.flatten B' d' w9 (by decide) (by rw [← e3]; omega) (hb2.keep fun i hi => ⟨hi.2, rfl⟩) (K7.out _ hb9).2.2.2.2.2.1
        rw [show tagd publicT.data.toList E2.flatten = p from HQ2.out, ← e3] at C1
        have CC2 := Lib.hid C1
        have HB9 := Lib.hid hb9
        clear C1 hb2 e3 ho9 hb hb9 CC HT
        go_wp2_with fail
        refine CC2.out.mono ?_
        rintro e w10 ⟨rfl, hb⟩
        have HX := Lib.hid (K7.out _ (HB9.out.trans (hb.mono HB9.out.size))).2.2.2.2.2.2
        have q1 := eq_self p HP.out
        clear hb CC2
        go_wp2_with fail
        go_ret
        exact ⟨rfl, HX.out⟩
end Go.Proofs.YtllkkafajchioaaDoor
