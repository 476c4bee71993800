/- Chains: the law's ends. -/
import Derived.Test.YtllkkafajchioaaDoorYP
namespace Go.Proofs.YtllkkafajchioaaDoor
open Go.RowKit

theorem rc_get (L : List (List UInt8)) (D : List Nat) (k n d : Nat) (x : List UInt8) (hk : k < n) (hd : D[k]? = some d) (hx : L[k]? = some x) : (rc L D n)[k]? = some (sn d x) := by
  unfold rc
  rw [List.getElem?_map, List.getElem?_range hk]
  simp [List.getD_eq_getElem?_getD, hd, hx]
theorem lft_at (D : List Nat) (k d : Nat) (hd : D[k]? = some d) : (lft D)[k]? = some (3 - d) := by simp [lft, hd]

set_option maxRecDepth 100000 in
set_option maxHeartbeats 3200000 in
theorem ends_all (m : List UInt8) (L : List (List UInt8)) (A : Option Addr) (c : Nat) (w : World) (hm : m.length = 32) (hL : L.length = 19) (hl : DL w (· < w.heap.size) L A c) (hk : KR w Kt) :
    Calls Tryd.prog 26 #[.agg (U m).toArray, .slice A 19 c] w fun e w' => ∃ v, e = .returned v ∧ OwnD w' w.heap.size v (rc L (lft (dgl m)) 19) ∧ Below w.heap.size w w' := by
  have HM := Lib.hid hm
  have HLL := Lib.hid hL
  have HL := Lib.hid hl
  have HK := Lib.hid hk
  have hlt0 := hk.lt
  have hcA := hl.1
  have hmA : c ≤ 9223372036854775807 := hl.2.1
  rw [hL] at hcA
  obtain ⟨ba, oa, rfl, hSa, hra⟩ := hl.2.2.2.2 (by omega)
  have HRA := Lib.hid hra
  clear hm hL hl hk hra
  go_enter Tryd.func26, Tryd.ntmps26
  go_upto_region 1 with fail
  generalize hW1 : w.alloc _ = W1
  obtain ⟨h0, hb1, hz1⟩ := box1 w (U m).toArray 23 W1 hW1
  clear hW1
  have hb1' : Below w.heap.size w W1 := hb1
  go_wp2_with (refine load_B rfl (.tmp 2) rfl w.heap.size rfl 23 m h0 HM.out ?_)
  refine (Digits_all m W1 HM.out).mono ?_
  rintro e w2 ⟨gd, rfl, k2, _, k4⟩
  have K2 := Lib.hid (show ∀ ww, Below w2.heap.size w2 ww → RowN ww gd 47 (dgl m) ∧ (∀ k x, L[k]? = some x → ww.rangeAt ba (oa + k * 32) (U x)) ∧ KR ww Kt ∧ Below w.heap.size w ww from fun ww h => by
    have hb2 : Below w.heap.size w ww := hb1'.trans ((k4.mono hb1'.size).trans (h.mono (by have := k4.size; omega)))
    exact ⟨k2.keep (h.block _ k2.lt), (fun k x hx j u hu => (World.cell?_of_block (hb2.block ba hSa)).trans (HRA.out k x hx j u hu)), HK.out.keep (hb2.block 0 hlt0), hb2⟩)
  have hz2 : w.heap.size ≤ w2.heap.size := by have := k4.size; have := hb1'.size; omega
  have DM := Lib.hid (dgl_len m)
  have D3 := Lib.hid (dgl_le m)
  clear h0 hb1 hb1' hz1 k2 k4 hSa
  go_wp2_with fail
  go_loopw [4, 13] (fun v x wr => ∃ (k : Nat) (A' : Option Addr) (c' : Nat), v = .slice A' k c' ∧ x = .int .i64 k ∧ k ≤ 19 ∧ Hid (Below w2.heap.size w2 wr) ∧ Hid (OwnD wr w2.heap.size (.slice A' k c') ((rc L (lft (dgl m)) 19).take k))) (fun _ x _ => 19 - (intOf x).toNat)
  case atStart => exact ⟨0, none, 0, rfl, rfl, by omega, Lib.hid (Below.refl _ _), Lib.hid (OwnD.nil _ _)⟩
  case round =>
    obtain ⟨k, A', c', rfl, rfl, hk, HW, HO⟩ := hrel
    by_cases hlt : k < 19
    · obtain ⟨d, hd⟩ : ∃ x, (dgl m)[k]? = some x := ⟨_, List.getElem?_eq_getElem (by rw [DM.out]; exact hlt)⟩
      obtain ⟨x, hx⟩ : ∃ x, L[k]? = some x := ⟨_, List.getElem?_eq_getElem (by rw [HLL.out]; exact hlt)⟩
      have hd3 := D3.out d (List.mem_of_getElem? hd)
      have CD := Lib.hid (show ∀ ww, Below w2.heap.size w2 ww → ww.cell? ⟨gd, k, none⟩ = some (.int .i64 (d : Int)) from fun ww h => (K2.out ww h).1.cell hd)
      have hr := (K2.out wr HW.out).2.1 k x hx
      have hxl : x.length = 32 := HL.out.2.2.2.1 x (List.mem_of_getElem? hx)
      have SN := Lib.hid (show ∀ j, (sn j x).length = 32 from fun j => sn_len j _ hxl)
      have HT := Lib.hid (take_one (rc L (lft (dgl m)) 19) k (sn (3 - d) x) (rc_get L (lft (dgl m)) k 19 (3 - d) x hlt (lft_at _ k d hd) hx))
      have HTL := Lib.hid (show ((rc L (lft (dgl m)) 19).take k).length = k by rw [List.length_take, rc_len]; omega)
      have bk : (k : Int) < 19 := by omega
      clear hx hd
      generalize hMk : (rc L (lft (dgl m)) 19).take k = M at *
      clear hMk
      have n7 : RowB (wr.alloc (.cells (U (flb 32 [])).toArray 23)) wr.heap.size 23 (flb 32 []) := heap_alloc_new wr _
      have HF := Lib.hid ((Fg.make HW.out HO.out).set x)
      have HX := Lib.hid hxl
      go_upto_region 5 with (first | (refine load_D rfl (.tmp 16) rfl ba (oa + k * 32) x rfl hr HX.out ?_) | (refine store_B rfl (.tmp 7) (.tmp 17) rfl wr.heap.size (flb 32 []) x rfl rfl 23 n7 HX.out (by simp [flb]) ?_))
      generalize hW8 : (wr.alloc _).setRow _ _ = W8
      rw [show (wr.alloc (.cells (U (flb 32 [])).toArray 23)).setRow wr.heap.size (U x).toArray = W8 from hW8] at HF
      generalize wr.heap.size = g at *
      clear hW8 n7 hr HW HO
      obtain ⟨w8, hw8⟩ : ∃ w8 : World, w8 = W8 := ⟨_, rfl⟩
      rw [← hw8] at HF ⊢
      clear hw8
      have cd := CD.out _ HF.out.below
      go_wp2_with fail
      clear cd
      go_loopw [8] (fun y wq => ∃ j : Nat, y = .int .i64 j ∧ d ≤ j ∧ j ≤ 3 ∧ Hid (Fg w2 (.slice A' k c') M g (sn (j - d) x) wq)) (fun y _ => 4 - (intOf y).toNat)
      case atStart => exact ⟨d, rfl, Nat.le_refl _, hd3, Lib.hid (by rw [Nat.sub_self]; exact HF.out)⟩
      case round =>
        obtain ⟨j, rfl, hj1, hj2, HQQ⟩ := hrel
        by_cases hjx : j < 3
        · have HS1 := Lib.hid (show sn (j + 1 - d) x = sd (sn (j - d) x) by rw [show j + 1 - d = (j - d) + 1 by omega]; rfl)
          have hst := HQQ.out
          have hsn := SN.out (j - d)
          have hsn2 : (sd (sn (j - d) x)).length = 32 := sd_len _
          generalize sn (j - d) x = y at *
          have rp := hst.box
          go_wp2_with (refine load_B rfl (.tmp 7) rfl g rfl 23 y rp hsn ?_)
          refine (step_all y wr hsn (K2.out _ hst.below).2.2.1).mono ?_
          rintro e w9 ⟨rfl, hb9⟩
          have hst9 := hst.step hb9
          have rp9 := hst9.box
          have H9 := Lib.hid (hst9.set (sd y))
          clear hst hst9 hb9 rp
          go_wp2_with (refine store_B rfl (.tmp 7) (.tmp 27) rfl g y (sd y) rfl rfl 23 rp9 hsn2 hsn ?_)
          go_roundw
          case rel => exact ⟨j + 1, rfl, by omega, by omega, Lib.hid (by rw [HS1.out]; exact H9.out)⟩
          case measure => simp [intOf]; omega
        · obtain rfl : j = 3 := by omega
          have hsn := SN.out (3 - d)
          generalize sn (3 - d) x = y at *
          have rp := HQQ.out.box
          have hzb := HQQ.out.below.size
          have HOA := Lib.hid (HQQ.out.own.alloc (.cells (U y).toArray 23))
          have HSRC := Lib.hid (show RowB (wr.alloc (.cells (U y).toArray 23)) wr.heap.size 23 y from heap_alloc_new wr _)
          have HBW := Lib.hid HQQ.out.below
          go_wp2_with (first
            | (refine load_B rfl (.tmp 7) rfl g rfl 23 y rp hsn ?_)
            | (refine bs_dig rfl (.tmp 29) rfl y rfl hsn ?_)
            | (at_builtin; refine app_dig rfl (.tmp 28) (.tmp 30) rfl w2.heap.size wr.heap.size _ M y rfl rfl HOA.out HSRC.out hsn (by rw [HTL.out]; omega) (by simp; omega) ?_; intro v10 w10 ho10 hg10; obtain ⟨A10, c10, e10⟩ := ho10.slice; rw [List.length_append, HTL.out] at e10; subst e10; have HO10 := Lib.hid ho10; have HB10 := Lib.hid (below_ownD (HBW.out.alloc hzb _) hg10 HOA.out (Nat.le_refl _) (by simp; omega)); clear ho10 hg10))
          go_roundw
          case rel => exact ⟨k + 1, A10, c10, rfl, rfl, by omega, HB10, Lib.hid (by rw [HT.out]; exact HO10.out)⟩
          case measure => simp [intOf]; omega
    · obtain rfl : k = 19 := by omega
      have HT := Lib.hid (show (rc L (lft (dgl m)) 19).take 19 = rc L (lft (dgl m)) 19 by rw [List.take_of_length_le (by rw [rc_len]; omega)])
      rw [HT.out] at HO
      go_wp2_with fail
      go_ret
      exact ⟨_, rfl, HO.out.low hz2, (K2.out _ HW.out).2.2.2⟩
end Go.Proofs.YtllkkafajchioaaDoor
